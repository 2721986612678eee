package turns

import (
	"strconv"
	"strings"

	"ferryman/api"
)

// Pick tells some number from 0 on, below n.
type Pick func(n int) int

// Config is some config, of which quotas are small, so that they are reached.
func Config(pick Pick) api.Config {
	return api.Config{
		Tasks: 1 + pick(5), Active: 1 + pick(5), Keys: 1 + pick(8), Depth: 2 + pick(4),
		TS: [...]int{1, 2, 5, 9, 40}[pick(5)], KeyLen: 2, ValLen: 3, Fan: 3 + pick(2),
	}
}

// Key is some key, of few.
func Key(pick Pick) string { return string([]byte{byte('a' + pick(9))}) }

// inTx is some call of a transaction; now and then one that is refused.
func inTx(pick Pick, n int) api.Call {
	kinds := [...]uint8{api.Get, api.Get, api.Put, api.Put, api.Put, api.Put, api.Delete, api.Delete, api.Scan}
	x := api.Call{Kind: kinds[pick(len(kinds))], Tx: n - pick(12)/11, Key: Key(pick), Value: strconv.Itoa(pick(1000))}
	if x.Kind == api.Scan && pick(2) == 0 {
		x.Key = ""
	}
	if pick(2) == 0 {
		x.End = Key(pick)
	}
	if x.Limit = api.MaxLimit; pick(2) == 0 {
		x.Limit = pick(6) - pick(12)/11
	}
	if pick(40) == 0 {
		x.Key, x.Value = strings.Repeat("k", pick(4)), strings.Repeat("v", pick(5))
	}
	return x
}

// other is some call that is of no transaction, or of none that there may be.
func other(pick Pick, n int) api.Call {
	kinds := [...]uint8{api.Vacuum, api.Vacuum, api.Migrate, api.Migrate, 0, 255}
	return api.Call{Kind: kinds[pick(len(kinds))], Tx: n, Engine: uint8(1 + pick(30)/14)}
}

// Program is some program, of so many calls: transactions one behind the other, and other calls between.
func Program(pick Pick, calls int) []api.Call {
	var l []api.Call
	for n := 1; len(l) < calls; n++ {
		l = append(l, api.Call{Kind: api.Begin})
		for range pick(6) {
			l = append(l, inTx(pick, n))
		}
		if pick(4) == 0 {
			l = append(l, other(pick, n))
		}
		last := [...]uint8{api.Commit, api.Commit, api.Abort}
		l = append(l, api.Call{Kind: last[pick(len(last))], Tx: n})
	}
	return l[:calls]
}

// Programs are some for a config, of so many calls at most each; now and then there is a task without one.
func Programs(pick Pick, c api.Config, most int) [][]api.Call {
	var l [][]api.Call
	for range c.Tasks - pick(20)/19 {
		l = append(l, Program(pick, pick(most+1)))
	}
	return l
}

// Picks are some tasks of a config, one behind the other; in one half of all cases each goes on for some turns.
func Picks(pick Pick, c api.Config, n int) []int {
	long := 1
	if pick(2) == 0 {
		long += pick(30)
	}
	var l []int
	for len(l) < n {
		task := pick(c.Tasks)
		for range 1 + pick(long) {
			l = append(l, task)
		}
	}
	return l[:n]
}
