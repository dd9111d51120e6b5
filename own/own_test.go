package own_test

import (
	"fmt"
	"testing"

	"quorate/api"
	"quorate/own"
)

// spoil: all lists of a configuration, and their spare room.
func spoil(c api.Config) {
	for _, l := range [][]int{c.Voters, c.Next, c.Learners} {
		l = l[:cap(l)]
		for i := range l {
			l[i] = 88
		}
	}
}

func TestCopies(t *testing.T) {
	all := []int{1, 2, 3, 4, 5}
	c := api.Config{Voters: all[:2], Next: all[1:3], Learners: all[4:]}
	x := api.Snapshot{Index: 7, Term: 3, Config: c, Data: "state"}
	was := fmt.Sprintf("%+v", x)
	if got := own.Config(c); fmt.Sprint(got) != fmt.Sprint(c) {
		t.Errorf("Config(%+v): %+v", c, got)
	}
	if got := fmt.Sprintf("%+v", own.Snapshot(x)); got != was {
		t.Errorf("Snapshot: %s; want %s", got, was)
	}
	spoil(own.Config(c))
	spoil(own.Snapshot(x).Config)
	if fmt.Sprintf("%+v", x) != was || fmt.Sprint(all) != "[1 2 3 4 5]" {
		t.Errorf("copies share memory: %+v, %v", x, all)
	}
}

func TestCopiesOfTables(t *testing.T) {
	keys := []string{"a", "b", "spare"}
	pairs := []api.Pair{{Key: "a", Value: "x", Version: 1}, {Key: "spare"}}
	sessions := []api.Session{{Client: 2, Last: 1, Answer: api.Result{Kind: api.Done, Keys: keys[:2]}, Seen: 4}, {Client: 9}}
	x := api.Table{Pairs: pairs[:1], Sessions: sessions[:1], Time: 5}
	was := fmt.Sprintf("%+v", []any{x, keys, pairs, sessions})
	if got := own.Table(x); fmt.Sprint(got) != fmt.Sprint(x) {
		t.Errorf("Table(%+v): %+v", x, got)
	}
	if got := own.Result(sessions[0].Answer); fmt.Sprint(got) != fmt.Sprint(sessions[0].Answer) {
		t.Errorf("Result: %+v", got)
	}
	for _, l := range [][]string{own.Table(x).Sessions[0].Answer.Keys, own.Result(sessions[0].Answer).Keys} {
		for i := range l[:cap(l)] {
			l[:cap(l)][i] = "over"
		}
	}
	c := own.Table(x)
	for i := range c.Pairs[:cap(c.Pairs)] {
		c.Pairs[:cap(c.Pairs)][i].Key = "over"
	}
	for i := range c.Sessions[:cap(c.Sessions)] {
		c.Sessions[:cap(c.Sessions)][i].Client = 88
	}
	if got := fmt.Sprintf("%+v", []any{x, keys, pairs, sessions}); got != was {
		t.Errorf("copies share memory: %s; it was %s", got, was)
	}
}

func TestCalls(t *testing.T) {
	keys := []string{"a", "b", "spare"}
	calls := []api.Call{{From: 1, To: 2, Client: 3, Number: 4, Command: api.Command{Kind: api.List}, Result: api.Result{Kind: api.Done, Keys: keys[:2]}}, {From: 5, Err: api.ErrLeader}, {From: 9}}
	was := fmt.Sprintf("%+v", []any{keys, calls})
	got := own.Calls(calls[:2])
	if fmt.Sprint(got) != fmt.Sprint(calls[:2]) {
		t.Errorf("Calls(%+v): %+v", calls[:2], got)
	}
	for i := range got[0].Result.Keys[:cap(got[0].Result.Keys)] {
		got[0].Result.Keys[:cap(got[0].Result.Keys)][i] = "over"
	}
	for i := range got[:cap(got)] {
		got[:cap(got)][i].From = 88
	}
	if now := fmt.Sprintf("%+v", []any{keys, calls}); now != was {
		t.Errorf("copies share memory: %s; it was %s", now, was)
	}
}

func TestOfNothing(t *testing.T) {
	if got := own.Calls(nil); len(got) != 0 {
		t.Errorf("Calls of nothing: %+v", got)
	}
	if got := own.Config(api.Config{}); fmt.Sprint(got) != fmt.Sprint(api.Config{}) {
		t.Errorf("Config of nothing: %+v", got)
	}
	if got := own.Snapshot(api.Snapshot{}); fmt.Sprint(got) != fmt.Sprint(api.Snapshot{}) {
		t.Errorf("Snapshot of nothing: %+v", got)
	}
	if got := own.Table(api.Table{}); fmt.Sprint(got) != fmt.Sprint(api.Table{}) {
		t.Errorf("Table of nothing: %+v", got)
	}
	if got := own.Result(api.Result{}); fmt.Sprint(got) != fmt.Sprint(api.Result{}) {
		t.Errorf("Result of nothing: %+v", got)
	}
}
