package town_test

import (
	"testing"

	"quorate/api"
)

func TestP15_3Wants(t *testing.T) {
	a := led(t, 1, 3, 3) // four steps
	is(t, "P15.3: nothing was wanted", tell(a.Wants()), tell([]api.Call{}))
	wants(t, a, 2, add("a"), api.OK)       // a session is asked for at 5
	wants(t, a, 2, add("no"), api.ErrBusy) // the command at 6
	wants(t, a, 3, api.Command{}, api.ErrCommand)
	wants(t, a, 2, add("b"), api.OK) // 7
	do(t, a, api.Step{})             // 8
	wants(t, a, 1, get("k"), api.OK) // a session at 9
	do(t, a, stop(1))                // 10; asked in vain at 11
	wants(t, a, 3, get("j"), api.OK) // both, in vain, at 12 and 13
	want := []api.Call{
		{From: 5, To: 6, Client: 2, Number: 1, Command: add("a"), Result: api.Result{Kind: api.Done, Version: 1}},
		{From: 7, To: 7, Client: 2, Number: 2, Command: add("b"), Result: api.Result{Kind: api.Done, Version: 2}},
		{From: 9, Client: 1, Number: 1, Command: get("k")},
		{From: 12, Client: 3, Number: 1, Command: get("j")},
	}
	is(t, "P15.3: in order", tell(a.Wants()), tell(want))
	a.Heal(5, []int{1}) // 14 to 16, and 17 to 19; then ticks at 20, 23, 26 and 29, the last of which makes it lead: client 1 has its value at 30, client 3 a session at 31; a tick at 32
	want[2].To, want[2].Result = 30, api.Result{Kind: api.Done, Value: "ab", Version: 2}
	want[3].To, want[3].Result = 33, api.Result{Kind: api.Missing}
	is(t, "P15.3: in the end", tell(a.Wants()), tell(want))
}

// Errors on the way are none of what was wanted.
func TestP15_3NoError(t *testing.T) {
	a := led(t, 3, 2, 2)
	do(t, a, stop(1))
	wants(t, a, 1, add("a"), api.OK)
	wants(t, a, 2, add("b"), api.OK)
	for range 12 {
		do(t, a, tickAll())
		for _, c := range a.Wants() {
			if c.Err != api.OK || c.To != 0 || tell(c.Result) != tell(api.Result{}) {
				t.Fatalf("P15.3: there is no result: %+v", c)
			}
		}
	}
	a.Heal(30, []int{1, 2, 3})
	for i, c := range a.Wants() {
		if c.Err != api.OK || c.To == 0 || c.Result.Kind != api.Done || c.Client != i+1 || c.Number != 1 {
			t.Errorf("P15.3: there is one: %+v", c)
		}
	}
}

func TestP15_3Client(t *testing.T) {
	a := led(t, 1, 2, 3)
	for _, k := range append([]int{0, 3, 6, 7}, extreme...) {
		if s, is := a.Client(k); s != (api.ClientStatus{}) || is {
			t.Errorf("P15.3: there is no client %d: %+v, %v", k, s, is)
		}
	}
	wants(t, a, 2, add("a"), api.OK)
	stands(t, "P15.3: it wants nothing", a, 1, api.ClientStatus{Node: 1})
	stands(t, "P15.3: it has a session", a, 2, api.ClientStatus{Session: 2, Node: 1, Busy: true})
	do(t, a, tickAll())
	stands(t, "P15.3: it has a result", a, 2, api.ClientStatus{Session: 2, Number: 1, Node: 1})
}

func TestP15_3Look(t *testing.T) {
	a := led(t, 2, 1, 3)
	wants(t, a, 1, add("a"), api.OK)
	a.Heal(3, nil)
	for id := 1; id <= 2; id++ {
		s, x, up := a.Look(id)
		want, table, isUp := a.World.Look(id)
		is(t, "P15.3: as the world's", tell(s, x, up), tell(want, table, isUp))
		if !up || s.ID != id || s.Role != []int{0, api.Leader, api.Follower}[id] || len(x.Pairs) != 1 || x.Pairs[0] != (api.Pair{Key: "k", Value: "a", Version: 1}) {
			t.Errorf("P15.3: node %d: %+v, %+v, %v", id, s, x, up)
		}
	}
	do(t, a, stop(2))
	for _, id := range append([]int{0, 2, 3, 10}, extreme...) {
		if s, x, up := a.Look(id); up || tell(s, x) != tell(api.Status{}, api.Table{}) {
			t.Errorf("P15.3: node %d is down, or none: %+v, %+v, %v", id, s, x, up)
		}
	}
}

func TestP15_3WhatComesOutIsNew(t *testing.T) {
	tales := func(spoils bool) (l []string) {
		a := led(t, 3, 2, 3)
		list := api.Command{Kind: api.List, If: 9}
		for i, c := range []api.Command{add("a"), list, {Kind: api.Put, Key: "j"}, list, list} {
			wants(t, a, 1+i%2, c, api.OK)
			for range 3 {
				a.Heal(1, nil)
				w := a.Wants()
				s, x, _ := a.Look(1)
				l = append(l, tell(w, s, x))
				if !spoils {
					continue
				}
				for _, c := range w {
					spoil(c.Result.Keys, "over")
				}
				for _, c := range x.Sessions {
					spoil(c.Answer.Keys, "over")
				}
				spoil(w, api.Call{From: 88, Client: 88})
				spoil(s.Log.Entries, api.Entry{Index: 88})
				spoil(x.Pairs, api.Pair{Key: "over"})
			}
		}
		return l
	}
	whole, spoilt := tales(false), tales(true)
	for i := range whole {
		if whole[i] != spoilt[i] {
			t.Fatalf("P15.3: what came out was changed, and so was the town: %s\nit was %s", spoilt[i], whole[i])
		}
	}
}

// No two lists of one answer share memory.
func TestP15_3NoTwoLists(t *testing.T) {
	a := led(t, 1, 1, 3)
	wants(t, a, 1, add("a"), api.OK)
	a.Heal(1, nil)
	list := api.Command{Kind: api.List, If: 9}
	wants(t, a, 1, list, api.OK)
	wants(t, a, 1, list, api.OK)
	l := a.Wants()
	spoil(l[1].Result.Keys, "over")
	is(t, "P15.3: the other's keys", tell(l[2].Result.Keys, a.Wants()[1].Result.Keys), "[[k] [k]]")
}
