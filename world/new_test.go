package world_test

import (
	"fmt"
	"testing"

	"quorate/api"
	"quorate/world"
)

func TestP10_1WhatIsNoWorld(t *testing.T) {
	list := func(l ...int) []int { return l }
	with := func(nodes, voters []int) api.World {
		return api.World{Nodes: nodes, Voters: voters, Election: 4, Beat: 1, Keep: 10}
	}
	ticks := func(election, beat, keep int) api.World {
		w := of(2)
		w.Election, w.Beat, w.Keep = election, beat, keep
		return w
	}
	for _, x := range []struct {
		what string
		s    api.World
		is   bool
	}{
		{"three nodes", of(3), true},
		{"one node", of(1), true},
		{"nine nodes", of(9), true},
		{"not all vote", with(list(2, 4, 9), list(4)), true},
		{"nobody", api.World{Election: 4, Beat: 1, Keep: 10}, false},
		{"no nodes", with(nil, list(1)), false},
		{"no nodes, no voters", with(list(), list()), false},
		{"no voters", with(list(1, 2), nil), false},
		{"nodes fall", with(list(2, 1), list(1)), false},
		{"a node twice", with(list(1, 1, 2), list(1)), false},
		{"no node", with(list(0, 1), list(1)), false},
		{"less than none", with(list(-1, 1), list(1)), false},
		{"a node above all", with(list(1, 10), list(1)), false},
		{"voters fall", with(list(1, 2, 3), list(3, 2)), false},
		{"a voter twice", with(list(1, 2, 3), list(2, 2)), false},
		{"a voter that is no node", with(list(1, 2, 3), list(0)), false},
		{"a voter that is none of the nodes", with(list(1, 2, 4), list(1, 3)), false},
		{"a voter behind the nodes", with(list(1, 2), list(3)), false},
		{"an election of two ticks", ticks(2, 1, 10), true},
		{"an election of one tick", ticks(1, 1, 10), false},
		{"an election of too many", ticks(api.MaxTicks+1, 1, 10), false},
		{"no ticks between rounds", ticks(4, 0, 10), false},
		{"as many as an election has", ticks(4, 4, 10), false},
		{"one entry is kept", ticks(4, 1, 1), true},
		{"half of a log is kept", ticks(4, 1, 128), true},
		{"none is kept", ticks(4, 1, 0), false},
		{"more than half", ticks(4, 1, 129), false},
	} {
		w, e := world.New(x.s)
		if (w != nil) != x.is || x.is && e != api.OK || !x.is && e != api.ErrWorld {
			t.Errorf("P10.1: %s: %v, %v", x.what, w != nil, e)
		}
	}
}

func TestP10_1AWorldBegins(t *testing.T) {
	s := api.World{Nodes: []int{2, 3, 5}, Voters: []int{2, 5}, Election: 7, Beat: 2, Keep: 4}
	w := begin(t, s)
	if w.Way() != 0 || len(w.History()) != 0 {
		t.Errorf("P10.1: nothing has happened: %d, %+v", w.Way(), w.History())
	}
	for id := range 11 {
		want := "down"
		switch id {
		case 2, 5:
			want = "follower of 0, term 0, vote 0, commit 0 of 0, [2 5] [] []"
		case 3:
			want = "follower of 0, term 0, vote 0, commit 0 of 0, [] [] []"
		}
		is(t, fmt.Sprintf("P10.1: node %d", id), state(w, id), want)
		if len(w.Files(id)) != 0 {
			t.Errorf("P10.1: node %d begins without files: %+v", id, w.Files(id))
		}
	}
}

// campaigns: behind how many ticks of its own a node wants to lead.
func campaigns(w *world.World, id int) int {
	for n := range 200 {
		if l := w.Do(tick(id)); len(l) == 1 && len(l[0].Sends) > 0 {
			return n + 1
		}
	}
	return 0
}

func TestP10_1ElectionBeatLeaseAndKeep(t *testing.T) {
	s := of(3)
	s.Election, s.Beat, s.Keep = 12, 5, 3
	is(t, "P10.1: Election, by a node's number", fmt.Sprint(campaigns(begin(t, s), 1), campaigns(begin(t, s), 3)), "12 18")
	w := led(t, s)
	if n := campaigns(w, 1); n != 5 {
		t.Errorf("P10.1: Beat: a round behind %d ticks", n)
	}
	w.Do(opens(1))
	w.Do(opens(1))
	allComes(w)
	if x, _, _ := w.Look(1); x.Log.Base != 3 {
		t.Errorf("P10.1: Keep: %+v", x)
	}
	is(t, "P10.1: without Lease a read waits", told(w.Do(read(1, get("k")))), "node 1, entries>2, entries>3")
	s.Lease = true
	is(t, "P10.1: with Lease it does not", told(led(t, s).Do(read(1, get("k")))), `node 1, answer 1: 2 "" 0 []`)
}

func TestP10_1WhatIsHandedInStays(t *testing.T) {
	s := of(3)
	var nodes, voters []int
	s.Nodes, nodes = roomy(s.Nodes, 77)
	s.Voters, voters = roomy(s.Voters, 77)
	w := begin(t, s)
	is(t, "P10.1: it is not changed", fmt.Sprint(nodes, voters), "[1 2 3 77 77 77] [1 2 3 77 77 77]")
	spoil(nodes, 88)
	spoil(voters, 88)
	w.Do(stop(2))
	w.Do(up(2))
	k, _ := w.Kept(2)
	is(t, "P10.1: nor kept", state(w, 2)+tell(k.Config), "follower of 0, term 0, vote 0, commit 0 of 0, [1 2 3] [] []"+tell(api.Config{Voters: []int{1, 2, 3}}))
}
