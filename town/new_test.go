package town_test

import (
	"slices"
	"testing"

	"quorate/api"
	"quorate/town"
)

func TestP15_1ATown(t *testing.T) {
	for _, x := range []struct {
		nodes, voters     []int
		clients, patience int
	}{
		{[]int{1}, []int{1}, 1, 1},
		{[]int{9}, []int{9}, api.MaxClients, api.MaxTicks},
		{[]int{2, 4, 7}, []int{4, 7}, 2, 50},
		{[]int{1, 2, 3, 4, 5, 6, 7, 8, 9}, []int{3}, 5, 99},
	} {
		w := api.World{Nodes: x.nodes, Voters: x.voters, Election: 2, Beat: 1, Keep: 1}
		a := begin(t, w, x.clients, x.patience)
		for k := range x.clients {
			stands(t, "P15.1: numbered from 1 on, the first node next", a, k+1, api.ClientStatus{Node: x.nodes[0]})
		}
		for _, k := range []int{0, x.clients + 1} {
			if s, is := a.Client(k); s != (api.ClientStatus{}) || is {
				t.Errorf("P15.1: %d clients: there is %d: %+v", x.clients, k, s)
			}
		}
		for id := range 11 {
			if _, _, up := a.Look(id); up != slices.Contains(x.nodes, id) {
				t.Errorf("P15.1: the nodes %v: node %d is up: %v", x.nodes, id, up)
			}
		}
		if len(a.Wants()) != 0 || len(a.History()) != 0 {
			t.Errorf("P15.1: something was wanted: %s, %s", wanted(a), asked(a))
		}
	}
}

func TestP15_1Refused(t *testing.T) {
	noWorld := of(3)
	noWorld.Voters = []int{4}
	noNodes := api.World{Election: 4, Beat: 1, Keep: 10}
	noElection := of(3)
	noElection.Election = 1
	for _, x := range []struct {
		what              string
		w                 api.World
		clients, patience int
		want              api.Errno
	}{
		{"no clients", of(3), 0, 3, api.ErrBound},
		{"fewer than none", of(3), -1, 3, api.ErrBound},
		{"one too many", of(3), api.MaxClients + 1, 3, api.ErrBound},
		{"a voter that is no node", noWorld, 1, 3, api.ErrWorld},
		{"no nodes", noNodes, 1, 3, api.ErrWorld},
		{"an election that may not be", noElection, api.MaxClients, 3, api.ErrWorld},
		{"nothing at all", api.World{}, 1, 1, api.ErrWorld},
		{"no patience", of(3), 1, 0, api.ErrStart},
		{"less than none", of(3), 6, -1, api.ErrStart},
		{"too much of it", of(3), 1, api.MaxTicks + 1, api.ErrStart},
		{"clients ahead of the world", noWorld, 0, 3, api.ErrBound},
		{"clients ahead of patience", of(3), 7, 0, api.ErrBound},
		{"clients ahead of both", noWorld, 7, 0, api.ErrBound},
		{"the world ahead of patience", noWorld, 1, 0, api.ErrWorld},
		{"no nodes ahead of patience", noNodes, 1, api.MaxTicks + 1, api.ErrWorld},
	} {
		if a, e := town.New(x.w, x.clients, x.patience); a != nil || e != x.want {
			t.Errorf("P15.1: %s: %v, %d; want %d", x.what, a, e, x.want)
		}
	}
	for _, n := range extreme {
		if a, e := town.New(of(3), n, 3); a != nil || e != api.ErrBound {
			t.Errorf("P15.1: %d clients: %v, %d", n, a, e)
		}
		if a, e := town.New(of(3), 1, n); a != nil || e != api.ErrStart {
			t.Errorf("P15.1: patience %d: %v, %d", n, a, e)
		}
		w := of(3)
		w.Keep = n
		if a, e := town.New(w, 1, 3); a != nil || e != api.ErrWorld {
			t.Errorf("P15.1: Keep %d: %v, %d", n, a, e)
		}
	}
}

func TestP15_1Patience(t *testing.T) {
	for _, patience := range []int{1, 2, 7, api.MaxTicks} {
		a := led(t, 3, 1, patience)
		do(t, a, stop(2)) // so that nothing is committed
		do(t, a, stop(3))
		wants(t, a, 1, add("a"), api.OK)
		for n := 1; n < patience; n++ {
			do(t, a, tickAll())
			stands(t, "P15.1: it waits still", a, 1, api.ClientStatus{Node: 1, Waits: true, Busy: true})
		}
		do(t, a, tickAll())
		stands(t, "P15.1: it waits no more, and node 2, which it asks then, is down", a, 1, api.ClientStatus{Node: 3, Busy: true})
	}
}

// What is handed in is neither kept nor changed.
func TestP15_1HandedIn(t *testing.T) {
	w := of(3)
	var nodes, voters []int
	w.Nodes, nodes = roomy(w.Nodes, 77)
	w.Voters, voters = roomy(w.Voters, 78)
	a := begin(t, w, 2, 3)
	is(t, "P15.1: lists are not changed", tell(nodes, voters), "[[1 2 3 77 77 77] [1 2 3 78 78 78]]")
	spoil(nodes, 9)
	spoil(voters, 8)
	begun, whole := roomy([]int{3, 1}, 79)
	do(t, a, stop(3))
	a.Heal(4, begun)
	is(t, "P15.4: nodes are not changed", tell(whole), "[[3 1 79 79 79]]")
	wants(t, a, 1, add("a"), api.OK)
	a.Heal(3, nil)
	for id := 1; id <= 3; id++ {
		if s, _, up := a.Look(id); !up || s.Leader != 1 || !slices.Equal(s.Config.Voters, []int{1, 2, 3}) {
			t.Errorf("P15.1: the world hangs on lists that were handed in: node %d: %+v", id, s)
		}
	}
	is(t, "P15.1: the clients hang on none", tell(a.Wants()[0].Result), tell(api.Result{Kind: api.Done, Version: 1}))
}

func TestP15_1TownsHaveNothingToDoWithOneAnother(t *testing.T) {
	a, b := led(t, 3, 2, 3), led(t, 3, 2, 3)
	wants(t, a, 1, add("a"), api.OK)
	a.Heal(10, nil)
	do(t, a, stop(1))
	is(t, "P15.1: another town", wanted(b)+asked(b)+state(b, 1), "leader of 1, term 1, commit 1, []")
	stands(t, "P15.1: another town's client", b, 1, api.ClientStatus{Node: 1})
}
