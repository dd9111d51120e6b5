package grid_test

import (
	"slices"
	"testing"

	"quorate/api"
	"quorate/grid"
)

func TestP21_1AGrid(t *testing.T) {
	for _, x := range []struct {
		nodes, voters             []int
		groups, workers, patience int
	}{
		{[]int{1}, []int{1}, 1, 1, 1},
		{[]int{9}, []int{9}, api.MaxGroups, api.MaxClients, api.MaxTicks},
		{[]int{2, 4, 7}, []int{4, 7}, 2, 3, 50},
		{[]int{1, 2, 3, 4, 5, 6, 7, 8, 9}, []int{3}, 3, 5, 99},
	} {
		g := build(t, api.World{Nodes: x.nodes, Voters: x.voters, Election: 2, Beat: 1, Keep: 1}, x.groups, x.workers, x.patience)
		is(t, "P21.1: no job was begun", tell(g.Works()), tell([]api.Work{}))
		for group := range api.MaxGroups + 2 {
			for id := range 11 {
				there := group >= 1 && group <= x.groups && slices.Contains(x.nodes, id)
				if _, _, up := g.Look(group, id); up != there {
					t.Errorf("P21.1: %d groups of the nodes %v: node %d of group %d is up: %v", x.groups, x.nodes, id, group, up)
				}
			}
		}
		for k := range api.MaxClients + 2 {
			want := api.ErrWorld
			if k >= 1 && k <= x.workers {
				want = api.OK
			}
			wants(t, g, k, x.groups, does(t, "get a"), want)
		}
	}
}

func TestP21_1Refused(t *testing.T) {
	noWorld := of(3)
	noWorld.Voters = []int{4}
	noNodes := api.World{Election: 4, Beat: 1, Keep: 10}
	noElection := of(3)
	noElection.Election = 1
	for _, x := range []struct {
		what                      string
		w                         api.World
		groups, workers, patience int
		want                      api.Errno
	}{
		{"no groups", of(3), 0, 1, 3, api.ErrBound},
		{"fewer than none", of(3), -1, 1, 3, api.ErrBound},
		{"one too many", of(3), api.MaxGroups + 1, 1, 3, api.ErrBound},
		{"no workers", of(3), 1, 0, 3, api.ErrBound},
		{"fewer workers than none", of(3), 1, -1, 3, api.ErrBound},
		{"a worker too many", of(3), api.MaxGroups, api.MaxClients + 1, 3, api.ErrBound},
		{"a voter that is no node", noWorld, 1, 1, 3, api.ErrWorld},
		{"no nodes", noNodes, 4, 1, 3, api.ErrWorld},
		{"an election that may not be", noElection, 1, api.MaxClients, 3, api.ErrWorld},
		{"nothing at all", api.World{}, 1, 1, 1, api.ErrWorld},
		{"no patience", of(3), 1, 1, 0, api.ErrStart},
		{"less than none", of(3), 4, 6, -1, api.ErrStart},
		{"too much of it", of(3), 1, 1, api.MaxTicks + 1, api.ErrStart},
		{"groups ahead of the world", noWorld, 0, 1, 3, api.ErrBound},
		{"groups ahead of patience", of(3), 5, 1, 0, api.ErrBound},
		{"groups ahead of all", noWorld, 5, 1, 0, api.ErrBound},
		{"workers ahead of the world", noWorld, 1, 7, 3, api.ErrBound},
		{"workers ahead of patience", of(3), 1, 0, 0, api.ErrBound},
		{"the world ahead of patience", noWorld, 2, 1, 0, api.ErrWorld},
	} {
		if g, e := grid.New(x.w, x.groups, x.workers, x.patience); g != nil || e != x.want {
			t.Errorf("P21.1: %s: %v, %d; want %d", x.what, g, e, x.want)
		}
	}
	for _, n := range extreme {
		if g, e := grid.New(of(3), n, 1, 3); g != nil || e != api.ErrBound {
			t.Errorf("P21.1: %d groups: %v, %d", n, g, e)
		}
		if g, e := grid.New(of(3), 1, n, 3); g != nil || e != api.ErrBound {
			t.Errorf("P21.1: %d workers: %v, %d", n, g, e)
		}
		if g, e := grid.New(of(3), 1, 1, n); g != nil || e != api.ErrStart {
			t.Errorf("P21.1: patience %d: %v, %d", n, g, e)
		}
		w := of(3)
		w.Keep = n
		if g, e := grid.New(w, 1, 1, 3); g != nil || e != api.ErrWorld {
			t.Errorf("P21.1: Keep %d: %v, %d", n, g, e)
		}
	}
}

// A node that is asked in vain is asked again once the others were, of which each is down.
func TestP21_1Patience(t *testing.T) {
	for _, patience := range []int{1, 2, 3} {
		for group := 1; group <= 2; group++ {
			g := led(t, 3, 2, 1, patience)
			do(t, g, group, stop(2)) // so that nothing is committed
			do(t, g, group, stop(3))
			wants(t, g, 1, group, does(t, "get a"), api.OK)
			for range patience + 1 {
				is(t, "P21.1: it waits, or asks another", logged(t, g, group), "0/0")
				do(t, g, group, tickAll())
			}
			do(t, g, group, tickAll())
			is(t, "P21.1: it has asked all", logged(t, g, group), "0/0 0/0")
		}
	}
}

// What is handed in is neither kept nor changed.
func TestP21_1HandedIn(t *testing.T) {
	w := of(3)
	var nodes, voters []int
	w.Nodes, nodes = roomy(w.Nodes, 77)
	w.Voters, voters = roomy(w.Voters, 78)
	g := build(t, w, 2, 2, 3)
	is(t, "P21.1: lists are not changed", tell(nodes, voters), "[[1 2 3 77 77 77] [1 2 3 78 78 78]]")
	spoil(nodes, 9)
	spoil(voters, 8)
	begun, whole := roomy([]int{3, 1}, 79)
	do(t, g, 2, stop(3))
	g.Heal(4, begun)
	is(t, "P21.4: nodes are not changed", tell(whole), "[[3 1 79 79 79]]")
	wants(t, g, 1, 2, does(t, "put a v"), api.OK)
	g.Heal(10, nil)
	for group := 1; group <= 2; group++ {
		for id := 1; id <= 3; id++ {
			if s, _, up := g.Look(group, id); !up || s.Leader != 1 || !slices.Equal(s.Config.Voters, []int{1, 2, 3}) {
				t.Errorf("P21.1: the world hangs on lists that were handed in: node %d of group %d: %+v", id, group, s)
			}
		}
	}
	is(t, "P21.1: the workers hang on none", tell(g.Works()[0].Status.Result), tell(api.Result{Kind: api.Done, Version: 1}))
}

// Each group is a town of its own.
func TestP21_1GroupsHaveNothingToDoWithOneAnother(t *testing.T) {
	g := build(t, of(3), 3, 1, 3)
	for range 4 {
		do(t, g, 2, tickAll())
		for range 20 {
			do(t, g, 2, api.Step{Kind: api.Deliver})
		}
	}
	do(t, g, 3, stop(1))
	for group, want := range []string{1: "{Term:0 Vote:0 Commit:0} true", 2: "{Term:1 Vote:1 Commit:1} true", 3: "{Term:0 Vote:0 Commit:0} false"} {
		if s, _, up := g.Look(group, 1); group > 0 {
			is(t, "P21.1: node 1 of a group", tell(s.Hard, up), "["+want+"]")
		}
	}
}

func TestP21_1GridsHaveNothingToDoWithOneAnother(t *testing.T) {
	a, b := led(t, 1, 2, 2, 3), led(t, 1, 2, 2, 3)
	wants(t, a, 1, 1, does(t, "put a v"), api.OK)
	a.Heal(10, nil)
	do(t, a, 2, stop(1))
	is(t, "P21.1: another grid", works(b)+cells(b, 2)+logged(t, b, 1), "")
	wants(t, b, 1, 1, does(t, "get a"), api.OK)
	is(t, "P21.1: another grid's worker", works(b), "1 5-0 get a: working at 1")
}
