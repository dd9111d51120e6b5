package grid_test

import (
	"math"
	"testing"

	"quorate/api"
)

func TestP21_4HowOften(t *testing.T) {
	for _, x := range []struct{ times, steps int }{{0, 0}, {1, 1}, {3, 3}, {299, 299}, {300, 300}, {301, 300}, {math.MaxInt, 300}, {-1, 0}, {math.MinInt, 0}} {
		g := build(t, of(1), 2, 1, 1)
		g.Heal(x.times, nil)
		if n := stepNow(t, g, 1); n != x.steps+1 {
			t.Errorf("P21.4: Heal(%d): %d steps; want %d", x.times, n-1, x.steps)
		}
	}
}

// However many nodes and groups there are, and whatever is on its way: each time is one step.
func TestP21_4OneStepEachTime(t *testing.T) {
	for _, nodes := range [][]int{nil, {}, {1}, {2, 1, 2}, {0, 3, -1, math.MaxInt, math.MinInt}} {
		g := build(t, of(2), 4, 1, 1)
		g.Heal(7, nodes)
		if n := stepNow(t, g, 1); n != 8 {
			t.Errorf("P21.4: Heal(7, %v): %d steps; want 7", nodes, n-1)
		}
		for group := 1; group <= 4; group++ {
			if s, _, up := g.Look(group, 2); !up || s.Leader != 1 || s.Hard.Commit != 1 {
				t.Errorf("P21.4: Heal(7, %v): node 2 of group %d: %+v, %v", nodes, group, s, up)
			}
		}
	}
}

// Each group heals: its clocks go on, and all that is on its way comes, each time.
func TestP21_4EachGroup(t *testing.T) {
	g := build(t, of(3), 3, 1, 9)
	for times := 1; times <= 5; times++ {
		g.Heal(1, nil)
		for group := 1; group <= 3; group++ {
			commit := 0
			if times >= 4 {
				commit = 1 // the fourth tick is one too many for node 1
			}
			for id := 1; id <= 3; id++ {
				if s, _, up := g.Look(group, id); !up || s.Hard.Commit != commit {
					t.Errorf("P21.4: behind %d times: node %d of group %d: %+v", times, id, group, s)
				}
			}
		}
	}
}

func TestP21_4WhoBegins(t *testing.T) {
	for _, x := range []struct {
		times int
		nodes []int
		want  string
	}{
		{0, nil, "[false false false]"},
		{0, []int{1, 2, 3}, "[false false false]"}, // no times: nothing at all
		{-1, []int{1, 2, 3}, "[false false false]"},
		{1, nil, "[false false false]"},
		{1, []int{}, "[false false false]"},
		{1, []int{3, 1}, "[true false true]"},
		{2, []int{2, 4, 0, -1}, "[false true false]"},
		{1, []int{1, 2, 3}, "[true true true]"},
	} {
		g := led(t, 3, 2, 1, 3)
		for id := 1; id <= 3; id++ {
			do(t, g, 1, stop(id))
			do(t, g, 2, stop(id))
		}
		g.Heal(x.times, x.nodes)
		for group := 1; group <= 2; group++ {
			up := []any{}
			for id := 1; id <= 3; id++ {
				_, _, is := g.Look(group, id)
				up = append(up, is)
			}
			is(t, "P21.4: who is up", tell(up...), x.want)
		}
	}
}

// Nodes that were to break do so no more, in each group.
func TestP21_4WhoBreaks(t *testing.T) {
	for _, x := range []struct {
		nodes []int
		up    bool
	}{{nil, false}, {[]int{2, 3}, false}, {[]int{1}, true}} {
		g := build(t, of(1), 2, 1, 3)
		g.Heal(3, nil)
		do(t, g, 1, api.Step{Kind: api.Break, Node: 1})
		do(t, g, 2, api.Step{Kind: api.Break, Node: 1})
		g.Heal(1, x.nodes) // the tick with which it is to lead, and so has to keep something
		for group := 1; group <= 2; group++ {
			if s, _, up := g.Look(group, 1); up != x.up || up && s.Role != api.Leader {
				t.Errorf("P21.4: Heal(1, %v): node 1 of group %d: %+v, %v", x.nodes, group, s, up)
			}
		}
	}
}

// Workers go on once each time, behind all groups.
func TestP21_4WorkersGoOn(t *testing.T) {
	g := led(t, 1, 2, 2, 3)
	wants(t, g, 1, 2, does(t, "put a v"), api.OK) // 5: a session in group 2
	want := []string{
		"1 5-0 put a v: working at 1", // 6: READ of group 2: it is gone to 1; a session there
		"1 5-0 put a v: working at 1", // 7: READ of group 1; WRITE
		`1 5-8 put a v: ended at 1: done 1 ""`,
		`1 5-8 put a v: ended at 1: done 1 ""`,
	}
	for i, x := range want {
		g.Heal(1, nil)
		is(t, "P21.4: behind so many times", works(g), x)
		is(t, "P21.4: asked of group 1", logged(t, g, 1), []string{"0/0", "0/0 2/1 2/2"}[min(i, 1)])
		is(t, "P21.4: asked of group 2", logged(t, g, 2), "0/0 2/1")
	}
	h := led(t, 1, 2, 2, 3)
	wants(t, h, 1, 2, does(t, "put a v"), api.OK)
	h.Heal(4, nil)
	is(t, "P21.4: four times once is once four times", works(h)+cells(h, 2), works(g)+cells(g, 2))
	if n := stepNow(t, h, 1); n != 10 {
		t.Errorf("P21.4: the next step is %d; want 10", n)
	}
}
