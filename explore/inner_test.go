package explore

import (
	"testing"

	"quorate/api"
)

// As long as no two nodes lead in one term, which is told first, no moves lead to logs that do not match: so they are laid there by hand.
func TestP12_2Unmatched(t *testing.T) {
	for _, x := range []struct {
		a, b log
		want int
	}{
		{log{}, log{}, 0},
		{log{}, log{1, 1, 1}, 0},
		{log{1}, log{1, 1}, 0},
		{log{1, 1, 2}, log{1, 1, 2}, 0},
		{log{1, 2}, log{1, 3}, 0},
		{log{1, 2, 3}, log{2, 3}, 0},
		{log{1, 1}, log{2}, 0},
		{log{1, 2}, log{2, 2}, api.Unmatched},
		{log{1, 2, 3}, log{2, 2}, api.Unmatched},
		{log{1, 2, 3}, log{2, 3, 3}, api.Unmatched},
		{log{1, 1, 3}, log{1, 2, 3}, api.Unmatched},
		{log{1, 2, 4}, log{3, 3, 4}, api.Unmatched},
	} {
		for _, at := range [][2]int{{1, 2}, {2, 1}, {1, 3}, {3, 2}} {
			s := scene{rules: api.Small{Nodes: 3, Terms: 4, Entries: 3}, state: fresh(3)}
			s.nodes[at[0]].log, s.nodes[at[1]].log = x.a, x.b
			if got := s.do(api.Move{Kind: api.Stand, Node: 3}); got != x.want {
				t.Errorf("P12.2: nodes %v with %v and %v: %d is broken; want %d", at, x.a, x.b, got, x.want)
			}
		}
	}
}

// spoilt: a world in which nodes 1 and 2 have logs that do not match, and node 3 was chosen to lead in term 3.
func spoilt() scene {
	s := scene{rules: api.Small{Nodes: 3, Terms: 4, Entries: 3}, state: fresh(3)}
	s.nodes[1].log, s.nodes[2].log = log{1, 2}, log{2, 2}
	s.nodes[3].office = office{role: api.Candidate, voters: [mostNodes + 1]bool{3: true, 1: true}}
	s.nodes[3].term, s.nodes[3].vote = 3, 3
	return s
}

func TestP12_2BehindAllElse(t *testing.T) {
	win, count := api.Move{Kind: api.Win, Node: 3}, api.Move{Kind: api.Count, Node: 1}
	for name, x := range map[string]struct {
		spoil func(s *scene)
		move  api.Move
		want  int
	}{
		"nothing else": {func(s *scene) {}, win, api.Unmatched},
		"two leaders":  {func(s *scene) { s.led[3] = 2 }, win, api.TwoLeaders},
		"incomplete":   {func(s *scene) { s.chosen[0] = choice{term: 1, by: 1} }, win, api.Incomplete},
		"unlike": {func(s *scene) {
			s.nodes[1].term, s.nodes[1].role, s.nodes[1].known = 2, api.Leader, [mostNodes + 1]int8{3: 2}
			s.chosen[0] = choice{term: 2, by: 2}
		}, count, api.Unlike},
	} {
		s := spoilt()
		x.spoil(&s)
		if got := s.do(x.move); got != x.want {
			t.Errorf("P12.2: %s: %d is broken; want %d", name, got, x.want)
		}
	}
}

func TestP12_3AsManyStatesAsMayBe(t *testing.T) {
	world := func(nodes, terms int, forgets bool) *search {
		return begin(scene{rules: api.Small{Nodes: nodes, Terms: terms, Forgets: forgets}, state: fresh(nodes)})
	}
	for most, want := range map[int]api.Errno{1: api.ErrBound, 4: api.ErrBound, 5: api.OK, 6: api.OK} {
		f, e := world(1, 1, false).run(most)
		if e != want || e == api.OK && f.States != 5 || e != api.OK && f.States != 0 {
			t.Errorf("P12.3: five states, %d may be: %+v, %v", most, f, e)
		}
	}
	for most, want := range map[int]api.Errno{224: api.ErrBound, 225: api.OK} {
		f, e := world(3, 1, true).run(most)
		if e != want || (f.Broken == api.TwoLeaders) != (e == api.OK) {
			t.Errorf("P12.3: 225 states till something is broken, %d may be: %+v, %v", most, f, e)
		}
	}
}
