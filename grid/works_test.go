package grid_test

import (
	"testing"

	"quorate/api"
)

func TestP21_3Works(t *testing.T) {
	g := led(t, 1, 2, 3, 3) // four steps
	is(t, "P21.3: no job was begun", tell(g.Works()), tell([]api.Work{}))
	put, give := does(t, "put a v"), hands("a", 2)
	wants(t, g, 2, 1, put, api.OK)                      // 5
	wants(t, g, 2, 1, does(t, "put a no"), api.ErrBusy) // 6
	wants(t, g, 3, 0, put, api.ErrBound)                // 7
	do(t, g, 1, idle())                                 // 8: READ; WRITE
	wants(t, g, 3, 2, give, api.OK)                     // 9: worker 2 has ended
	want := []api.Work{
		{Worker: 2, Job: put, From: 5, To: 9, Status: api.JobStatus{State: api.Ended, Group: 1, Result: api.Result{Kind: api.Done, Version: 1}}},
		{Worker: 3, Job: give, From: 9, Status: api.JobStatus{State: api.Working, Group: 2}},
	}
	is(t, "P21.3: in order", tell(g.Works()), tell(want))
	swap := does(t, "swap a w 7")
	wants(t, g, 1, 1, swap, api.OK) // 10
	want = append(want, api.Work{Worker: 1, Job: swap, From: 10, Status: api.JobStatus{State: api.Working, Group: 1}})
	is(t, "P21.3: in the order in which they were begun", tell(g.Works()), tell(want))
	g.Heal(1, nil) // 11: both clients READ, and both are told; worker 3 is at group 1 then, and has no session there
	want[2].To, want[2].Status = 11, api.JobStatus{State: api.Ended, Group: 1, Result: api.Result{Kind: api.Unequal, Value: "v", Version: 1}}
	want[1].Status.Group = 1
	is(t, "P21.3: how they stand", tell(g.Works()), tell(want))
	g.Heal(20, nil) // 12: READ, PREPARE; 13: ROOM; 14: READ; 15: PREPARE; 16: WRITE; 17: LOOK; 18: PUT; 19: SEAL; 20
	want[1].To, want[1].Status = 20, api.JobStatus{State: api.Ended, Group: 1, Result: api.Result{Kind: api.Done}}
	is(t, "P21.3: in the end", tell(g.Works()), tell(want))
}

// A job of many turns ends but once, and its worker's next job is another work.
func TestP21_3OneBehindTheOther(t *testing.T) {
	g := led(t, 1, 1, 1, 3)
	for i, x := range []struct{ line, want string }{
		{"app a v", `ended at 1: done 1 ""`},
		{"app a w", `ended at 1: done 2 ""`},
		{"get a", "ended at 1: done 2 vw"},
		{"get b", `ended at 1: missing 0 ""`},
		{"del a", `ended at 1: done 2 ""`},
		{"swap a x 2", `ended at 1: missing 0 ""`},
		{"put a 123456789012345678901234567890ab", `ended at 1: done 1 ""`},
		{"app a c", `ended at 1: full 0 ""`},
	} {
		wants(t, g, 1, 1, does(t, x.line), api.OK)
		for g.Works()[i].To == 0 {
			do(t, g, 1, idle())
		}
		l := g.Works()
		if len(l) != i+1 || l[i].Worker != 1 || l[i].Job != does(t, x.line) || i > 0 && l[i].From != l[i-1].To+1 {
			t.Errorf("P21.3: the works: %s", works(g))
		}
		got := shown(l[i])
		is(t, "P21.3: how it stands", got[len(got)-len(x.want):], x.want)
	}
}

func TestP21_3Look(t *testing.T) {
	g := led(t, 2, 2, 1, 3)
	wants(t, g, 1, 1, does(t, "put a v"), api.OK)
	g.Heal(5, nil)
	for id := 1; id <= 2; id++ {
		s, x, up := g.Look(1, id)
		if !up || s.ID != id || s.Role != []int{0, api.Leader, api.Follower}[id] || len(x.Pairs) != 1 || x.Pairs[0] != (api.Pair{Key: "ca", Value: "here 0 1 =v", Version: 1}) || len(x.Sessions) != 1 {
			t.Errorf("P21.3: node %d of group 1: %+v, %+v, %v", id, s, x, up)
		}
		if s, x, up := g.Look(2, id); !up || s.ID != id || s.Leader != 1 || len(x.Pairs)+len(x.Sessions) != 0 {
			t.Errorf("P21.3: node %d of group 2: %+v, %+v, %v", id, s, x, up)
		}
	}
	do(t, g, 2, stop(2))
	for _, group := range append([]int{0, 1, 2, 3, 5}, extreme...) {
		for _, id := range append([]int{0, 1, 2, 3, 10}, extreme...) {
			there := group == 1 && (id == 1 || id == 2) || group == 2 && id == 1
			s, x, up := g.Look(group, id)
			if up != there || !there && tell(s, x) != tell(api.Status{}, api.Table{}) {
				t.Errorf("P21.3: node %d of group %d is down, or none: %+v, %+v, %v", id, group, s, x, up)
			}
		}
	}
}

func TestP21_3WhatComesOutIsNew(t *testing.T) {
	tales := func(spoils bool) (l []string) {
		g := led(t, 3, 2, 2, 3)
		for i, j := range []api.Job{does(t, "app a v"), does(t, "put b w"), hands("a", 2), does(t, "get a"), does(t, "del b")} {
			wants(t, g, 1+i%2, 1+i/2%2, j, api.OK)
			for range 12 {
				g.Heal(1, nil)
				w := g.Works()
				s, x, _ := g.Look(1, 1)
				l = append(l, tell(w, s, x))
				if !spoils {
					continue
				}
				spoil(w, api.Work{Worker: 88, To: 88})
				spoil(s.Log.Entries, api.Entry{Index: 88})
				spoil(s.Config.Voters, 88)
				spoil(x.Pairs, api.Pair{Key: "over"})
				spoil(x.Sessions, api.Session{})
			}
		}
		return l
	}
	whole, spoilt := tales(false), tales(true)
	for i := range whole {
		if whole[i] != spoilt[i] {
			t.Fatalf("P21.3: what came out was changed, and so was the grid: %s\nit was %s", spoilt[i], whole[i])
		}
	}
}
