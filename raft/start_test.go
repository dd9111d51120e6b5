package raft_test

import (
	"strings"
	"testing"

	"quorate/api"
	"quorate/raft"
)

func TestP7_1Timeout(t *testing.T) {
	for _, x := range []struct{ id, election, want int }{
		{1, 10, 10}, {2, 10, 12}, {9, 10, 26},
		{1, 2, 2}, {2, 2, 3}, {9, 2, 10},
		{3, 3, 5}, {3, 4, 6}, {3, 7, 9}, {3, 8, 12}, {3, 11, 15}, {3, 12, 18},
		{1, 100, 100}, {9, 100, 300},
	} {
		if got := raft.Timeout(x.id, x.election); got != x.want {
			t.Errorf("P7.1: Timeout(%d, %d): %d, want %d", x.id, x.election, got, x.want)
		}
	}
}

func TestP7_1NoTwoAreTheSame(t *testing.T) {
	for election := 2; election <= api.MaxTicks; election++ {
		for id := 2; id <= api.MaxNode; id++ {
			if raft.Timeout(id, election) <= raft.Timeout(id-1, election) {
				t.Errorf("P7.1: Timeout(%d, %d) is not above that of %d", id, election, id-1)
			}
		}
	}
	for _, n := range extreme {
		for _, m := range append(extreme, 0, 1, 9) {
			raft.Timeout(n, m)
			raft.Timeout(m, n)
		}
	}
}

// turned: a start, turned by a function.
func turned(s api.Start, turn func(*api.Start)) api.Start {
	turn(&s)
	return s
}

func TestP7_2Begins(t *testing.T) {
	three := start(1, 1, 2, 3)
	five := with(start(1, 1, 2, 3), 2, run(1, 1, 1, 2, 2, 3)...)
	cut := from(start(2, 1, 2, 3), 7, 4, "state")
	far := from(start(1, 1, 2), api.Far, api.Far, "")
	learning := api.Config{Voters: []int{2}, Learners: []int{1}}
	for name, s := range map[string]api.Start{
		"nothing":                   three,
		"the last node":             turned(three, func(s *api.Start) { s.ID = 9 }),
		"the shortest election":     turned(three, func(s *api.Start) { s.Election, s.Beat = 2, 1 }),
		"the longest":               turned(three, func(s *api.Start) { s.Election, s.Beat = 100, 99 }),
		"waits to be taken in":      turned(three, func(s *api.Start) { s.Config = api.Config{} }),
		"likewise, empty lists":     turned(three, func(s *api.Start) { s.Config = api.Config{Voters: []int{}, Next: []int{}, Learners: []int{}} }),
		"likewise, a log":           turned(five, func(s *api.Start) { s.Config = api.Config{} }),
		"joint":                     turned(three, func(s *api.Start) { s.Config.Next = []int{2, 9} }),
		"learns":                    turned(three, func(s *api.Start) { s.Config = learning }),
		"a log":                     five,
		"nothing committed":         turned(five, func(s *api.Start) { s.Hard.Commit = 0 }),
		"all committed":             turned(five, func(s *api.Start) { s.Hard.Commit = 5 }),
		"a greater term":            turned(five, func(s *api.Start) { s.Hard.Term = 4 }),
		"the greatest term":         turned(five, func(s *api.Start) { s.Hard.Term = api.Far }),
		"a vote":                    turned(five, func(s *api.Start) { s.Hard.Vote = 9 }),
		"a vote without a log":      turned(three, func(s *api.Start) { s.Hard = api.Hard{Term: 1, Vote: 1} }),
		"a Change":                  with(three, 1, change(1, 1, learning)),
		"a snapshot":                cut,
		"a snapshot and entries":    turned(cut, func(s *api.Start) { s.Log.Entries, s.Hard.Commit = run(8, 4, 4), 9 }),
		"much data":                 turned(cut, func(s *api.Start) { s.Snapshot.Data = strings.Repeat("x", 8192) }),
		"the last base":             far,
		"the last index":            turned(from(start(1, 1, 2), api.Far-2, 3, ""), func(s *api.Start) { s.Log.Entries = run(api.Far-1, 3, 3) }),
		"a snapshot of nothing":     turned(three, func(s *api.Start) { s.Snapshot = api.Snapshot{Term: 9, Data: strings.Repeat("x", 9000)} }),
		"more than a log may have":  with(three, 0, run(1, make1(300)...)...),
		"leases, in a longer state": turned(five, func(s *api.Start) { s.Lease = true }),
	} {
		n, e := raft.New(s)
		if n == nil || e != api.OK {
			t.Errorf("P7.2: %s: %v", name, e)
			continue
		}
		l := n.Look()
		if l.ID != s.ID || l.Role != api.Follower || l.Leader != 0 || l.Hard != s.Hard || l.Applied != s.Log.Base || tell(l.Log) != tell(s.Log) || len(l.Progress) != 0 {
			t.Errorf("P7.2: %s: it stands: %+v", name, l)
		}
		k := n.Kept()
		if k.Hard != s.Hard || tell(k.Log, k.Snapshot, k.Config) != tell(s.Log, s.Snapshot, s.Config) {
			t.Errorf("P7.15: %s: it has kept: %+v", name, k)
		}
	}
}

// make1: so many terms 1.
func make1(count int) (l []int) {
	for range count {
		l = append(l, 1)
	}
	return l
}

func TestP7_2Refused(t *testing.T) {
	three := start(1, 1, 2, 3)
	five := with(start(1, 1, 2, 3), 2, run(1, 1, 1, 2, 2, 3)...)
	cut := from(start(2, 1, 2, 3), 7, 4, "state")
	wrong := map[string]api.Start{
		"a short election":       turned(three, func(s *api.Start) { s.Election = 1 }),
		"a long one":             turned(three, func(s *api.Start) { s.Election = 101 }),
		"no beat":                turned(three, func(s *api.Start) { s.Beat = 0 }),
		"a long beat":            turned(three, func(s *api.Start) { s.Beat = 10 }),
		"node 0":                 turned(three, func(s *api.Start) { s.ID = 0 }),
		"node 10":                turned(three, func(s *api.Start) { s.ID = 10 }),
		"a gap":                  turned(five, func(s *api.Start) { s.Log.Entries = run(2, 1, 1, 2, 2, 3) }),
		"falling terms":          turned(five, func(s *api.Start) { s.Log.Entries = run(1, 2, 2, 1) }),
		"a base without a term":  turned(cut, func(s *api.Start) { s.Log.BaseTerm, s.Snapshot.Term = 0, 0 }),
		"no configuration there": with(three, 1, api.Entry{Index: 1, Term: 1, Kind: api.Change, Data: "x"}),
		"nor behind that":        with(three, 0, change(1, 1, voters(1)), api.Entry{Index: 2, Term: 1, Kind: api.Change}),
		"beyond Far":             turned(from(start(1, 1), api.Far, 3, ""), func(s *api.Start) { s.Log.Entries = run(api.Far+1, 3) }),
		"a base beyond Far":      from(start(1, 1), api.Far+1, 3, ""),
		"a lesser term":          turned(five, func(s *api.Start) { s.Hard.Term = 2 }),
		"a lesser one than base": turned(cut, func(s *api.Start) { s.Hard.Term = 3 }),
		"a term beyond Far":      turned(five, func(s *api.Start) { s.Hard.Term = api.Far + 1 }),
		"a vote for nobody":      turned(five, func(s *api.Start) { s.Hard.Vote = 10 }),
		"a vote in no term":      turned(three, func(s *api.Start) { s.Hard.Vote = 1 }),
		"committed beyond":       turned(five, func(s *api.Start) { s.Hard.Commit = 6 }),
		"committed below":        turned(cut, func(s *api.Start) { s.Hard.Commit = 6 }),
		"no voters":              turned(three, func(s *api.Start) { s.Config = api.Config{Learners: []int{1}} }),
		"just next":              turned(three, func(s *api.Start) { s.Config = api.Config{Next: []int{1}} }),
		"a learner that votes":   turned(three, func(s *api.Start) { s.Config.Learners = []int{1} }),
		"falling voters":         turned(three, func(s *api.Start) { s.Config.Voters = []int{2, 1} }),
		"empty, on a base":       turned(cut, func(s *api.Start) { s.Config, s.Snapshot.Config = api.Config{}, api.Config{} }),
		"no snapshot":            turned(cut, func(s *api.Start) { s.Snapshot = api.Snapshot{} }),
		"another index":          turned(cut, func(s *api.Start) { s.Snapshot.Index = 8 }),
		"another term":           turned(cut, func(s *api.Start) { s.Snapshot.Term = 3 }),
		"another configuration":  turned(cut, func(s *api.Start) { s.Snapshot.Config = voters(1, 2) }),
		"too much data":          turned(cut, func(s *api.Start) { s.Snapshot.Data = strings.Repeat("x", 8193) }),
		"a snapshot of no base":  turned(three, func(s *api.Start) { s.Snapshot = api.Snapshot{Index: 1, Term: 1, Config: s.Config} }),
	}
	for _, x := range extreme {
		wrong[tell("ID", x)] = turned(three, func(s *api.Start) { s.ID = x })
		wrong[tell("Election", x)] = turned(three, func(s *api.Start) { s.Election = x })
		wrong[tell("Beat", x)] = turned(three, func(s *api.Start) { s.Beat = x })
		wrong[tell("Term", x)] = turned(five, func(s *api.Start) { s.Hard.Term = x })
		wrong[tell("Vote", x)] = turned(five, func(s *api.Start) { s.Hard.Vote = x })
		wrong[tell("Commit", x)] = turned(five, func(s *api.Start) { s.Hard.Commit = x })
		wrong[tell("Base", x)] = turned(cut, func(s *api.Start) { s.Log.Base, s.Snapshot.Index, s.Hard.Commit = x, x, x })
		wrong[tell("BaseTerm", x)] = turned(cut, func(s *api.Start) { s.Log.BaseTerm, s.Snapshot.Term, s.Hard.Term = x, x, x })
		wrong[tell("Voters", x)] = turned(three, func(s *api.Start) { s.Config.Voters = []int{x} })
		wrong[tell("Snapshot", x)] = turned(three, func(s *api.Start) { s.Snapshot.Index = x })
	}
	for name, s := range wrong {
		if n, e := raft.New(s); n != nil || e != api.ErrStart {
			t.Errorf("P7.2: %s: %v, want ErrStart", name, e)
		}
	}
}

func TestP7_2CountersBeginAtNought(t *testing.T) {
	s := start(2, 1, 2, 3)
	s.Lease = true
	n := begin(t, s)
	ask := api.Message{Kind: api.PreVote, From: 1, To: 2, Term: 1}
	for tick := range 11 {
		n.Receive(ask)
		if got := sent(n) != ""; got != (tick >= 10) {
			t.Errorf("P7.10: with leases, NOW %d: it answers: %v", tick, got)
		}
		n.Tick()
	}
	wants(t, "P7.5", n)
	n.Tick()
	wants(t, "P7.5", n, "prevote 2>1 t1 at 0/0", "prevote 2>3 t1 at 0/0")
}
