package raft_test

import (
	"testing"

	"quorate/api"
	"quorate/raft"
)

// entries: of a leader in a term, behind an index of a term.
func entries(from, to, term, index, logTerm, commit, round int, l ...api.Entry) api.Message {
	return api.Message{Kind: api.AppendEntries, From: from, To: to, Term: term, Index: index, LogTerm: logTerm, Commit: commit, Context: round, Entries: l}
}

func install(from, to, term, round int, x api.Snapshot) api.Message {
	return api.Message{Kind: api.Install, From: from, To: to, Term: term, Snapshot: x, Context: round}
}

func TestP7_10Entries(t *testing.T) {
	for _, x := range []struct {
		what   string
		m      api.Message
		reply  string
		commit int
		log    string // what it is then
		news   string // what is told as new
	}{
		{"behind the last", entries(2, 1, 3, 4, 2, 0, 7, run(5, 3, 3)...), "reply 1>2 t3 yes 6 hint 0 r7", 2, "[1/1 2/1 3/2 4/2 5/3 6/3]", "[5/3 6/3]"},
		{"some are there", entries(2, 1, 3, 2, 1, 0, 7, run(3, 2, 2, 3)...), "reply 1>2 t3 yes 5 hint 0 r7", 2, "[1/1 2/1 3/2 4/2 5/3]", "[5/3]"},
		{"all are there", entries(2, 1, 3, 2, 1, 0, 7, run(3, 2)...), "reply 1>2 t3 yes 3 hint 0 r7", 2, "[1/1 2/1 3/2 4/2]", "[]"},
		{"others are there", entries(2, 1, 3, 2, 1, 0, 7, run(3, 3)...), "reply 1>2 t3 yes 3 hint 0 r7", 2, "[1/1 2/1 3/3]", "[3/3]"},
		{"none", entries(2, 1, 3, 4, 2, 0, 7), "reply 1>2 t3 yes 4 hint 0 r7", 2, "[1/1 2/1 3/2 4/2]", "[]"},
		{"none, up to Commit", entries(2, 1, 3, 2, 1, 0, 7), "reply 1>2 t3 yes 2 hint 0 r7", 2, "[1/1 2/1 3/2 4/2]", "[]"},
		{"below Commit", entries(2, 1, 3, 1, 1, 4, 7, run(2, 1, 2)...), "reply 1>2 t3 yes 2 hint 0 r7", 2, "[1/1 2/1 3/2 4/2]", "[]"},
		{"below Commit, others", entries(2, 1, 3, 1, 1, 4, 7, run(2, 3, 3)...), "reply 1>2 t3 yes 2 hint 0 r7", 2, "[1/1 2/1 3/2 4/2]", "[]"},
		{"from the beginning", entries(2, 1, 3, 0, 0, 4, 7, run(1, 1)...), "reply 1>2 t3 yes 2 hint 0 r7", 2, "[1/1 2/1 3/2 4/2]", "[]"},
		{"beyond the last", entries(2, 1, 3, 6, 2, 6, 7, run(7, 3)...), "reply 1>2 t3 no 6 hint 5 r7", 2, "[1/1 2/1 3/2 4/2]", "[]"},
		{"another term", entries(2, 1, 3, 4, 3, 4, 7, run(5, 3)...), "reply 1>2 t3 no 4 hint 3 r7", 2, "[1/1 2/1 3/2 4/2]", "[]"},
		{"another term at Commit", entries(2, 1, 3, 2, 2, 4, 7), "reply 1>2 t3 no 2 hint 1 r7", 2, "[1/1 2/1 3/2 4/2]", "[]"},
		{"committed up to match", entries(2, 1, 3, 2, 1, 4, 7, run(3, 2)...), "reply 1>2 t3 yes 3 hint 0 r7", 3, "[1/1 2/1 3/2 4/2]", "[]"},
		{"committed below match", entries(2, 1, 3, 2, 1, 3, 7, run(3, 2, 2, 3)...), "reply 1>2 t3 yes 5 hint 0 r7", 3, "[1/1 2/1 3/2 4/2 5/3]", "[5/3]"},
		{"committed beyond all", entries(2, 1, 3, 4, 2, api.MaxNumber, 7), "reply 1>2 t3 yes 4 hint 0 r7", 4, "[1/1 2/1 3/2 4/2]", "[]"},
		{"committed less than it was", entries(2, 1, 3, 4, 2, 1, 7), "reply 1>2 t3 yes 4 hint 0 r7", 2, "[1/1 2/1 3/2 4/2]", "[]"},
		{"a greater term", entries(2, 1, 3, 4, 2, 0, 0), "reply 1>2 t3 yes 4 hint 0 r0", 2, "[1/1 2/1 3/2 4/2]", "[]"},
	} {
		s := with(start(1, 1, 2, 3), 2, run(1, 1, 1, 2, 2)...)
		s.Hard.Term = 3
		n := begin(t, s)
		n.Receive(x.m)
		r, l := n.Ready(), n.Look()
		if got := mail(r.Messages); got != x.reply || l.Hard != (api.Hard{Term: 3, Commit: x.commit}) || l.Leader != 2 || l.Role != api.Follower {
			t.Errorf("P7.10: entries %s: %s, %s; want %s, commit %d", x.what, got, state(n), x.reply, x.commit)
		}
		if terms(l.Log.Entries) != x.log || terms(r.Entries) != x.news {
			t.Errorf("P7.10: entries %s: the log is %s, new are %s; want %s, %s", x.what, terms(l.Log.Entries), terms(r.Entries), x.log, x.news)
		}
		if len(r.Committed) != x.commit-2 || r.Kept != (x.commit > 2) {
			t.Errorf("P7.16: entries %s: %+v", x.what, r)
		}
	}
}

func TestP7_10EntriesOnASnapshot(t *testing.T) {
	s := from(start(1, 1, 2, 3), 5, 2, "state")
	n := begin(t, s)
	n.Receive(entries(2, 1, 3, 5, 2, 6, 1, run(6, 3)...))
	wants(t, "P7.10", n, "reply 1>2 t3 yes 6 hint 0 r1")
	n.Receive(entries(2, 1, 3, 5, 2, 6, 2))
	wants(t, "P7.10: below Commit", n, "reply 1>2 t3 yes 6 hint 0 r2")
	n = begin(t, s)
	n.Receive(entries(2, 1, 3, 5, 3, 6, 1))
	wants(t, "P7.10: the base is another's", n, "reply 1>2 t3 no 5 hint 5 r1")
	n.Receive(entries(2, 1, 3, 2, 1, 6, 1, run(3, 1, 1, 2, 3)...))
	wants(t, "P7.10: below the base, whatever is in it", n, "reply 1>2 t3 yes 5 hint 0 r1")
}

func TestP7_10EntriesToWhoSeeksVotes(t *testing.T) {
	for _, stand := range []bool{false, true} {
		n := begin(t, start(1, 1, 2, 3))
		ticks(n, 10)
		want := "follower of 3, term 1, vote 0, commit 0"
		if stand {
			n.Receive(presaid(2, 1, 1, false))
			want = "follower of 3, term 1, vote 1, commit 0"
		}
		ticks(n, 9)
		n.Ready()
		n.Receive(beat(3, 1, 1))
		stands(t, "P7.10", n, want)
		wants(t, "P7.10", n, "reply 1>3 t1 yes 0 hint 0 r0")
		n.Receive(said(2, 1, 1, false))
		n.Receive(presaid(2, 1, 2, false))
		stands(t, "P7.10: nobody said yes", n, want)
		ticks(n, 9)
		wants(t, "P7.10: ELAPSED is 0", n)
		n.Tick()
		wants(t, "P7.5", n, "prevote 1>2 t2 at 0/0", "prevote 1>3 t2 at 0/0")
	}
}

func TestP7_10NoConfiguration(t *testing.T) {
	bad := api.Entry{Index: 2, Term: 1, Kind: api.Change, Data: "x"}
	n := begin(t, start(1, 1, 2, 3))
	ticks(n, 10)
	n.Receive(presaid(3, 1, 1, false))
	n.Ready()
	n.Receive(entries(2, 1, 1, 0, 0, 2, 1, run(1, 1)[0], bad))
	wants(t, "P7.10: a Change without a configuration", n)
	stands(t, "P7.10: likewise", n, "candidate of 0, term 1, vote 1, commit 0")
	n.Receive(entries(2, 1, 2, 0, 0, 2, 1, run(1, 1)[0], bad))
	wants(t, "P7.10: likewise", n)
	stands(t, "P7.10: the term is taken", n, "follower of 2, term 2, vote 0, commit 0")
	if l := n.Look().Log.Entries; len(l) > 0 {
		t.Errorf("P7.10: a Change without a configuration is in the log: %+v", l)
	}
	n.Receive(entries(2, 1, 2, 0, 0, 0, 1, api.Entry{Index: 1, Term: 1, Kind: api.Ask, Data: "x"}, change(2, 1, voters(2))))
	wants(t, "P7.10: an Ask's data is not looked at", n, "reply 1>2 t2 yes 2 hint 0 r1")
}

func TestP7_10NotToALeader(t *testing.T) {
	n := lead(t, start(1, 1, 2, 3))
	ticks(n, 2)
	n.Receive(entries(2, 1, 1, 0, 0, 1, 1, run(1, 1)...))
	n.Receive(install(2, 1, 1, 1, api.Snapshot{Index: 9, Term: 1, Config: voters(1, 2, 3)}))
	wants(t, "P7.10", n)
	stands(t, "P7.10: not to a Leader", n, "leader of 1, term 1, vote 1, commit 0")
	n.Receive(beat(2, 1, 2))
	stands(t, "P7.10: of a greater term", n, "follower of 2, term 2, vote 0, commit 0")
	wants(t, "P7.10", n, "reply 1>2 t2 yes 0 hint 0 r0")
}

func TestP7_10ConfigurationsCome(t *testing.T) {
	n := begin(t, turned(start(1), func(s *api.Start) { s.Config = api.Config{} }))
	n.Receive(entries(2, 1, 1, 0, 0, 0, 1, change(1, 1, voters(2)), change(2, 1, voters(1, 2))))
	if c := n.Look().Config; lists(c) != "[1 2] [] []" {
		t.Errorf("P7: the last Change, committed or not: %s", lists(c))
	}
	n.Receive(entries(2, 1, 2, 1, 1, 0, 1, run(2, 2)...))
	if c := n.Look().Config; lists(c) != "[2] [] []" {
		t.Errorf("P7: a Change that is cut off: %s", lists(c))
	}
	if c := n.Kept().Config; lists(c) != "[] [] []" {
		t.Errorf("P7.15: the one at the base: %s", lists(c))
	}
}

func TestP7_10Install(t *testing.T) {
	c := api.Config{Voters: []int{1, 2}, Learners: []int{3}}
	shot := func(index, term int) api.Snapshot {
		return api.Snapshot{Index: index, Term: term, Config: c, Data: "state"}
	}
	for _, x := range []struct {
		what    string
		x       api.Snapshot
		reply   string
		commit  int
		taken   bool
		applied int
	}{
		{"of what is committed", shot(2, 1), "reply 1>2 t3 yes 2 hint 0 r7", 2, false, 2},
		{"of what is committed, with another term", shot(2, 2), "reply 1>2 t3 yes 2 hint 0 r7", 2, false, 2},
		{"of what was committed long ago", shot(1, 1), "reply 1>2 t3 yes 2 hint 0 r7", 2, false, 2},
		{"of what it has", shot(4, 2), "reply 1>2 t3 yes 4 hint 0 r7", 4, false, 4},
		{"with another term", shot(4, 3), "reply 1>2 t3 yes 4 hint 0 r7", 4, true, 4},
		{"with a lesser term", shot(3, 1), "reply 1>2 t3 yes 3 hint 0 r7", 3, true, 3},
		{"beyond its log", shot(9, 3), "reply 1>2 t3 yes 9 hint 0 r7", 9, true, 9},
	} {
		s := with(start(1, 1, 2, 3), 2, run(1, 1, 1, 2, 2)...)
		s.Hard.Term, s.Hard.Vote = 3, 3
		n := begin(t, s)
		n.Receive(install(2, 1, 3, 7, x.x))
		if l := n.Look(); !x.taken && l.Applied != 2 || x.taken && l.Applied != x.applied {
			t.Errorf("P7.10: a snapshot %s: applied up to %d", x.what, l.Applied)
		}
		r, l := n.Ready(), n.Look()
		if got := mail(r.Messages); got != x.reply || l.Hard != (api.Hard{Term: 3, Vote: 3, Commit: x.commit}) || l.Leader != 2 || l.Applied != x.applied {
			t.Errorf("P7.10: a snapshot %s: %s, %s", x.what, got, state(n))
		}
		log, first := api.Log{Entries: run(1, 1, 1, 2, 2)}, voters(1, 2, 3)
		told, kept := api.Snapshot{}, api.Snapshot{}
		if x.taken {
			log, first, told, kept = api.Log{Base: x.x.Index, BaseTerm: x.x.Term}, c, x.x, x.x
		}
		k := n.Kept()
		if tell(l.Log, l.Config, r.Snapshot, k.Snapshot, k.Config, k.Log) != tell(log, first, told, kept, first, log) {
			t.Errorf("P7.10: a snapshot %s: %+v, %+v, %+v", x.what, l, r, k)
		}
		if len(r.Entries) > 0 || x.taken && len(r.Committed) > 0 || !x.taken && len(r.Committed) != x.commit-2 {
			t.Errorf("P7.16: a snapshot %s: %+v", x.what, r)
		}
		if r := n.Ready(); r.Snapshot.Index != 0 || len(r.Messages) > 0 || r.Kept {
			t.Errorf("P7.16: it is told twice: %+v", r)
		}
	}
}

func TestP7_10InstallForgetsWhatWasNew(t *testing.T) {
	n := begin(t, start(1, 1, 2, 3))
	n.Receive(entries(2, 1, 1, 0, 0, 2, 1, run(1, 1, 1, 1)...))
	n.Receive(install(2, 1, 2, 2, api.Snapshot{Index: 3, Term: 2, Config: voters(1, 2), Data: "state"}))
	n.Receive(entries(2, 1, 2, 3, 2, 4, 3, run(4, 2, 2)...))
	r := n.Ready()
	if terms(r.Entries) != "[4/2 5/2]" || terms(r.Committed) != "[4/2]" || r.Snapshot.Index != 3 || r.Hard != (api.Hard{Term: 2, Commit: 4}) {
		t.Errorf("P7.10: what was new in the log is not told any more: %+v", r)
	}
	n.Receive(entries(2, 1, 2, 5, 2, 5, 4, run(6, 2)...))
	n.Receive(install(2, 1, 2, 5, api.Snapshot{Index: 9, Term: 2, Config: voters(1, 2), Data: "more"}))
	if r := n.Ready(); len(r.Entries) > 0 || len(r.Committed) > 0 || r.Snapshot.Data != "more" {
		t.Errorf("P7.10: nor is what was committed: %+v", r)
	}
}

func TestP7_10InstallToWhoSeeksVotes(t *testing.T) {
	x := api.Snapshot{Index: 3, Term: 1, Config: voters(1, 2, 3)}
	n := begin(t, start(1, 1, 2, 3))
	ticks(n, 10)
	n.Receive(presaid(2, 1, 1, false))
	ticks(n, 9)
	n.Ready()
	n.Receive(install(3, 1, 1, 4, x))
	stands(t, "P7.10", n, "follower of 3, term 1, vote 1, commit 3")
	n.Receive(said(2, 1, 1, false))
	stands(t, "P7.10: nobody said yes", n, "follower of 3, term 1, vote 1, commit 3")
	wants(t, "P7.10", n, "reply 1>3 t1 yes 3 hint 0 r4")
	ticks(n, 9)
	wants(t, "P7.10: ELAPSED is 0", n)
	n.Receive(install(3, 1, 2, 4, x))
	stands(t, "P7.10: of a greater term", n, "follower of 3, term 2, vote 0, commit 3")
}

func TestP7_4FollowsInAGreaterTerm(t *testing.T) {
	s := start(1, 1, 2, 3)
	s.Hard = api.Hard{Term: 2, Vote: 3}
	n := begin(t, s)
	n.Receive(beat(2, 1, 2))
	stands(t, "P7.10: in the same term its vote stays", n, "follower of 2, term 2, vote 3, commit 0")
	n.Receive(beat(2, 1, 4))
	stands(t, "P7.4: in a greater one it has none", n, "follower of 2, term 4, vote 0, commit 0")
	if r := n.Ready(); !r.Kept || r.Hard != (api.Hard{Term: 4}) {
		t.Errorf("P7.16: %+v", r)
	}
	ticks(n, 9)
	n.Receive(beat(3, 1, 5))
	ticks(n, 9)
	stands(t, "P7.4: ELAPSED is 0", n, "follower of 3, term 5, vote 0, commit 0")
}

func TestP7_4WhoFollowsWaits(t *testing.T) {
	for _, m := range []api.Message{said(2, 1, 4, true), presaid(2, 1, 4, true), vote(2, 1, 4, 0, 0), {Kind: api.AppendReply, From: 2, To: 1, Term: 4}} {
		n := begin(t, with(start(1, 1, 2, 3), 0, run(1, 1)...))
		ticks(n, 9)
		n.Receive(m)
		stands(t, "P7.4", n, "follower of 0, term 4, vote 0, commit 0")
		n.Ready()
		ticks(n, 9)
		wants(t, "P7.4: ELAPSED is 0", n)
		n.Tick()
		wants(t, "P7.5", n, "prevote 1>2 t5 at 1/1", "prevote 1>3 t5 at 1/1")
	}
}

func TestP7_4WhoFollowsForgets(t *testing.T) {
	n := settled(t, start(1, 1, 2, 3))
	n.Receive(ack(n, 2, 1, 2))
	for id := 7; id >= 5; id-- {
		if e := n.Read(id); e != api.OK {
			t.Fatalf("P7.13: Read: %v", e)
		}
	}
	n.Ready()
	n.Receive(said(3, 1, 6, true))
	stands(t, "P7.4", n, "follower of 0, term 6, vote 0, commit 1")
	knows(t, "P7.4: progress is forgotten", n)
	r := n.Ready()
	if tell(r.Refused) != "[[7 6 5]]" || len(r.Reads) > 0 {
		t.Errorf("P7.4: reads that wait are refused, in order: %+v", r)
	}
	ticks(n, 9)
	wants(t, "P7.4: ELAPSED is 0", n)
	n.Tick()
	n.Receive(presaid(2, 1, 7, false))
	n.Receive(said(2, 1, 7, false))
	stands(t, "P7.6", n, "leader of 1, term 7, vote 1, commit 1")
	r = n.Ready()
	if got := mail(r.Messages[len(r.Messages)-2:]); got != "entries 1>2 t7 at 1/1 c1 r1 [2/7]; entries 1>3 t7 at 1/1 c1 r1 [2/7]" {
		t.Errorf("P7.6: no rounds: %s", got)
	}
	if len(r.Refused) > 0 {
		t.Errorf("P7.16: they are told once: %+v", r)
	}
	n.Receive(ack(n, 2, 2, 1))
	if r := n.Ready(); len(r.Reads)+len(r.Refused) > 0 {
		t.Errorf("P7.4: no read waits: %+v", r)
	}
}

func TestP7_3OfWhichTerm(t *testing.T) {
	s := start(1, 1, 2, 3)
	s.Hard.Term = api.Far - 1
	n := begin(t, s)
	ticks(n, 10)
	wants(t, "P7.3", n, brief(prevote(1, 2, api.Far, 0, 0)), brief(prevote(1, 3, api.Far, 0, 0)))
	n.Receive(presaid(2, 1, api.Far, false))
	wants(t, "P7.3", n, brief(vote(1, 2, api.Far, 0, 0)), brief(vote(1, 3, api.Far, 0, 0)))
	n.Receive(said(2, 1, api.Far, false))
	for _, m := range n.Ready().Messages {
		if m.From != 1 || m.Term != api.Far || m.Kind != api.AppendEntries {
			t.Errorf("P7.3: %s", brief(m))
		}
	}
}

func TestP7TermsBeyondFar(t *testing.T) {
	n := begin(t, turned(start(1, 1), func(s *api.Start) { s.Hard.Term = api.Far }))
	ticks(n, 10)
	stands(t, "P7.6: it comes there itself", n, "leader of 1, term 549755813889, vote 1, commit 1")
	if _, _, e := n.Propose("x"); e != api.OK {
		t.Errorf("P7.11: %v", e)
	}
	if _, e := raft.New(api.Start{ID: 1, Config: voters(1), Election: 2, Beat: 1, Hard: n.Look().Hard, Log: n.Look().Log}); e != api.ErrStart {
		t.Errorf("P7.2: a term above Far: %v", e)
	}
}
