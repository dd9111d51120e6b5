package raft_test

import (
	"slices"
	"testing"

	"quorate/api"
	"quorate/raft"
)

// roomy: a list with spare room behind it, and all of that, to look at.
func roomy[T any](l []T, spare T) (short, whole []T) {
	whole = append(slices.Clone(l), spare, spare, spare)
	return whole[:len(l)], whole
}

// spoil: a list, and its spare room.
func spoil[T any](l []T, with T) {
	l = l[:cap(l)]
	for i := range l {
		l[i] = with
	}
}

func spoilConfig(c api.Config) {
	spoil(c.Voters, 88)
	spoil(c.Next, 88)
	spoil(c.Learners, 88)
}

var wrongEntry = api.Entry{Index: 88, Term: 88, Kind: 88, Data: "over"}

func spoilReady(r api.Ready) {
	spoil(r.Entries, wrongEntry)
	spoil(r.Committed, wrongEntry)
	spoilConfig(r.Snapshot.Config)
	for _, m := range r.Messages {
		spoil(m.Entries, wrongEntry)
		spoilConfig(m.Snapshot.Config)
	}
	spoil(r.Messages, api.Message{Kind: 88})
	spoil(r.Reads, api.Read{ID: 88})
	spoil(r.Refused, 88)
}

func spoilStatus(s api.Status) {
	spoilConfig(s.Config)
	spoil(s.Log.Entries, wrongEntry)
	spoil(s.Progress, api.Progress{Node: 88})
}

func spoilKept(k api.Kept) {
	spoilConfig(k.Config)
	spoilConfig(k.Snapshot.Config)
	spoil(k.Log.Entries, wrongEntry)
}

// twice: the same is done to two nodes: of one all that it gives out is spoilt. They must stay alike.
func twice(t *testing.T, s api.Start, acts ...func(*raft.Node)) {
	t.Helper()
	a, b := begin(t, s), begin(t, s)
	for i, act := range acts {
		act(a)
		act(b)
		ra, rb := a.Ready(), b.Ready()
		told := tell(ra)
		spoilReady(ra)
		if tell(rb) != told {
			t.Fatalf("P7.16: behind the act %d they tell: %s, %s", i, told, tell(rb))
		}
		spoilStatus(a.Look())
		spoilKept(a.Kept())
		if tell(a.Look(), a.Kept()) != tell(b.Look(), b.Kept()) {
			t.Fatalf("what is given out is not new memory: behind the act %d: %+v, %+v", i, a.Look(), b.Look())
		}
	}
}

func TestP7WhatComesOutIsNew(t *testing.T) {
	s := with(from(start(1, 1, 2, 3), 3, 1, "state"), 4, run(4, 1)[0], change(5, 1, api.Config{Voters: []int{1, 2}, Learners: []int{3, 4}}), run(6, 1)[0])
	gets := func(m api.Message) func(*raft.Node) { return func(n *raft.Node) { n.Receive(m) } }
	reply := func(from, index, round int, no bool) func(*raft.Node) {
		return gets(api.Message{Kind: api.AppendReply, From: from, To: 1, Term: 2, Index: index, Reject: no, Hint: 1, Context: round})
	}
	twice(t, s,
		func(n *raft.Node) {},
		func(n *raft.Node) { ticks(n, 10) },
		gets(presaid(2, 1, 2, false)),
		gets(said(2, 1, 2, false)),
		func(n *raft.Node) { n.Propose("x") },
		reply(2, 6, 1, true), reply(3, 6, 1, true), reply(4, 6, 1, true), // they are sent snapshots, two of them in one round
		func(n *raft.Node) { ticks(n, 3) },
		reply(2, 3, 1, false), reply(2, 7, 2, false),
		func(n *raft.Node) { n.Read(1); n.Read(2); n.Compact(6, "more") },
		func(n *raft.Node) { n.Change(op(api.RemoveNode, 2)); n.Propose("y") },
		reply(2, 9, 4, false),
		func(n *raft.Node) { n.Read(3); n.Read(4) },
		gets(said(2, 1, 5, true)),
		gets(entries(2, 1, 5, 20, 5, 0, 1)),
		gets(install(2, 1, 5, 1, api.Snapshot{Index: 30, Term: 5, Config: api.Config{Voters: []int{1, 2}, Next: []int{2, 3}, Learners: []int{4}}, Data: "last"})),
		gets(entries(2, 1, 5, 30, 5, 31, 1, run(31, 5, 5)...)),
		gets(entries(2, 1, 6, 31, 5, 31, 1, run(32, 6, 6)...)),
	)
}

func TestP7ListsOfOneAnswerAreApart(t *testing.T) {
	n := lead(t, with(from(start(1, 1, 2, 3), 3, 1, "state"), 3, run(4, 1, 1)...))
	n.Receive(refusal(n, 2, 5, 1, 1))
	n.Receive(refusal(n, 3, 5, 1, 1))
	r := n.Ready()
	spoilConfig(r.Messages[0].Snapshot.Config)
	if got, want := brief(r.Messages[1]), `install 1>3 t2 3/1 [1 2 3] [] [] "state" r1`; got != want {
		t.Errorf("two messages share memory: %s; want %s", got, want)
	}
	n = begin(t, start(1, 1, 2, 3))
	n.Receive(entries(2, 1, 1, 0, 0, 2, 1, run(1, 1, 1)...))
	r = n.Ready()
	spoil(r.Entries, wrongEntry)
	if terms(r.Committed) != "[1/1 2/1]" {
		t.Error("Entries and Committed share memory")
	}
	x := api.Snapshot{Index: 9, Term: 1, Config: voters(1, 2, 3)}
	n.Receive(install(2, 1, 1, 1, x))
	k := n.Kept()
	spoilConfig(k.Config)
	if lists(k.Snapshot.Config) != "[1 2 3] [] []" {
		t.Error("the configuration and the snapshot's share memory")
	}
}

func TestP7WhatIsHandedInStays(t *testing.T) {
	s := with(from(start(1), 3, 1, "state"), 4, run(4, 1, 1)...)
	var lists [][]int
	give := func(l ...int) []int {
		short, whole := roomy(l, 77)
		lists = append(lists, whole)
		return short
	}
	s.Config = api.Config{Voters: give(1, 2, 3), Learners: give(4)}
	s.Snapshot.Config = api.Config{Voters: give(1, 2, 3), Learners: give(4)}
	var log, come []api.Entry
	s.Log.Entries, log = roomy(s.Log.Entries, wrongEntry)
	m := entries(2, 1, 2, 5, 1, 9, 1)
	m.Entries, come = roomy(run(6, 2, 2), wrongEntry)
	ops, some := roomy(op(api.RemoveNode, 2), api.Op{Kind: 77})
	look := func() string { return tell(lists, log, come, some) }
	before := look()
	n := begin(t, s)
	n.Receive(m)
	ticks(n, 10)
	n.Receive(presaid(2, 1, 3, false))
	n.Receive(said(2, 1, 3, false))
	n.Propose("x")
	n.Receive(ack(n, 2, 9, 2))
	n.Change(ops)
	n.Receive(ack(n, 2, 10, 3))
	n.Ready()
	n.Compact(6, "more")
	if got := look(); got != before {
		t.Errorf("what was handed in has changed, or its spare room: %s; it was %s", got, before)
	}
	stood := tell(n.Look(), n.Kept())
	for _, l := range lists {
		spoil(l, 66)
	}
	spoil(log, wrongEntry)
	spoil(come, wrongEntry)
	spoil(some, api.Op{})
	if got := tell(n.Look(), n.Kept()); got != stood {
		t.Errorf("what was handed in is kept: %s; it was %s", got, stood)
	}
}

func TestP7WhatItBeganWithIsItsOwn(t *testing.T) {
	s := with(from(start(1, 1), 3, 1, "state"), 3, run(4, 1, 1)...)
	s.Snapshot.Config = voters(1)
	var log []api.Entry
	s.Log.Entries, log = roomy(s.Log.Entries, wrongEntry)
	before := tell(log)
	n := begin(t, s)
	ticks(n, 10)
	if tell(log) != before {
		t.Errorf("what was handed in has changed, or its spare room: %+v", log)
	}
	stood := tell(n.Look(), n.Kept())
	spoil(log, wrongEntry)
	spoilConfig(s.Config)
	spoilConfig(s.Snapshot.Config)
	if got := tell(n.Look(), n.Kept()); got != stood {
		t.Errorf("what was handed in is kept: %s; it was %s", got, stood)
	}
}

func TestP7ASnapshotThatComesStays(t *testing.T) {
	voting, whole := roomy([]int{1, 2}, 77)
	c := api.Config{Voters: voting, Next: []int{1}, Learners: []int{5}}
	x := api.Snapshot{Index: 20, Term: 3, Config: c, Data: "state"}
	n := begin(t, start(1, 1, 2, 3))
	n.Receive(install(3, 1, 9, 1, x))
	if tell(whole) != "[[1 2 77 77 77]]" {
		t.Errorf("what was handed in has changed, or its spare room: %v", whole)
	}
	stood := tell(n.Look(), n.Kept())
	spoilConfig(c)
	if got := tell(n.Look(), n.Kept()); got != stood {
		t.Errorf("what was handed in is kept: %s; it was %s", got, stood)
	}
	if r := n.Ready(); lists(r.Snapshot.Config) != "[1 2] [1] [5]" {
		t.Errorf("what was handed in is told: %+v", r)
	}
}

func TestP7NodesHaveNothingToDoWithOneAnother(t *testing.T) {
	s := with(start(1, 1), 1, run(1, 1)...)
	a, b := begin(t, s), begin(t, s)
	stood := tell(b.Look(), b.Kept())
	ticks(a, 10)
	a.Propose("x")
	a.Ready()
	a.Compact(2, "state")
	if got := tell(b.Look(), b.Kept()); got != stood {
		t.Errorf("another node stands: %s; it stood: %s", got, stood)
	}
}

// Whatever a node is told, every call ends and none panics, and what it wants sent may be.
func TestP7NoPanic(t *testing.T) {
	numbers := append([]int{0, 1, 2, 3, 4, 9, 10, api.Far, api.Far + 1, api.MaxNumber}, extreme...)
	nodes := []*raft.Node{
		begin(t, start(1, 1, 2, 3)),
		begin(t, turned(start(1), func(s *api.Start) { s.Config = api.Config{} })),
		lead(t, with(from(start(1, 1, 2, 3), 3, 1, "state"), 4, run(4, 1, 1)...)),
		settled(t, turned(start(1, 1, 2, 3), func(s *api.Start) { s.Lease = true })),
		lead(t, start(1, 1)),
	}
	var l []api.Message
	for kind := -1; kind <= 9; kind++ {
		for _, x := range numbers {
			for _, y := range numbers {
				l = append(l,
					api.Message{Kind: kind, From: 2, To: 1, Term: x, Index: y, LogTerm: x, Reject: y == 1, Hint: x, Context: y},
					api.Message{Kind: kind, From: 2, To: 1, Term: 2, Index: x, LogTerm: y, Commit: x},
					api.Message{Kind: kind, From: 3, To: 1, Term: 2, Index: x, Reject: true, Hint: y, Context: x},
					api.Message{Kind: kind, From: 3, To: 1, Term: 3, Index: x, Hint: y, Context: x},
					api.Message{Kind: kind, From: 3, To: 1, Term: 3, Index: x, LogTerm: 1, Commit: y, Entries: run(x+1, 1, 1)},
					api.Message{Kind: kind, From: x, To: y, Term: 1, Reject: true},
					api.Message{Kind: kind, From: 2, To: 1, Term: 9, Snapshot: api.Snapshot{Index: x, Term: y, Config: voters(1, x)}})
			}
		}
	}
	for _, n := range nodes {
		for i, m := range l {
			n.Receive(m)
			if i%50 == 0 {
				n.Tick()
			}
			if got := sent(n); len(got) > 3 && got[:3] == "MAY" {
				t.Fatalf("P7.3: behind %+v it wants sent: %s", m, got)
			}
		}
		for _, x := range numbers {
			n.Compact(x, "")
			n.Read(x)
			n.Change(op(x, x))
		}
		n.Change(nil)
		n.Look()
		n.Kept()
		n.Ready()
	}
}
