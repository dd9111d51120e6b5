package raft_test

import (
	"strings"
	"testing"

	"quorate/api"
	"quorate/raft"
)

// proposes: a leader puts data into its log, at an index and a term.
func proposes(t *testing.T, n *raft.Node, index, term int) {
	t.Helper()
	if i, x, e := n.Propose("data"); i != index || x != term || e != api.OK {
		t.Errorf("P7.11: Propose: %d, %d, %v; want %d, %d", i, x, e, index, term)
	}
}

func TestP7_5Beats(t *testing.T) {
	n := lead(t, start(1, 1, 2, 3))
	for round := 2; round <= 4; round++ {
		ticks(n, 2)
		wants(t, "P7.5", n)
		n.Tick()
		r := n.Ready()
		if len(r.Messages) != 2 || r.Messages[0].Context != round || r.Messages[1].Context != round || r.Messages[0].To != 2 || r.Messages[1].To != 3 {
			t.Errorf("P7.5: at Beat round %d is sent: %s", round, mail(r.Messages))
		}
	}
}

func TestP7_5Quiet(t *testing.T) {
	n := lead(t, start(1, 1, 2, 3))
	ticks(n, 9)
	stands(t, "P7.5", n, "leader of 1, term 1, vote 1, commit 0")
	n.Tick()
	stands(t, "P7.5: nobody was heard of", n, "follower of 0, term 1, vote 1, commit 0")
	ticks(n, 9)
	stands(t, "P7.4: ELAPSED is 0", n, "follower of 0, term 1, vote 1, commit 0")
	n.Tick()
	stands(t, "P7.5", n, "precandidate of 0, term 1, vote 1, commit 0")
}

func TestP7_5QuietIsLookedAtOnceAnElection(t *testing.T) {
	n := lead(t, start(1, 1, 2, 3))
	ticks(n, 1)
	n.Receive(refusal(n, 3, 9, 0, 0))
	knows(t, "P7.10: who answers is Active", n, "1: 1 2 2 true 0", "2: 0 1 1 false 0", "3: 0 1 1 true 0")
	ticks(n, 9)
	knows(t, "P7.5: enough are Active; nobody is any more", n, "1: 1 2 2 false 0", "2: 0 1 1 false 0", "3: 0 1 1 false 0")
	stands(t, "P7.5", n, "leader of 1, term 1, vote 1, commit 0")
	ticks(n, 9)
	stands(t, "P7.5", n, "leader of 1, term 1, vote 1, commit 0")
	n.Tick()
	stands(t, "P7.5", n, "follower of 0, term 1, vote 1, commit 0")
}

func TestP7_5QuietIsAnElectionWhateverTheTimeout(t *testing.T) {
	n := lead(t, start(3, 1, 2, 3))
	ticks(n, 9)
	stands(t, "P7.5", n, "leader of 3, term 1, vote 3, commit 0")
	n.Tick()
	stands(t, "P7.5", n, "follower of 0, term 1, vote 3, commit 0")
}

func TestP7_6CountersBeginAnewWithAReign(t *testing.T) {
	n := lead(t, start(1, 1, 2, 3))
	ticks(n, 5)
	n.Receive(said(2, 1, 2, true))
	ticks(n, 10)
	n.Receive(presaid(2, 1, 3, false))
	n.Receive(said(2, 1, 3, false))
	stands(t, "P7.6", n, "leader of 1, term 3, vote 1, commit 0")
	n.Ready()
	ticks(n, 2)
	wants(t, "P7.6: BEATS is 0", n)
	ticks(n, 7)
	stands(t, "P7.6: QUIET is 0", n, "leader of 1, term 3, vote 1, commit 0")
	n.Tick()
	stands(t, "P7.5", n, "follower of 0, term 3, vote 1, commit 0")
}

func TestP7_5ARoundAheadOfTheLook(t *testing.T) {
	n := lead(t, turned(start(1, 1, 2), func(s *api.Start) { s.Election, s.Beat = 4, 2 }))
	ticks(n, 3)
	n.Ready()
	n.Tick()
	wants(t, "P7.5: at both a round is sent first", n, "entries 1>2 t1 at 0/0 c0 r3 [1/1]")
	stands(t, "P7.5", n, "follower of 0, term 1, vote 1, commit 0")
}

func TestP7_5AloneItLeadsOn(t *testing.T) {
	n := lead(t, start(1, 1))
	ticks(n, 100)
	stands(t, "P7.5: itself is a quorum", n, "leader of 1, term 1, vote 1, commit 1")
}

func TestP7_7Adds(t *testing.T) {
	n := lead(t, start(1, 1, 2, 3))
	proposes(t, n, 2, 1)
	r := n.Ready()
	if terms(r.Entries) != "[2/1a]" || r.Entries[0].Data != "data" || len(r.Committed) > 0 || r.Kept {
		t.Errorf("P7.7: %+v", r)
	}
	if got, want := mail(r.Messages), "entries 1>2 t1 at 0/0 c0 r2 [1/1 2/1a]; entries 1>3 t1 at 0/0 c0 r2 [1/1 2/1a]"; got != want {
		t.Errorf("P7.7: nothing is committed: a round: %s; want %s", got, want)
	}
	knows(t, "P7.7: its own progress", n, "1: 2 3 2 true 0", "2: 0 1 1 false 0", "3: 0 1 1 false 0")
}

func TestP7_8Streams(t *testing.T) {
	n := settled(t, start(1, 1, 2, 3))
	knows(t, "P7.8", n, "1: 1 2 2 true 0", "2: 1 2 2 true 1", "3: 0 1 1 false 0")
	for i := 2; i <= 11; i++ {
		proposes(t, n, i, 1)
	}
	knows(t, "P7.8: a stream goes on", n, "1: 11 12 2 true 0", "2: 1 12 2 true 1", "3: 0 1 1 false 0")
	l := n.Ready().Messages
	if got, want := mail(l[len(l)-2:]), "entries 1>2 t1 at 10/1 c1 r12 [11/1a]; entries 1>3 t1 at 0/0 c1 r12 [1/1 2/1a 3/1a 4/1a 5/1a 6/1a 7/1a 8/1a]"; got != want {
		t.Errorf("P7.8: %s; want %s", got, want)
	}
	n.Receive(ack(n, 3, 8, 12))
	stands(t, "P7.9", n, "leader of 1, term 1, vote 1, commit 8")
	wants(t, "P7.9: a round", n, "entries 1>2 t1 at 11/1 c8 r13 []", "entries 1>3 t1 at 8/1 c8 r13 [9/1a 10/1a 11/1a]")
	knows(t, "P7.10", n, "1: 11 12 2 true 0", "2: 1 12 2 true 1", "3: 8 12 2 true 12")
}

func TestP7_8Window(t *testing.T) {
	n := settled(t, start(1, 1, 2, 3))
	for i := 2; i <= 20; i++ {
		proposes(t, n, i, 1)
	}
	l := n.Ready().Messages
	if got, want := brief(l[len(l)-2]), "entries 1>2 t1 at 17/1 c1 r21 []"; got != want {
		t.Errorf("P7.8: no more than Window is on its way: %s; want %s", got, want)
	}
	n.Receive(ack(n, 2, 2, 21))
	wants(t, "P7.9", n, "entries 1>2 t1 at 17/1 c2 r22 [18/1a]", "entries 1>3 t1 at 0/0 c2 r22 [1/1 2/1a 3/1a 4/1a 5/1a 6/1a 7/1a 8/1a]")
	n.Receive(ack(n, 2, 2, 22))
	wants(t, "P7.10: Next is not above the last index: it is sent to", n, "entries 1>2 t1 at 18/1 c2 r22 []")
}

func TestP7_8Install(t *testing.T) {
	s := from(start(1, 1, 2, 3), 5, 1, "state")
	n := lead(t, with(s, 5, run(6, 1)...))
	n.Receive(refusal(n, 3, 6, 2, 1))
	wants(t, "P7.8", n, `install 1>3 t2 5/1 [1 2 3] [] [] "state" r1`)
	knows(t, "P7.8", n, "1: 7 8 2 true 0", "2: 0 7 1 false 0", "3: 0 2 3 true 1")
	ticks(n, 3)
	wants(t, "P7.8: it is sent again", n, "entries 1>2 t2 at 6/1 c5 r2 [7/2]", `install 1>3 t2 5/1 [1 2 3] [] [] "state" r2`)
	n.Receive(ack(n, 3, 5, 2))
	wants(t, "P7.10: it has it", n, "entries 1>3 t2 at 5/1 c5 r2 [6/1 7/2]")
	knows(t, "P7.10", n, "1: 7 8 2 true 0", "2: 0 7 1 false 0", "3: 5 8 2 true 2")
}

func TestP7_9JustItsOwnTerm(t *testing.T) {
	n := lead(t, with(start(1, 1, 2, 3), 0, run(1, 1, 1)...))
	n.Receive(ack(n, 2, 2, 1))
	stands(t, "P7.9: enough have what is of an earlier term", n, "leader of 1, term 2, vote 1, commit 0")
	wants(t, "P7.10: the rest", n, "entries 1>2 t2 at 2/1 c0 r1 [3/2]")
	n.Receive(ack(n, 2, 3, 1))
	stands(t, "P7.9: and one of its own", n, "leader of 1, term 2, vote 1, commit 3")
	wants(t, "P7.9: a round", n, "entries 1>2 t2 at 3/2 c3 r2 []", "entries 1>3 t2 at 2/1 c3 r2 [3/2]")
}

func TestP7_10Replies(t *testing.T) {
	first := []string{"1: 3 4 2 true 0", "2: 0 3 1 false 0", "3: 0 3 1 false 0"}
	for _, x := range []struct {
		what string
		m    func(*raft.Node) api.Message
		sent string
		node string // what is known of 2 then
	}{
		{"it has all that it was sent", func(n *raft.Node) api.Message { return ack(n, 2, 3, 1) }, "entries 1>2 t2 at 3/2 c3 r2 []; entries 1>3 t2 at 2/1 c3 r2 [3/2]", "2: 3 4 2 true 1"},
		{"it has a part", func(n *raft.Node) api.Message { return ack(n, 2, 1, 1) }, "entries 1>2 t2 at 2/1 c0 r1 [3/2]", "2: 1 4 2 true 1"},
		{"it has nothing", func(n *raft.Node) api.Message { return ack(n, 2, 0, 1) }, "entries 1>2 t2 at 2/1 c0 r1 [3/2]", "2: 0 4 2 true 1"},
		{"it has more than there is", func(n *raft.Node) api.Message { return ack(n, 2, 4, 1) }, "", "2: 0 3 1 false 0"},
		{"it has another entry", func(n *raft.Node) api.Message { return refusal(n, 2, 2, 1, 1) }, "entries 1>2 t2 at 0/0 c0 r1 [1/1 2/1 3/2]", "2: 0 1 1 true 1"},
		{"likewise, without a hint", func(n *raft.Node) api.Message { return refusal(n, 2, 2, 0, 1) }, "entries 1>2 t2 at 0/0 c0 r1 [1/1 2/1 3/2]", "2: 0 1 1 true 1"},
		{"it refuses what it was not sent", func(n *raft.Node) api.Message { return refusal(n, 2, 3, 1, 1) }, "", "2: 0 3 1 true 1"},
		{"it refuses what is beyond the log", func(n *raft.Node) api.Message { return refusal(n, 2, 99, 1, 1) }, "", "2: 0 3 1 true 1"},
		{"a round that did not begin", func(n *raft.Node) api.Message { return ack(n, 2, 0, 2) }, "entries 1>2 t2 at 2/1 c0 r1 [3/2]", "2: 0 4 2 true 0"},
		{"no round", func(n *raft.Node) api.Message { return refusal(n, 2, 9, 0, 0) }, "", "2: 0 3 1 true 0"},
		{"from a stranger", func(n *raft.Node) api.Message { return ack(n, 4, 3, 1) }, "", "2: 0 3 1 false 0"},
	} {
		n := lead(t, with(start(1, 1, 2, 3), 0, run(1, 1, 1)...))
		knows(t, "P7.6", n, first...)
		n.Receive(x.m(n))
		wants(t, "P7.10: "+x.what, n, x.sent)
		knows(t, "P7.10: "+x.what, n, first[0], x.node, first[2])
	}
}

func TestP7_10HeardNeverFalls(t *testing.T) {
	n := settled(t, start(1, 1, 2, 3))
	for _, x := range []struct{ context, heard int }{{2, 2}, {1, 2}, {3, 2}, {0, 2}} {
		n.Receive(ack(n, 2, 1, x.context))
		if p := n.Look().Progress[1]; p.Heard != x.heard {
			t.Errorf("P7.10: Context %d of 2 rounds: Heard %d, want %d", x.context, p.Heard, x.heard)
		}
	}
}

func TestP7_10RepliesToOthersThanLeaders(t *testing.T) {
	n := begin(t, with(start(1, 1, 2, 3), 0, run(1, 1)...))
	n.Receive(api.Message{Kind: api.AppendReply, From: 2, To: 1, Term: 1, Index: 1, Context: 1})
	wants(t, "P7.10", n)
	stands(t, "P7.10", n, "follower of 0, term 1, vote 0, commit 0")
}

func TestP7_11Propose(t *testing.T) {
	long := strings.Repeat("x", 257)
	n := begin(t, start(1, 1, 2, 3))
	for _, data := range []string{"", "x", long} {
		if i, term, e := n.Propose(data); i != 0 || term != 0 || e != api.ErrLeader {
			t.Errorf("P7.11: of a follower: %d, %d, %v", i, term, e)
		}
	}
	ticks(n, 10)
	if _, _, e := n.Propose("x"); e != api.ErrLeader {
		t.Errorf("P7.11: of a precandidate: %v", e)
	}
	n = lead(t, start(1, 1, 2, 3))
	if i, term, e := n.Propose(long); i != 0 || term != 0 || e != api.ErrBound {
		t.Errorf("P7.11: of 257 bytes: %d, %d, %v", i, term, e)
	}
	wants(t, "P7.11: nothing is added", n)
	if i, term, e := n.Propose(long[1:]); i != 2 || term != 1 || e != api.OK {
		t.Errorf("P7.11: of 256 bytes: %d, %d, %v", i, term, e)
	}
	if i, term, e := n.Propose(""); i != 3 || term != 1 || e != api.OK {
		t.Errorf("P7.11: of nothing: %d, %d, %v", i, term, e)
	}
	if r := n.Ready(); terms(r.Entries) != "[2/1a 3/1a]" || r.Entries[0].Data != long[1:] {
		t.Errorf("P7.11: %s", terms(r.Entries))
	}
}

func TestP7_11MaxLog(t *testing.T) {
	n := settled(t, start(1, 1, 2, 3))
	for i := 2; i <= 256; i++ {
		proposes(t, n, i, 1)
	}
	if i, term, e := n.Propose("x"); i != 0 || term != 0 || e != api.ErrBound {
		t.Errorf("P7.11: of a log of 256 entries: %d, %d, %v", i, term, e)
	}
	if e := n.Change([]api.Op{{Kind: api.AddVoter, Node: 4}}); e != api.ErrBound {
		t.Errorf("P7.12: likewise: %v", e)
	}
	if e := n.Change(nil); e != api.ErrBound {
		t.Errorf("P7.12: likewise, whatever the change: %v", e)
	}
	if e := n.Read(1); e != api.OK {
		t.Errorf("P7.13: a read needs no room: %v", e)
	}
	n.Receive(ack(n, 2, 9, 1))
	n.Ready()
	if e := n.Compact(1, ""); e != api.OK {
		t.Errorf("P7.14: %v", e)
	}
	proposes(t, n, 257, 1)
	if e := n.Change([]api.Op{{Kind: api.AddVoter, Node: 4}}); e != api.ErrBound {
		t.Errorf("P7.12: %v", e)
	}
	n.Compact(2, "")
	if e := n.Change([]api.Op{{Kind: api.AddVoter, Node: 4}}); e != api.OK {
		t.Errorf("P7.12: there is room again: %v", e)
	}
}

func TestP7_11AtOnce(t *testing.T) {
	n := lead(t, start(1, 1))
	i, term, e := n.Propose("x")
	if r := n.Ready(); i != 2 || term != 1 || e != api.OK || terms(r.Committed) != "[2/1a]" || terms(r.Entries) != "[2/1a]" || r.Hard.Commit != 2 {
		t.Errorf("P7.11: alone it is committed at once: %d, %d, %v, %+v", i, term, e, r)
	}
}

func op(kind, node int) []api.Op {
	return []api.Op{{Kind: kind, Node: node}}
}

func TestP7_12Refused(t *testing.T) {
	n := begin(t, start(1, 1, 2, 3))
	if e := n.Change(op(api.AddVoter, 4)); e != api.ErrLeader {
		t.Errorf("P7.12: of a follower: %v", e)
	}
	n = lead(t, start(1, 1, 2, 3))
	if e := n.Change(nil); e != api.ErrEarly {
		t.Errorf("P7.12: of a leader that has committed nothing: %v", e)
	}
	n = lead(t, with(start(1, 1, 2, 3), 2, run(1, 1, 1)...))
	if e := n.Change(op(api.AddVoter, 4)); e != api.ErrEarly {
		t.Errorf("P7.12: of a leader that has committed none of its own: %v", e)
	}
	n = lead(t, with(start(1, 1, 2, 3), 0, change(1, 1, voters(1, 2))))
	if e := n.Change(op(api.AddVoter, 4)); e != api.ErrEarly {
		t.Errorf("P7.12: ErrEarly is named ahead of ErrJoint: %v", e)
	}
	n = settled(t, start(1, 1, 2, 3))
	for _, x := range []struct {
		ops  []api.Op
		want api.Errno
	}{
		{nil, api.ErrBound},
		{make([]api.Op, 7), api.ErrBound},
		{op(api.AddVoter, 1), api.ErrConfig},
		{op(api.RemoveNode, 4), api.ErrConfig},
		{op(9, 4), api.ErrConfig},
		{append(append(op(api.RemoveNode, 1), op(api.RemoveNode, 2)...), op(api.RemoveNode, 3)...), api.ErrConfig},
	} {
		if e := n.Change(x.ops); e != x.want {
			t.Errorf("P7.12: Change(%v): %v, want %v", x.ops, e, x.want)
		}
	}
	wants(t, "P7.12: nothing is added", n)
	if e := n.Change(op(api.AddVoter, 4)); e != api.OK {
		t.Errorf("P7.12: Change: %v", e)
	}
	for _, ops := range [][]api.Op{nil, op(api.AddVoter, 5), op(9, 9)} {
		if e := n.Change(ops); e != api.ErrJoint {
			t.Errorf("P7.12: while one is under way: %v", e)
		}
	}
}

func TestP7_12InTwoSteps(t *testing.T) {
	n := settled(t, start(1, 1, 2, 3))
	if e := n.Change([]api.Op{{Kind: api.AddVoter, Node: 4}, {Kind: api.RemoveNode, Node: 2}}); e != api.OK {
		t.Fatalf("P7.12: Change: %v", e)
	}
	if c := n.Look().Config; lists(c) != "[1 2 3] [1 3 4] []" {
		t.Errorf("P7.12: at once it is joint: %s", lists(c))
	}
	knows(t, "P7.7: of all members; those that were known stay", n, "1: 2 3 2 true 0", "2: 1 3 2 true 1", "3: 0 1 1 false 0", "4: 0 3 1 false 0")
	wants(t, "P7.7: a round", n, "entries 1>2 t1 at 1/1 c1 r3 [2/1c]", "entries 1>3 t1 at 0/0 c1 r3 [1/1 2/1c]", "entries 1>4 t1 at 2/1 c1 r3 []")
	n.Receive(ack(n, 2, 2, 3))
	stands(t, "P7.9: just one of the new", n, "leader of 1, term 1, vote 1, commit 1")
	wants(t, "P7.10", n)
	n.Receive(ack(n, 4, 2, 3))
	stands(t, "P7.9: both", n, "leader of 1, term 1, vote 1, commit 2")
	if c := n.Look().Config; lists(c) != "[1 3 4] [] []" {
		t.Errorf("P7.9: the Finish is added: %s", lists(c))
	}
	knows(t, "P7.7: who is out is forgotten", n, "1: 3 4 2 true 0", "3: 0 1 1 false 0", "4: 2 4 2 true 3")
	r := n.Ready()
	if got, want := mail(r.Messages), "entries 1>3 t1 at 0/0 c2 r4 [1/1 2/1c 3/1c]; entries 1>4 t1 at 2/1 c2 r4 [3/1c]"; got != want || terms(r.Entries) != "[3/1c]" || terms(r.Committed) != "[2/1c]" {
		t.Errorf("P7.9: one round: %s; want %s; %+v", got, want, r)
	}
	if e := n.Change(op(api.AddVoter, 5)); e != api.ErrJoint {
		t.Errorf("P7.12: it is not committed yet: %v", e)
	}
	n.Receive(ack(n, 2, 3, 4))
	stands(t, "P7.10: who is out says nothing", n, "leader of 1, term 1, vote 1, commit 2")
	n.Receive(ack(n, 4, 3, 4))
	stands(t, "P7.9", n, "leader of 1, term 1, vote 1, commit 3")
	wants(t, "P7.9: a round", n, "entries 1>3 t1 at 0/0 c3 r5 [1/1 2/1c 3/1c]", "entries 1>4 t1 at 3/1 c3 r5 []")
	if e := n.Change(op(api.AddLearner, 5)); e != api.OK {
		t.Errorf("P7.12: then the next may begin: %v", e)
	}
	if c := n.Look().Config; lists(c) != "[1 3 4] [] [5]" {
		t.Errorf("P7.12: learners come at once: %s", lists(c))
	}
	n.Ready()
	n.Receive(ack(n, 4, 4, 6))
	wants(t, "P7.9: nothing more is added", n, "entries 1>3 t1 at 0/0 c4 r7 [1/1 2/1c 3/1c 4/1c]", "entries 1>4 t1 at 4/1 c4 r7 []", "entries 1>5 t1 at 4/1 c4 r7 []")
}

func TestP7_12ALeaderGoesOut(t *testing.T) {
	n := settled(t, start(1, 1, 2, 3))
	n.Change(op(api.RemoveNode, 1))
	n.Ready()
	n.Receive(ack(n, 2, 2, 3))
	stands(t, "P7.9", n, "leader of 1, term 1, vote 1, commit 1")
	n.Receive(ack(n, 3, 2, 3))
	stands(t, "P7.9: it leads on, though it is out", n, "leader of 1, term 1, vote 1, commit 2")
	knows(t, "P7.7: it has no progress of its own", n, "2: 2 4 2 true 3", "3: 2 4 2 true 3")
	proposes(t, n, 4, 1)
	if e := n.Read(5); e != api.OK {
		t.Errorf("P7.13: %v", e)
	}
	n.Ready()
	n.Receive(ack(n, 2, 3, 4))
	stands(t, "P7.9: itself does not count", n, "leader of 1, term 1, vote 1, commit 2")
	n.Ready()
	n.Receive(ack(n, 3, 3, 4))
	stands(t, "P7.9: it is done", n, "follower of 0, term 1, vote 1, commit 3")
	r := n.Ready()
	if got, want := mail(r.Messages), "entries 1>2 t1 at 4/1 c3 r7 []; entries 1>3 t1 at 4/1 c3 r7 []"; got != want {
		t.Errorf("P7.9: a round ahead of that: %s; want %s", got, want)
	}
	if tell(r.Refused) != "[[5]]" || len(r.Reads) > 0 {
		t.Errorf("P7.4: a read that waits is refused: %+v", r)
	}
	ticks(n, 50)
	wants(t, "P7.5: it does not elect any more", n)
}

func TestP7_9ALeaderThatGoesOutLeadsTillThatIsCommitted(t *testing.T) {
	n := settled(t, start(1, 1, 2, 3))
	n.Change(op(api.RemoveNode, 1))
	proposes(t, n, 3, 1)
	proposes(t, n, 4, 1)
	n.Receive(ack(n, 2, 2, 3))
	n.Receive(ack(n, 3, 2, 3))
	if l := n.Look(); lists(l.Config) != "[2 3] [] []" || terms(l.Log.Entries) != "[1/1 2/1c 3/1a 4/1a 5/1c]" || l.Hard.Commit != 2 {
		t.Fatalf("P7.9: %+v", l)
	}
	n.Ready()
	n.Receive(ack(n, 2, 4, 5))
	n.Receive(ack(n, 3, 3, 5))
	stands(t, "P7.9: a Change is not committed", n, "leader of 1, term 1, vote 1, commit 3")
	wants(t, "P7.9: a round", n, "entries 1>2 t1 at 5/1 c3 r7 []", "entries 1>3 t1 at 5/1 c3 r7 []")
	n.Receive(ack(n, 3, 5, 7))
	n.Receive(ack(n, 2, 5, 7))
	stands(t, "P7.9: it is", n, "follower of 0, term 1, vote 1, commit 5")
}

func TestP7_9ALeaderThatIsToLearn(t *testing.T) {
	n := lead(t, with(start(1, 1, 2), 0, change(1, 1, api.Config{Voters: []int{2}, Learners: []int{1}})))
	knows(t, "P7.7: it is a member", n, "1: 2 3 2 true 0", "2: 0 2 1 false 0")
	n.Receive(ack(n, 2, 2, 1))
	stands(t, "P7.9: it does not vote", n, "follower of 0, term 2, vote 1, commit 2")
}

func TestP7_12AloneAtOnce(t *testing.T) {
	n := lead(t, start(1, 1))
	if e := n.Change(append(op(api.AddVoter, 2), op(api.AddLearner, 3)...)); e != api.OK {
		t.Fatalf("P7.12: %v", e)
	}
	wants(t, "P7.12: the new ones are needed too", n, "entries 1>2 t1 at 2/1 c1 r2 []", "entries 1>3 t1 at 2/1 c1 r2 []")
	n = lead(t, start(1, 1, 2))
	n.Receive(ack(n, 2, 1, 1))
	n.Ready()
	n.Change(op(api.RemoveNode, 2))
	n.Receive(ack(n, 2, 2, 3))
	stands(t, "P7.9: the Finish is committed as it is added", n, "leader of 1, term 1, vote 1, commit 3")
	if r := n.Ready(); terms(r.Committed) != "[2/1c 3/1c]" || mail(r.Messages) != "entries 1>2 t1 at 1/1 c1 r3 [2/1c]" {
		t.Errorf("P7.9: %s, %s", terms(r.Committed), mail(r.Messages))
	}
	if i, _, e := n.Propose("x"); i != 4 || e != api.OK {
		t.Errorf("P7.11: %d, %v", i, e)
	}
}

func TestP7_9ALeaderEndsWhatAnotherBegan(t *testing.T) {
	joint := api.Config{Voters: []int{1, 2}, Next: []int{1, 3}}
	n := lead(t, with(start(1, 1, 2), 0, run(1, 1)[0], change(2, 1, joint)))
	n.Receive(ack(n, 2, 3, 1))
	stands(t, "P7.9", n, "leader of 1, term 2, vote 1, commit 0")
	n.Ready()
	n.Receive(ack(n, 3, 3, 1))
	stands(t, "P7.9", n, "leader of 1, term 2, vote 1, commit 3")
	if l := n.Look(); lists(l.Config) != "[1 3] [] []" || terms(l.Log.Entries) != "[1/1 2/1c 3/2 4/2c]" {
		t.Errorf("P7.9: the Finish is added: %+v", l)
	}
	n = lead(t, with(start(1, 1, 2), 2, run(1, 1)[0], change(2, 1, joint)))
	n.Receive(ack(n, 2, 3, 1))
	n.Receive(ack(n, 3, 3, 1))
	if l := n.Look(); lists(l.Config) != "[1 3] [] []" {
		t.Errorf("P7.9: likewise, if the Change was committed: %+v", l)
	}
}

func TestP7_9WhileAChangeIsOpen(t *testing.T) {
	n := settled(t, start(1, 1, 2, 3))
	proposes(t, n, 2, 1)
	n.Change(op(api.AddVoter, 4))
	n.Ready()
	n.Receive(ack(n, 2, 2, 4))
	stands(t, "P7.9: the new ones are needed for all behind", n, "leader of 1, term 1, vote 1, commit 1")
	n.Ready()
	n.Receive(ack(n, 3, 2, 4))
	stands(t, "P7.9", n, "leader of 1, term 1, vote 1, commit 2")
	wants(t, "P7.9: a round", n, "entries 1>2 t1 at 3/1 c2 r5 []", "entries 1>3 t1 at 2/1 c2 r5 [3/1c]", "entries 1>4 t1 at 3/1 c2 r5 []")
	if l := n.Look(); lists(l.Config) != "[1 2 3] [1 2 3 4] []" {
		t.Errorf("P7.9: the Change is not committed: %+v", l)
	}
}
