package raft_test

import (
	"fmt"
	"testing"

	"quorate/api"
	"quorate/raft"
)

// reads: a node is asked for reads of these numbers.
func reads(t *testing.T, n *raft.Node, ids ...int) {
	t.Helper()
	for _, id := range ids {
		if e := n.Read(id); e != api.OK {
			t.Errorf("P7.13: Read(%d): %v", id, e)
		}
	}
}

// answers: the reads that may be answered now, each with its index.
func answers(t *testing.T, what string, n *raft.Node, want string) {
	t.Helper()
	r := n.Ready()
	if got := fmt.Sprint(r.Reads); got != want || len(r.Refused) > 0 {
		t.Errorf("P7.13: %s: may be answered: %s, refused: %v; want %s", what, got, r.Refused, want)
	}
}

func TestP7_13Refused(t *testing.T) {
	n := begin(t, start(1, 1, 2, 3))
	if e := n.Read(1); e != api.ErrLeader {
		t.Errorf("P7.13: of a follower: %v", e)
	}
	for _, lease := range []bool{false, true} {
		s := with(start(1, 1, 2, 3), 2, run(1, 1, 1)...)
		s.Lease = lease
		n = lead(t, s)
		n.Receive(ack(n, 2, 2, 1))
		if e := n.Read(1); e != api.ErrEarly {
			t.Errorf("P7.13: of a leader that has committed none of its own: %v", e)
		}
	}
	if r := n.Ready(); len(r.Reads)+len(r.Refused) > 0 {
		t.Errorf("P7.13: what is refused at once is not told again: %+v", r)
	}
}

func TestP7_13ByARound(t *testing.T) {
	n := settled(t, start(1, 1, 2, 3))
	reads(t, n, 70)
	r := n.Ready()
	if got, want := mail(r.Messages), "entries 1>2 t1 at 1/1 c1 r3 []; entries 1>3 t1 at 0/0 c1 r3 [1/1]"; got != want || len(r.Reads) > 0 {
		t.Errorf("P7.13: it waits for the next round, which is sent: %s, %v", got, r.Reads)
	}
	n.Receive(ack(n, 2, 1, 2))
	answers(t, "an earlier round is answered", n, "[]")
	reads(t, n, 60, -5, 70)
	n.Receive(ack(n, 3, 1, 1))
	answers(t, "likewise", n, "[]")
	n.Receive(ack(n, 2, 1, 4))
	answers(t, "those whose round is not above", n, "[{70 1} {60 1}]")
	n.Receive(refusal(n, 3, 9, 0, 6))
	answers(t, "who refuses answers too", n, "[{-5 1} {70 1}]")
}

func TestP7_13TheIndexIsThatOfTheQuestion(t *testing.T) {
	n := settled(t, start(1, 1, 2, 3))
	reads(t, n, 1)
	proposes(t, n, 2, 1)
	n.Receive(ack(n, 2, 2, 2))
	n.Ready()
	reads(t, n, 2)
	n.Receive(ack(n, 3, 0, 6))
	answers(t, "each with what was committed then", n, "[{1 1} {2 2}]")
}

func TestP7_13AnsweredByAnyReply(t *testing.T) {
	n := settled(t, start(1, 1, 2, 3))
	proposes(t, n, 2, 1)
	reads(t, n, 1)
	n.Ready()
	n.Receive(ack(n, 2, 2, 4))
	r := n.Ready()
	if fmt.Sprint(r.Reads) != "[{1 1}]" || r.Hard.Commit != 2 {
		t.Errorf("P7.9: with what is committed: %+v", r)
	}
	reads(t, n, 2)
	n.Ready()
	n.Receive(ack(n, 3, 1, 6))
	if r := n.Ready(); fmt.Sprint(r.Reads) != "[{2 2}]" || mail(r.Messages) != "entries 1>3 t1 at 1/1 c2 r6 [2/1a]" {
		t.Errorf("P7.10: with what is sent: %+v", r)
	}
	reads(t, n, 3)
	n.Ready()
	n.Receive(refusal(n, 3, 2, 1, 7))
	if r := n.Ready(); fmt.Sprint(r.Reads) != "[{3 2}]" || mail(r.Messages) != "entries 1>3 t1 at 1/1 c2 r7 [2/1a]" {
		t.Errorf("P7.10: with what is sent anew: %+v", r)
	}
}

func TestP7_13OthersCanNotAnswer(t *testing.T) {
	s := start(1)
	s.Config = api.Config{Voters: []int{1, 2, 3}, Learners: []int{4}}
	n := lead(t, s)
	n.Receive(ack(n, 2, 1, 1))
	reads(t, n, 1)
	n.Receive(ack(n, 4, 1, 3))
	answers(t, "who learns does not count", n, "[]")
	n.Receive(ack(n, 3, 0, 9))
	answers(t, "nor a round that did not begin", n, "[]")
	n.Receive(ack(n, 3, 0, 3))
	answers(t, "who votes does", n, "[{1 1}]")
}

func TestP7_13Alone(t *testing.T) {
	for _, lease := range []bool{false, true} {
		n := lead(t, turned(start(1, 1), func(s *api.Start) { s.Lease = lease }))
		proposes(t, n, 2, 1)
		n.Ready()
		for range 3 {
			reads(t, n, 4, 5)
			answers(t, "alone it answers at once", n, "[{4 2} {5 2}]")
			ticks(n, 40)
		}
	}
}

func TestP7_13AChangeUnderWay(t *testing.T) {
	n := settled(t, start(1, 1, 2, 3))
	reads(t, n, 1)
	n.Change(op(api.AddVoter, 4))
	n.Ready()
	n.Receive(ack(n, 2, 1, 4))
	answers(t, "both must answer: 4 and one of 2 and 3 beside it", n, "[]")
	n.Receive(ack(n, 3, 0, 4))
	answers(t, "both have", n, "[{1 1}]")
}

// leased: a leader with leases, whose second round was answered at its beginning, at the tick 10.
func leased(t *testing.T) *raft.Node {
	t.Helper()
	n := settled(t, turned(start(1, 1, 2, 3), func(s *api.Start) { s.Lease = true }))
	n.Receive(ack(n, 2, 1, 2))
	return n
}

func TestP7_13Lease(t *testing.T) {
	n := leased(t)
	for tick := range 10 {
		n.Ready()
		reads(t, n, tick, 50)
		r := n.Ready()
		if got, want := fmt.Sprint(r.Reads), fmt.Sprintf("[{%d 1} {50 1}]", tick); got != want || len(r.Messages) > 0 {
			t.Errorf("P7.13: %d ticks behind the round: %s, %s; want %s", tick, got, mail(r.Messages), want)
		}
		if tick == 4 {
			n.Receive(ack(n, 3, 0, 1)) // so that it leads on; an earlier round
		}
		n.Tick()
	}
	n.Ready()
	reads(t, n, 10)
	answers(t, "an election behind the round it waits", n, "[]")
	n.Receive(ack(n, 3, 0, 5))
	answers(t, "that was sent at the tick 19, ahead of the read", n, "[]")
	reads(t, n, 11)
	answers(t, "by that round the next is answered at once", n, "[{11 1}]")
	n.Receive(ack(n, 3, 0, 6))
	answers(t, "the round of the read", n, "[{10 1}]")
}

func TestP7_13ALeaseBeginsWithTheRound(t *testing.T) {
	n := leased(t)
	ticks(n, 3)
	n.Ready()
	ticks(n, 2)
	n.Receive(ack(n, 2, 1, 3)) // that began at the tick 13, two ticks ago
	ticks(n, 7)
	n.Ready()
	reads(t, n, 1)
	answers(t, "nine ticks behind the beginning", n, "[{1 1}]")
	n.Tick()
	reads(t, n, 2)
	answers(t, "ten ticks behind it", n, "[]")
}

func TestP7_13ALeaseIsAnElectionWhateverTheTimeout(t *testing.T) {
	n := lead(t, turned(start(3, 1, 2, 3), func(s *api.Start) { s.Lease = true }))
	n.Receive(ack(n, 2, 1, 1))
	n.Receive(ack(n, 2, 1, 2))
	ticks(n, 9)
	n.Ready()
	reads(t, n, 1)
	answers(t, "nine ticks behind the beginning", n, "[{1 1}]")
	n.Tick()
	reads(t, n, 2)
	answers(t, "ten ticks behind it", n, "[]")
}

func TestP7_13ALeaseNeedsEnough(t *testing.T) {
	s := start(1, 1, 2, 3, 4, 5)
	s.Lease = true
	n := lead(t, s)
	n.Receive(ack(n, 2, 1, 1))
	n.Receive(ack(n, 3, 1, 1))
	n.Receive(ack(n, 2, 1, 2))
	ticks(n, 3)
	n.Receive(ack(n, 2, 1, 3))
	n.Receive(ack(n, 4, 0, 2))
	ticks(n, 6)
	n.Ready()
	reads(t, n, 1)
	answers(t, "round 2 was answered by enough", n, "[{1 1}]")
	n.Tick()
	reads(t, n, 2)
	answers(t, "round 3 was not", n, "[]")
	n.Receive(ack(n, 5, 0, 3))
	answers(t, "it waits for its own", n, "[]")
	reads(t, n, 3)
	answers(t, "now it was", n, "[{3 1}]")
}

func TestP7_13NoLeaseWithoutARound(t *testing.T) {
	// What it leads with is committed by who answers no round.
	n := lead(t, turned(start(1, 1, 2, 3), func(s *api.Start) { s.Lease = true }))
	n.Receive(ack(n, 2, 1, 0))
	n.Ready()
	reads(t, n, 1)
	answers(t, "no round was answered", n, "[]")
}
