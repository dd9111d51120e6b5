package raft_test

import (
	"testing"

	"quorate/api"
	"quorate/raft"
)

func prevote(from, to, term, index, logTerm int) api.Message {
	return api.Message{Kind: api.PreVote, From: from, To: to, Term: term, Index: index, LogTerm: logTerm}
}

func vote(from, to, term, index, logTerm int) api.Message {
	return api.Message{Kind: api.Vote, From: from, To: to, Term: term, Index: index, LogTerm: logTerm}
}

func presaid(from, to, term int, no bool) api.Message {
	return api.Message{Kind: api.PreVoteReply, From: from, To: to, Term: term, Reject: no}
}

func said(from, to, term int, no bool) api.Message {
	return api.Message{Kind: api.VoteReply, From: from, To: to, Term: term, Reject: no}
}

// beat: of a leader that has nothing to say.
func beat(from, to, term int) api.Message {
	return api.Message{Kind: api.AppendEntries, From: from, To: to, Term: term}
}

func TestP7_5Elects(t *testing.T) {
	for id, others := range map[int][]int{1: {2, 3}, 2: {1, 3}, 3: {1, 2}} {
		n := begin(t, with(start(id, 1, 2, 3), 1, run(1, 1, 4)...))
		var want []string
		for _, to := range others {
			want = append(want, brief(prevote(id, to, 5, 2, 4)))
		}
		for range 3 {
			ticks(n, raft.Timeout(id, 10)-1)
			wants(t, "P7.5", n)
			n.Tick()
			stands(t, "P7.6", n, "precandidate of 0, term 4, vote 0, commit 1")
			wants(t, "P7.6", n, want...)
		}
	}
}

func TestP7_5WhoDoesNotVoteDoesNotElect(t *testing.T) {
	for name, c := range map[string]api.Config{
		"it learns":            {Voters: []int{2, 3}, Learners: []int{1}},
		"it is none of them":   {Voters: []int{2, 3}},
		"it is to be taken in": {},
	} {
		n := begin(t, turned(start(1), func(s *api.Start) { s.Config = c }))
		for range 100 {
			n.Tick()
			if got := sent(n); got != "" || state(n) != "follower of 0, term 0, vote 0, commit 0" {
				t.Fatalf("P7.5: %s: %s; %s", name, got, state(n))
			}
		}
	}
}

func TestP7_5ItElectsInTheLastConfiguration(t *testing.T) {
	joint := api.Config{Voters: []int{2, 5}, Next: []int{1, 3}, Learners: []int{4}}
	n := begin(t, with(start(1, 8, 9), 0, change(1, 1, voters(6, 7)), run(2, 1)[0], change(3, 2, joint), run(4, 2)[0]))
	ticks(n, 10)
	wants(t, "P7.6: each other node that votes, rising", n, "prevote 1>2 t3 at 4/2", "prevote 1>3 t3 at 4/2", "prevote 1>5 t3 at 4/2")
}

func TestP7_6ItAsksAllNodes(t *testing.T) {
	n := begin(t, start(5, 1, 2, 3, 4, 5, 6, 7, 8, 9))
	ticks(n, 18)
	var want []string
	for _, to := range []int{1, 2, 3, 4, 6, 7, 8, 9} {
		want = append(want, brief(prevote(5, to, 1, 0, 0)))
	}
	wants(t, "P7.6", n, want...)
}

func TestP7_5WhoIsTakenOut(t *testing.T) {
	in, out, other := voters(1, 2), voters(2), voters(2, 3)
	for _, x := range []struct {
		what   string
		base   api.Config
		commit int
		log    []api.Entry
		want   string
	}{
		{"not committed", in, 0, []api.Entry{change(1, 1, out)}, "prevote 1>2 t2 at 1/1"},
		{"committed", in, 1, []api.Entry{change(1, 1, out)}, ""},
		{"not committed, more behind it", in, 1, []api.Entry{run(1, 1)[0], change(2, 1, other), run(3, 1)[0]}, "prevote 1>2 t2 at 3/1; prevote 1>3 t2 at 3/1"},
		{"committed, more behind it", in, 2, []api.Entry{run(1, 1)[0], change(2, 1, out), run(3, 1)[0]}, ""},
		{"long ago", in, 1, []api.Entry{change(1, 1, out), change(2, 1, other)}, ""},
		{"long ago, nothing committed", in, 0, []api.Entry{change(1, 1, out), change(2, 1, other)}, ""},
		{"it came in, and is to go out", out, 1, []api.Entry{change(1, 1, in), change(2, 1, out)}, "prevote 1>2 t2 at 2/1"},
		{"it came in, and is out", out, 2, []api.Entry{change(1, 1, in), change(2, 1, out)}, ""},
		{"it was never in", out, 0, []api.Entry{change(1, 1, other)}, ""},
		{"it learns then", in, 0, []api.Entry{change(1, 1, api.Config{Voters: []int{2}, Learners: []int{1}})}, "prevote 1>2 t2 at 1/1"},
		{"nobody was ahead of it", api.Config{}, 0, []api.Entry{change(1, 1, other)}, ""},
	} {
		s := with(start(1), x.commit, x.log...)
		s.Config = x.base
		n := begin(t, s)
		ticks(n, 10)
		if got := sent(n); got != x.want {
			t.Errorf("P7.5: taken out, %s: %s; want %s", x.what, got, x.want)
		}
	}
}

func TestP7_6Alone(t *testing.T) {
	n := begin(t, start(1, 1))
	ticks(n, 9)
	stands(t, "P7.5", n, "follower of 0, term 0, vote 0, commit 0")
	n.Tick()
	stands(t, "P7.6", n, "leader of 1, term 1, vote 1, commit 1")
	r := n.Ready()
	if !r.Kept || r.Hard != (api.Hard{Term: 1, Vote: 1, Commit: 1}) || terms(r.Entries) != "[1/1]" || terms(r.Committed) != "[1/1]" || len(r.Messages) != 0 {
		t.Errorf("P7.6: it leads, and has told: %+v", r)
	}
	n = begin(t, turned(with(start(1), 2, run(1, 1, 3)...), func(s *api.Start) {
		s.Config = api.Config{Voters: []int{1}, Learners: []int{2}}
	}))
	ticks(n, 10)
	stands(t, "P7.6", n, "leader of 1, term 4, vote 1, commit 3")
	wants(t, "P7.9: a round to who learns", n, "entries 1>2 t4 at 2/3 c3 r1 [3/4]")
}

func TestP7_6Stands(t *testing.T) {
	n := begin(t, with(start(2, 1, 2, 3), 0, run(1, 1, 1)...))
	ticks(n, 12)
	n.Ready()
	n.Receive(presaid(3, 2, 2, false))
	stands(t, "P7.6", n, "candidate of 0, term 2, vote 2, commit 0")
	if r := n.Ready(); mail(r.Messages) != "vote 2>1 t2 at 2/1; vote 2>3 t2 at 2/1" || !r.Kept || r.Hard != (api.Hard{Term: 2, Vote: 2}) {
		t.Errorf("P7.6: it stands, and has told: %+v", r)
	}
	// ELAPSED is 0, and who said yes ahead of it has not said yes to that.
	ticks(n, 11)
	stands(t, "P7.6", n, "candidate of 0, term 2, vote 2, commit 0")
	n.Tick()
	stands(t, "P7.6", n, "precandidate of 0, term 2, vote 2, commit 0")
	wants(t, "P7.6", n, "prevote 2>1 t3 at 2/1", "prevote 2>3 t3 at 2/1")
}

func TestP7_6Leads(t *testing.T) {
	s := with(start(2), 1, run(1, 1, 1)...)
	s.Config = api.Config{Voters: []int{1, 2, 3}, Learners: []int{5}}
	n := begin(t, s)
	ticks(n, 12)
	n.Receive(presaid(3, 2, 2, false))
	n.Ready()
	n.Receive(said(1, 2, 2, false))
	stands(t, "P7.6", n, "leader of 2, term 2, vote 2, commit 1")
	knows(t, "P7.6", n, "1: 0 3 1 false 0", "2: 3 4 2 true 0", "3: 0 3 1 false 0", "5: 0 3 1 false 0")
	r := n.Ready()
	if r.Kept || terms(r.Entries) != "[3/2]" || len(r.Committed) != 0 {
		t.Errorf("P7.6: it leads, and has told: %+v", r)
	}
	if got, want := mail(r.Messages), "entries 2>1 t2 at 2/1 c1 r1 [3/2]; entries 2>3 t2 at 2/1 c1 r1 [3/2]; entries 2>5 t2 at 2/1 c1 r1 [3/2]"; got != want {
		t.Errorf("P7.6: it leads: %s; want %s", got, want)
	}
	ticks(n, 2)
	wants(t, "P7.6: BEATS is 0", n)
	n.Tick()
	if got := sent(n); got == "" {
		t.Error("P7.5: no round behind three ticks")
	}
}

func TestP7_6InAJointConfigurationBothMustChoose(t *testing.T) {
	s := start(1)
	s.Config = api.Config{Voters: []int{1, 2, 3}, Next: []int{3, 4, 5}}
	n := begin(t, s)
	ticks(n, 10)
	wants(t, "P7.6", n, "prevote 1>2 t1 at 0/0", "prevote 1>3 t1 at 0/0", "prevote 1>4 t1 at 0/0", "prevote 1>5 t1 at 0/0")
	for _, from := range []int{2, 9, 3} {
		n.Receive(presaid(from, 1, 1, false))
		stands(t, "P7.10", n, "precandidate of 0, term 0, vote 0, commit 0")
	}
	n.Receive(presaid(4, 1, 1, false))
	stands(t, "P7.10", n, "candidate of 0, term 1, vote 1, commit 0")
	for _, from := range []int{5, 2} {
		n.Receive(said(from, 1, 1, false))
		stands(t, "P7.10", n, "candidate of 0, term 1, vote 1, commit 0")
	}
	n.Receive(said(4, 1, 1, false))
	stands(t, "P7.10", n, "leader of 1, term 1, vote 1, commit 0")
}

func TestP7_6WhoIsTakenOutLeads(t *testing.T) {
	n := begin(t, with(start(1, 1, 2, 3), 0, change(1, 1, voters(2, 3))))
	ticks(n, 10)
	wants(t, "P7.6", n, "prevote 1>2 t2 at 1/1", "prevote 1>3 t2 at 1/1")
	n.Receive(presaid(2, 1, 2, false))
	stands(t, "P7.6: its own yes says nothing", n, "precandidate of 0, term 1, vote 0, commit 0")
	n.Receive(presaid(3, 1, 2, false))
	n.Receive(said(2, 1, 2, false))
	n.Receive(said(3, 1, 2, false))
	stands(t, "P7.6", n, "leader of 1, term 2, vote 1, commit 0")
	knows(t, "P7.7: it is no member", n, "2: 0 2 1 false 0", "3: 0 2 1 false 0")
	n.Ready()
	n.Receive(ack(n, 2, 2, 1))
	stands(t, "P7.9", n, "leader of 1, term 2, vote 1, commit 0")
	n.Ready()
	n.Receive(ack(n, 3, 2, 1))
	stands(t, "P7.9: the change is committed", n, "follower of 0, term 2, vote 1, commit 2")
	wants(t, "P7.9: a round ahead of that", n, "entries 1>2 t2 at 2/2 c2 r2 []", "entries 1>3 t2 at 2/2 c2 r2 []")
}

func TestP7_10PreVote(t *testing.T) {
	for _, x := range []struct {
		m    api.Message
		want string
	}{
		{prevote(3, 2, 4, 2, 2), "presaid 2>3 t4 yes"},
		{prevote(3, 2, 9, 2, 2), "presaid 2>3 t9 yes"},
		{prevote(3, 2, 4, 9, 2), "presaid 2>3 t4 yes"},
		{prevote(3, 2, 4, 1, 3), "presaid 2>3 t4 yes"},
		{prevote(9, 2, 4, 2, 2), "presaid 2>9 t4 yes"},
		{prevote(3, 2, 4, 1, 2), "presaid 2>3 t3 no"},
		{prevote(3, 2, 4, 9, 1), "presaid 2>3 t3 no"},
		{prevote(3, 2, 4, 0, 0), "presaid 2>3 t3 no"},
		{prevote(3, 2, 3, 2, 2), "presaid 2>3 t3 no"},
		{prevote(3, 2, 2, 2, 2), "presaid 2>3 t3 no"},
		{prevote(3, 2, 1, 9, 9), "presaid 2>3 t3 no"},
		{prevote(3, 2, api.Far, 2, 2), brief(presaid(2, 3, api.Far, false))},
		{prevote(3, 2, api.Far+1, 2, 2), ""},
		{prevote(3, 1, 4, 2, 2), ""},
	} {
		s := with(start(2, 1, 2, 3), 1, run(1, 1, 2)...)
		s.Hard.Term, s.Hard.Vote = 3, 1
		n := begin(t, s)
		n.Receive(x.m)
		r := n.Ready()
		if got := mail(r.Messages); got != x.want || r.Kept {
			t.Errorf("P7.10: %s: %s, %+v; want %s", brief(x.m), got, r.Hard, x.want)
		}
		stands(t, "P7.10: a PreVote changes nothing", n, "follower of 0, term 3, vote 1, commit 1")
	}
	n := begin(t, start(2, 1, 2, 3))
	n.Receive(prevote(1, 2, 1, 0, 0))
	wants(t, "P7.10", n, "presaid 2>1 t1 yes")
	ticks(n, 12)
	wants(t, "P7.10: it goes on to wait", n, "prevote 2>1 t1 at 0/0", "prevote 2>3 t1 at 0/0")
	n = begin(t, with(start(2, 1, 2, 3), 0, run(1, 1)...))
	n.Receive(prevote(1, 2, 1, 1, 1))
	wants(t, "P7.10: of no greater term", n, "presaid 2>1 t1 no")
}

func TestP7_10PreVoteInNoTerm(t *testing.T) {
	s := start(2, 1, 2, 3)
	n := begin(t, s)
	n.Receive(prevote(3, 2, 1, 0, 0))
	wants(t, "P7.10", n, "presaid 2>3 t1 yes")
	if n.Look().Hard != (api.Hard{}) {
		t.Errorf("P7.10: %+v", n.Look().Hard)
	}
}

func TestP7_10Vote(t *testing.T) {
	for _, x := range []struct {
		vote  int
		m     api.Message
		want  string
		stand string
	}{
		{0, vote(3, 2, 3, 2, 2), "said 2>3 t3 yes", "term 3, vote 3"},
		{3, vote(3, 2, 3, 2, 2), "said 2>3 t3 yes", "term 3, vote 3"},
		{1, vote(3, 2, 3, 2, 2), "said 2>3 t3 no", "term 3, vote 1"},
		{2, vote(3, 2, 3, 9, 3), "said 2>3 t3 no", "term 3, vote 2"},
		{0, vote(3, 2, 3, 1, 2), "said 2>3 t3 no", "term 3, vote 0"},
		{3, vote(3, 2, 3, 9, 1), "said 2>3 t3 no", "term 3, vote 3"},
		{1, vote(3, 2, 4, 2, 2), "said 2>3 t4 yes", "term 4, vote 3"},
		{1, vote(3, 2, 4, 1, 2), "said 2>3 t4 no", "term 4, vote 0"},
		{0, vote(3, 2, 2, 2, 2), "", "term 3, vote 0"},
		{0, vote(3, 2, api.Far+1, 2, 2), "", "term 3, vote 0"},
		{0, vote(3, 1, 3, 2, 2), "", "term 3, vote 0"},
		{0, vote(3, 2, 3, 2, 0), "", "term 3, vote 0"},
		{0, vote(2, 2, 3, 2, 2), "", "term 3, vote 0"},
		{0, vote(0, 2, 3, 2, 2), "", "term 3, vote 0"},
		{0, vote(10, 2, 3, 2, 2), "", "term 3, vote 0"},
	} {
		s := with(start(2, 1, 2, 3), 1, run(1, 1, 2)...)
		s.Hard.Term, s.Hard.Vote = 3, x.vote
		n := begin(t, s)
		n.Receive(x.m)
		if got := sent(n); got != x.want {
			t.Errorf("P7.10: %s, when it has voted for %d: %s; want %s", brief(x.m), x.vote, got, x.want)
		}
		stands(t, "P7.10", n, "follower of 0, "+x.stand+", commit 1")
	}
}

func TestP7_10WhoVotesWaits(t *testing.T) {
	n := begin(t, start(2, 1, 2, 3))
	ticks(n, 11)
	n.Receive(vote(3, 2, 1, 0, 0))
	n.Ready()
	ticks(n, 11)
	wants(t, "P7.10: ELAPSED is 0", n)
	n.Tick()
	wants(t, "P7.5", n, "prevote 2>1 t2 at 0/0", "prevote 2>3 t2 at 0/0")
	n.Receive(vote(1, 2, 1, 0, 0))
	wants(t, "P7.10", n, "said 2>1 t1 no")
	stands(t, "P7.10: who says no goes on", n, "precandidate of 0, term 1, vote 3, commit 0")
	ticks(n, 11)
	n.Receive(vote(3, 2, 1, 0, 0))
	wants(t, "P7.10", n, "said 2>3 t1 yes")
	stands(t, "P7.10: who says yes seeks no votes", n, "follower of 0, term 1, vote 3, commit 0")
	ticks(n, 11)
	wants(t, "P7.10: ELAPSED is 0", n)
	// What was said to it ahead of that is forgotten.
	n.Receive(presaid(1, 2, 2, false))
	stands(t, "P7.10", n, "follower of 0, term 1, vote 3, commit 0")
}

func TestP7_10Holds(t *testing.T) {
	asks := []api.Message{prevote(3, 2, 9, 9, 9), vote(3, 2, 9, 9, 9), prevote(3, 2, 1, 9, 9), vote(3, 2, 2, 9, 9)}
	n := begin(t, with(start(2, 1, 2, 3), 0, run(1, 1)...))
	n.Receive(beat(1, 2, 2))
	n.Ready()
	for tick := range 10 {
		for _, m := range asks {
			n.Receive(m)
			if got := sent(n); got != "" || state(n) != "follower of 1, term 2, vote 0, commit 0" {
				t.Errorf("P7.10: it has heard of its leader %d ticks ago: %s: %s; %s", tick, brief(m), got, state(n))
			}
		}
		n.Tick()
	}
	n.Receive(asks[0])
	wants(t, "P7.10: an election behind that", n, "presaid 2>3 t9 yes")
	n.Receive(asks[3])
	wants(t, "P7.10: likewise", n, "said 2>3 t2 yes")
	stands(t, "P7.10: its leader is as it was", n, "follower of 1, term 2, vote 3, commit 0")
	ticks(n, 10)
	n.Receive(asks[1])
	stands(t, "P7.4: in a greater term there is none", n, "follower of 0, term 9, vote 3, commit 0")
}

func TestP7_10WhoLeadsHolds(t *testing.T) {
	n := lead(t, start(1, 1, 2, 3))
	for _, m := range []api.Message{prevote(3, 1, 9, 9, 9), vote(3, 1, 9, 9, 9), vote(3, 1, 1, 9, 9), prevote(3, 1, 1, 9, 9)} {
		n.Receive(m)
		wants(t, "P7.10: "+brief(m), n)
		stands(t, "P7.10: "+brief(m), n, "leader of 1, term 1, vote 1, commit 0")
	}
	n.Receive(presaid(3, 1, 2, true))
	stands(t, "P7.10: who leads hears of a greater term", n, "follower of 0, term 2, vote 0, commit 0")
}

func TestP7_10WithLeasesTheYoungHold(t *testing.T) {
	for _, lease := range []bool{true, false} {
		s := start(2, 1, 2, 3)
		s.Lease = lease
		n := begin(t, s)
		for tick := range 11 {
			n.Receive(vote(3, 2, 1, 0, 0))
			if got := sent(n) != ""; got != (!lease || tick >= 10) {
				t.Errorf("P7.10: lease %v, NOW %d: it answers: %v", lease, tick, got)
			}
			n.Tick()
		}
	}
}

func TestP7_10AnswersOfALaterTerm(t *testing.T) {
	reply := func(term int) api.Message {
		return api.Message{Kind: api.AppendReply, From: 3, To: 1, Term: term, Reject: true}
	}
	late := []api.Message{presaid(3, 1, 5, true), said(3, 1, 5, true), said(3, 1, 5, false), reply(5)}
	for _, m := range late {
		n := begin(t, start(1, 1, 2, 3))
		n.Receive(beat(2, 1, 1))
		ticks(n, 9)
		n.Receive(m)
		stands(t, "P7.10: it has heard of its leader: "+brief(m), n, "follower of 2, term 1, vote 0, commit 0")
		n = begin(t, turned(start(1, 2, 3), func(s *api.Start) {}))
		n.Receive(beat(2, 1, 1))
		ticks(n, 10)
		n.Receive(m)
		stands(t, "P7.10: an election behind that: "+brief(m), n, "follower of 0, term 5, vote 0, commit 0")
		n = begin(t, start(1, 1, 2, 3))
		n.Receive(m)
		stands(t, "P7.10: it has no leader: "+brief(m), n, "follower of 0, term 5, vote 0, commit 0")
		n = lead(t, start(1, 1, 2, 3))
		n.Receive(m)
		stands(t, "P7.10: it leads: "+brief(m), n, "follower of 0, term 5, vote 0, commit 0")
	}
	n := begin(t, start(1, 1, 2, 3))
	n.Receive(presaid(3, 1, 5, false))
	stands(t, "P7.10: a PreVoteReply that does not reject is of no term yet", n, "follower of 0, term 0, vote 0, commit 0")
	n = begin(t, start(1, 1, 2, 3))
	n.Receive(beat(2, 1, 1))
	n.Receive(beat(3, 1, 2))
	stands(t, "P7.10: another leader, of a greater term", n, "follower of 3, term 2, vote 0, commit 0")
	n.Receive(beat(2, 1, 2))
	stands(t, "P7.10: whoever leads in its term", n, "follower of 2, term 2, vote 0, commit 0")
}

func TestP7_10LateMessages(t *testing.T) {
	s := start(1, 1, 2, 3)
	s.Hard = api.Hard{Term: 5, Vote: 3}
	snapshot := api.Snapshot{Index: 7, Term: 2, Config: voters(1, 2)}
	for _, x := range []struct {
		m    api.Message
		want string
	}{
		{api.Message{Kind: api.AppendEntries, From: 2, To: 1, Term: 4, Index: 3, LogTerm: 2, Entries: run(4, 3), Commit: 9, Context: 6}, "reply 1>2 t5 no 3 hint 0 r0"},
		{api.Message{Kind: api.Install, From: 2, To: 1, Term: 4, Snapshot: snapshot, Context: 6}, "reply 1>2 t5 no 0 hint 0 r0"},
		{prevote(2, 1, 4, 9, 9), "presaid 1>2 t5 no"},
		{vote(2, 1, 4, 9, 9), ""},
		{presaid(2, 1, 4, false), ""},
		{presaid(2, 1, 4, true), ""},
		{presaid(2, 1, 0, true), ""},
		{said(2, 1, 4, false), ""},
		{api.Message{Kind: api.AppendReply, From: 2, To: 1, Term: 4, Index: 3}, ""},
	} {
		n := begin(t, s)
		n.Receive(x.m)
		wants(t, "P7.10: "+brief(x.m), n, x.want)
		stands(t, "P7.10: "+brief(x.m), n, "follower of 0, term 5, vote 3, commit 0")
	}
}

func TestP7_10Sayings(t *testing.T) {
	const pre, full = "precandidate of 0, term 2, vote 0, commit 0", "candidate of 0, term 3, vote 1, commit 0"
	s := start(1, 1, 2, 3, 4, 5)
	s.Hard.Term = 2
	n := begin(t, s)
	ticks(n, 10)
	n.Ready()
	for _, m := range []api.Message{
		presaid(2, 1, 3, false), presaid(2, 1, 3, false), // the same twice
		presaid(3, 1, 2, false), presaid(3, 1, 4, false), // of another term
		said(3, 1, 2, false), said(4, 1, 2, false), // nobody was asked that
		presaid(9, 1, 3, false), // it does not vote
		presaid(4, 1, 2, true), presaid(4, 1, 3, false), presaid(5, 1, 2, true),
		presaid(4, 1, 2, true), // the same no twice
		presaid(2, 1, 2, true), // it said yes
	} {
		n.Receive(m)
		stands(t, "P7.10: "+brief(m), n, pre)
	}
	n.Receive(presaid(3, 1, 3, false))
	stands(t, "P7.10: enough said yes", n, full)
	n.Ready()
	for _, m := range []api.Message{
		presaid(4, 1, 3, false), presaid(5, 1, 3, false), presaid(3, 1, 3, true), presaid(4, 1, 3, true), presaid(5, 1, 3, true),
		presaid(2, 1, 4, false), presaid(4, 1, 4, false),
		said(2, 1, 3, true), said(3, 1, 3, true), said(2, 1, 3, false), said(4, 1, 3, false), said(4, 1, 3, false), said(9, 1, 3, true),
	} {
		n.Receive(m)
		stands(t, "P7.10: "+brief(m), n, full)
	}
	n.Receive(said(5, 1, 3, true))
	stands(t, "P7.10: too many said no", n, "follower of 0, term 3, vote 1, commit 0")
	n.Receive(said(3, 1, 3, false))
	stands(t, "P7.10: it asks nobody any more", n, "follower of 0, term 3, vote 1, commit 0")
	wants(t, "P7.10", n)
}

func TestP7_10WhoIsRefusedGoesOnToWait(t *testing.T) {
	n := begin(t, start(2, 1, 2, 3))
	ticks(n, 12)
	n.Ready()
	ticks(n, 5)
	n.Receive(presaid(1, 2, 0, true))
	stands(t, "P7.10", n, "precandidate of 0, term 0, vote 0, commit 0")
	n.Receive(presaid(3, 2, 0, true))
	stands(t, "P7.10", n, "follower of 0, term 0, vote 0, commit 0")
	ticks(n, 6)
	wants(t, "P7.10: ELAPSED goes on", n)
	n.Tick()
	wants(t, "P7.5", n, "prevote 2>1 t1 at 0/0", "prevote 2>3 t1 at 0/0")
	n.Receive(presaid(1, 2, 0, true))
	stands(t, "P7.10: who said no ahead of that is forgotten", n, "precandidate of 0, term 0, vote 0, commit 0")
	n.Receive(presaid(1, 2, 1, false))
	stands(t, "P7.10", n, "precandidate of 0, term 0, vote 0, commit 0")
	n.Receive(presaid(3, 2, 1, false))
	stands(t, "P7.10", n, "candidate of 0, term 1, vote 2, commit 0")
}

func TestP7_10NothingHappens(t *testing.T) {
	wrong := []api.Message{{}, {Kind: 8, From: 2, To: 1, Term: 9}, {Kind: api.Vote, From: 2, To: 1}, {Kind: api.AppendEntries, From: 2, To: 1, Term: 9, Hint: 1}, {Kind: api.AppendEntries, From: 2, To: 3, Term: 9}}
	for _, x := range append(extreme, api.Far+1, api.MaxNumber) {
		wrong = append(wrong, beat(2, 1, x), vote(2, 1, x, 1, 1), prevote(2, 1, x, 1, 1), said(2, 1, x, true), presaid(2, 1, x, true), vote(2, 1, 9, x, 1), prevote(2, 1, 9, x, 1), beat(x, 1, 9), beat(2, x, 9),
			api.Message{Kind: api.AppendReply, From: 2, To: 1, Term: 9, Index: x},
			api.Message{Kind: api.AppendReply, From: 2, To: 1, Term: 9, Index: x, Reject: true},
			api.Message{Kind: api.AppendEntries, From: 2, To: 1, Term: 9, Index: x, LogTerm: 1},
			api.Message{Kind: api.AppendEntries, From: 2, To: 1, Term: 9, Index: x - 1, LogTerm: 1, Entries: run(x, 1)},
			api.Message{Kind: api.Install, From: 2, To: 1, Term: 9, Snapshot: api.Snapshot{Index: x, Term: 1, Config: voters(1)}})
	}
	n := begin(t, start(1, 1, 2, 3))
	for _, m := range wrong {
		n.Receive(m)
		r := n.Ready()
		if len(r.Messages) > 0 || r.Kept || state(n) != "follower of 0, term 0, vote 0, commit 0" {
			t.Fatalf("P7.10: %+v: %+v, %s", m, r, state(n))
		}
	}
	for _, m := range []api.Message{
		beat(2, 1, api.Far),
		{Kind: api.AppendEntries, From: 2, To: 1, Term: 9, Index: api.Far - 1, LogTerm: 1, Entries: run(api.Far, 1)},
		{Kind: api.Install, From: 2, To: 1, Term: 9, Snapshot: api.Snapshot{Index: api.Far, Term: 1, Config: voters(1)}},
	} {
		n := begin(t, start(1, 1, 2, 3))
		n.Receive(m)
		if sent(n) == "" {
			t.Errorf("P7.10: %s: nothing happens", brief(m))
		}
	}
}
