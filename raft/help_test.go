package raft_test

import (
	"fmt"
	"math"
	"strings"
	"testing"

	"quorate/api"
	"quorate/raft"
	"quorate/wire"
)

// extreme: numbers that no field may be.
var extreme = []int{math.MinInt, -1, api.MaxNumber + 1, math.MaxInt}

func voters(l ...int) api.Config {
	return api.Config{Voters: l}
}

// start: of a node among voters, with an empty log; an election has 10 ticks, 3 are between two rounds.
func start(id int, l ...int) api.Start {
	return api.Start{ID: id, Config: voters(l...), Election: 10, Beat: 3}
}

// with: a start with a log of these entries, committed up to an index.
func with(s api.Start, commit int, l ...api.Entry) api.Start {
	s.Log.Entries = l
	s.Hard.Commit = commit
	s.Hard.Term = s.Log.BaseTerm
	if len(l) > 0 {
		s.Hard.Term = l[len(l)-1].Term
	}
	return s
}

// from: a start whose log stands on a snapshot.
func from(s api.Start, base, term int, data string) api.Start {
	s.Log = api.Log{Base: base, BaseTerm: term}
	s.Snapshot = api.Snapshot{Index: base, Term: term, Config: s.Config, Data: data}
	s.Hard = api.Hard{Term: term, Commit: base}
	return s
}

// run: entries Nothing from an index on, of these terms.
func run(from int, terms ...int) (l []api.Entry) {
	for i, term := range terms {
		l = append(l, api.Entry{Index: from + i, Term: term})
	}
	return l
}

// change: an entry with a configuration.
func change(index, term int, c api.Config) api.Entry {
	data, e := wire.PutConfig(c)
	if e != api.OK {
		panic("no configuration")
	}
	return api.Entry{Index: index, Term: term, Kind: api.Change, Data: data}
}

// begin: a node; what it tells at first is passed over.
func begin(t *testing.T, s api.Start) *raft.Node {
	t.Helper()
	n, e := raft.New(s)
	if n == nil || e != api.OK {
		t.Fatalf("P7.2: New(%+v): %v", s, e)
	}
	n.Ready()
	return n
}

func ticks(n *raft.Node, count int) {
	for range count {
		n.Tick()
	}
}

// lead: a node that all others have chosen; what it has told for that is passed over.
func lead(t *testing.T, s api.Start) *raft.Node {
	t.Helper()
	n := begin(t, s)
	ticks(n, raft.Timeout(s.ID, s.Election))
	for _, kind := range []int{api.PreVoteReply, api.VoteReply} {
		for other := 1; other <= 9; other++ {
			n.Receive(api.Message{Kind: kind, From: other, To: s.ID, Term: s.Hard.Term + 1})
		}
	}
	if l := n.Look(); l.Role != api.Leader || l.Leader != s.ID || l.Hard.Term != s.Hard.Term+1 {
		t.Fatalf("P7.6: it was chosen: %+v", l)
	}
	n.Ready()
	return n
}

// settled: a leader in term 1 of voters 1, 2, 3, which has its first entry committed, by what node 2 has told it behind its rounds 1 and 2.
func settled(t *testing.T, s api.Start) *raft.Node {
	t.Helper()
	n := lead(t, s)
	n.Receive(ack(n, 2, 1, 1))
	if e := n.Look().Hard; e != (api.Hard{Term: 1, Vote: 1, Commit: 1}) {
		t.Fatalf("P7.9: it has its first entry committed: %+v", e)
	}
	n.Ready()
	return n
}

// ack: a reply to a leader: the node has all up to an index, and answers a round.
func ack(n *raft.Node, from, index, round int) api.Message {
	s := n.Look()
	return api.Message{Kind: api.AppendReply, From: from, To: s.ID, Term: s.Hard.Term, Index: index, Context: round}
}

// refusal: a reply to a leader: the node has another entry at an index.
func refusal(n *raft.Node, from, index, hint, round int) api.Message {
	m := ack(n, from, index, round)
	m.Reject, m.Hint = true, hint
	return m
}

// mail: messages as texts, one behind the other, told as briefly as can be.
func mail(l []api.Message) string {
	var b []string
	for _, m := range l {
		b = append(b, brief(m))
	}
	return strings.Join(b, "; ")
}

func brief(m api.Message) string {
	if !wire.IsMessage(m) {
		return fmt.Sprintf("MAY NOT BE: %+v", m)
	}
	say := map[bool]string{true: "no", false: "yes"}[m.Reject]
	s := fmt.Sprintf("%d>%d t%d", m.From, m.To, m.Term)
	switch m.Kind {
	case api.PreVote:
		return fmt.Sprintf("prevote %s at %d/%d", s, m.Index, m.LogTerm)
	case api.Vote:
		return fmt.Sprintf("vote %s at %d/%d", s, m.Index, m.LogTerm)
	case api.PreVoteReply:
		return fmt.Sprintf("presaid %s %s", s, say)
	case api.VoteReply:
		return fmt.Sprintf("said %s %s", s, say)
	case api.AppendReply:
		return fmt.Sprintf("reply %s %s %d hint %d r%d", s, say, m.Index, m.Hint, m.Context)
	case api.Install:
		x := m.Snapshot
		return fmt.Sprintf("install %s %d/%d %s %q r%d", s, x.Index, x.Term, lists(x.Config), x.Data, m.Context)
	}
	return fmt.Sprintf("entries %s at %d/%d c%d r%d %s", s, m.Index, m.LogTerm, m.Commit, m.Context, terms(m.Entries))
}

// lists: of a configuration.
func lists(c api.Config) string {
	return fmt.Sprint(c.Voters, c.Next, c.Learners)
}

// terms: entries as index/term, with the kind's letter.
func terms(l []api.Entry) string {
	b := []string{}
	for _, e := range l {
		b = append(b, fmt.Sprintf("%d/%d%s", e.Index, e.Term, []string{"", "a", "c"}[e.Kind]))
	}
	return fmt.Sprint(b)
}

// sent: what a node wants sent now.
func sent(n *raft.Node) string {
	return mail(n.Ready().Messages)
}

// wants: what a node wants sent now is that.
func wants(t *testing.T, promise string, n *raft.Node, want ...string) {
	t.Helper()
	if got := sent(n); got != strings.Join(want, "; ") {
		t.Errorf("%s: it wants sent: %s\nwant: %s", promise, got, strings.Join(want, "; "))
	}
}

// state: how a node stands, briefly: role, leader, hard state.
func state(n *raft.Node) string {
	s := n.Look()
	role := []string{"", "follower", "precandidate", "candidate", "leader"}[s.Role]
	return fmt.Sprintf("%s of %d, term %d, vote %d, commit %d", role, s.Leader, s.Hard.Term, s.Hard.Vote, s.Hard.Commit)
}

// stands: a node stands like that.
func stands(t *testing.T, promise string, n *raft.Node, want string) {
	t.Helper()
	if got := state(n); got != want {
		t.Errorf("%s: it is: %s; want: %s", promise, got, want)
	}
}

// known: a leader's progress: node, match, next, state, whether active, heard.
func known(n *raft.Node) string {
	var b []string
	for _, p := range n.Look().Progress {
		b = append(b, fmt.Sprintf("%d: %d %d %d %v %d", p.Node, p.Match, p.Next, p.State, p.Active, p.Heard))
	}
	return strings.Join(b, "; ")
}

func knows(t *testing.T, promise string, n *raft.Node, want ...string) {
	t.Helper()
	if got := known(n); got != strings.Join(want, "; ") {
		t.Errorf("%s: it knows: %s\nwant: %s", promise, got, strings.Join(want, "; "))
	}
}

// tell: a value, for a look; nil and empty lists are the same.
func tell(x ...any) string {
	return fmt.Sprintf("%+v", x)
}
