package raft

import (
	"slices"

	"quorate/api"
	"quorate/own"
	"quorate/rlog"
	"quorate/track"
	"quorate/wire"
)

// Receive: a message.
func (n *Node) Receive(m api.Message) {
	if !wire.IsMessage(m) || m.To != n.id || isFar(m) || n.passesOver(m) {
		return
	}
	if m.Term > n.hard.Term && !isTrial(m) {
		n.follow(m.Term, leaderBy(m))
	}
	if m.Term < n.hard.Term {
		n.refuseLate(m)
		return
	}
	switch m.Kind {
	case api.PreVote:
		n.receivePreVote(m)
	case api.Vote:
		n.receiveVote(m)
	case api.PreVoteReply, api.VoteReply:
		n.receiveSaying(m)
	case api.AppendEntries:
		n.receiveEntries(m)
	case api.Install:
		n.receiveSnapshot(m)
	case api.AppendReply:
		n.receiveReply(m)
	}
}

// isFar: does a message speak of what nobody comes to?
func isFar(m api.Message) bool {
	return max(m.Term, m.Index+len(m.Entries), m.Snapshot.Index) > api.Far
}

// passesOver: a node that has answered a leader of late forgets it for nobody's asking and for nobody's answer: leases stand on that.
func (n *Node) passesOver(m api.Message) bool {
	holds := n.leader != 0 && n.heardOfLate()
	switch m.Kind {
	case api.PreVote, api.Vote:
		return holds || n.role == api.Leader || n.lease && n.isYoung()
	case api.PreVoteReply, api.VoteReply, api.AppendReply:
		return holds && n.role != api.Leader && m.Term > n.hard.Term
	}
	return false
}

// isTrial: does a message speak of a term in which nobody stands yet?
func isTrial(m api.Message) bool {
	return m.Kind == api.PreVote || m.Kind == api.PreVoteReply && !m.Reject
}

// leaderBy: just who leads sends entries and snapshots.
func leaderBy(m api.Message) int {
	if m.Kind == api.AppendEntries || m.Kind == api.Install {
		return m.From
	}
	return 0
}

// refuseLate: a message of a lesser term: its sender is told of the term.
func (n *Node) refuseLate(m api.Message) {
	switch m.Kind {
	case api.AppendEntries, api.Install:
		n.post(api.Message{Kind: api.AppendReply, To: m.From, Index: m.Index, Reject: true})
	case api.PreVote:
		n.post(api.Message{Kind: api.PreVoteReply, To: m.From, Reject: true})
	}
}

func (n *Node) receivePreVote(m api.Message) {
	reply := api.Message{Kind: api.PreVoteReply, To: m.From, Reject: true}
	if m.Term > n.hard.Term && rlog.Fresh(n.log, m.Index, m.LogTerm) {
		reply.Term, reply.Reject = m.Term, false
	}
	n.post(reply)
}

func (n *Node) receiveVote(m api.Message) {
	free := n.hard.Vote == 0 || n.hard.Vote == m.From
	gives := free && rlog.Fresh(n.log, m.Index, m.LogTerm)
	if gives {
		n.hard.Vote = m.From
		n.rest()
		n.elapsed = 0
	}
	n.post(api.Message{Kind: api.VoteReply, To: m.From, Reject: !gives})
}

// receiveSaying: yes or no, from a node that has said neither.
func (n *Node) receiveSaying(m api.Message) {
	if n.isAsked(m) && !slices.Contains(n.yes, m.From) && !slices.Contains(n.no, m.From) {
		n.count(m)
	}
}

// isAsked: is it an answer to what the node asks now?
func (n *Node) isAsked(m api.Message) bool {
	switch {
	case m.Kind == api.VoteReply:
		return n.role == api.Candidate
	case m.Reject:
		return n.role == api.PreCandidate
	}
	return n.role == api.PreCandidate && m.Term == n.hard.Term+1
}

func (n *Node) receiveEntries(m api.Message) {
	if n.role == api.Leader || !areConfigs(m.Entries) {
		return
	}
	n.obey(m.From)
	reply := api.Message{Kind: api.AppendReply, To: m.From, Context: m.Context}
	if m.Index < n.hard.Commit {
		reply.Index = n.hard.Commit
		n.post(reply)
		return
	}
	log, match, first, look := rlog.Extend(n.log, m.Index, m.LogTerm, m.Entries)
	if look > 0 {
		reply.Index, reply.Reject, reply.Hint = m.Index, true, look
		n.post(reply)
		return
	}
	n.log = log
	n.news.puts(first)
	// Behind match there may be what another leader has left.
	n.hard.Commit = max(n.hard.Commit, min(m.Commit, match))
	reply.Index = match
	n.post(reply)
}

func (n *Node) receiveSnapshot(m api.Message) {
	if n.role == api.Leader {
		return
	}
	n.obey(m.From)
	if m.Snapshot.Index > n.hard.Commit {
		n.install(m.Snapshot)
	}
	n.post(api.Message{Kind: api.AppendReply, To: m.From, Index: n.hard.Commit, Context: m.Context})
}

// obey: it follows who leads in its term.
func (n *Node) obey(leader int) {
	n.rest()
	n.leader, n.elapsed = leader, 0
}

// install: a snapshot of what is not committed here yet. A log that has it needs nothing but to know it as committed.
func (n *Node) install(x api.Snapshot) {
	n.hard.Commit = x.Index
	if term, e := rlog.TermAt(n.log, x.Index); e == api.OK && term == x.Term {
		return
	}
	n.log = api.Log{Base: x.Index, BaseTerm: x.Term}
	n.rebase(own.Snapshot(x))
	n.applied = x.Index
	n.news.installs(n.snapshot)
}

// receiveReply: what another makes of a leader's entries, or of its snapshot.
func (n *Node) receiveReply(m api.Message) {
	at := n.find(m.From)
	if n.role != api.Leader || at < 0 || !m.Reject && m.Index > n.last() {
		return
	}
	p := &n.progress[at]
	p.Active = true
	if m.Context <= n.lastRound {
		p.Heard = max(p.Heard, m.Context)
	}
	if m.Reject {
		n.goBack(at, m)
		return
	}
	*p = track.Ack(*p, m.Index)
	if n.advance() {
		return
	}
	if n.progress[at].Next <= n.last() {
		n.sendTo(at)
	}
	n.answerReads()
}

// goBack: another has no such entry: it is looked for where the logs part.
func (n *Node) goBack(at int, m api.Message) {
	p, isNews := track.Refuse(n.progress[at], m.Index, m.Hint)
	n.progress[at] = p
	if isNews {
		n.sendTo(at)
	}
	n.answerReads()
}
