package raft

import (
	"quorate/api"
	"quorate/config"
	"quorate/rlog"
	"quorate/track"
)

// Tick: time goes on.
func (n *Node) Tick() {
	n.now++
	if n.role == api.Leader {
		n.tickLeader()
		return
	}
	if n.isLate() && n.mayStand() {
		n.campaign()
	}
}

// tickLeader: who has not heard of enough others for an election leads no more: they may have another leader.
func (n *Node) tickLeader() {
	if n.isBeat() {
		n.sendRound()
	}
	if !n.isElection() {
		return
	}
	if !track.Alive(n.configuration(), n.progress, n.id) {
		n.follow(n.hard.Term, 0)
		return
	}
	for i := range n.progress {
		n.progress[i].Active = false
	}
}

// mayStand: who is taken out may till that is committed: nobody else may have a log as far.
func (n *Node) mayStand() bool {
	if config.Votes(n.configuration(), n.id) {
		return true
	}
	at := n.changeUpTo(n.last())
	return at > n.hard.Commit && config.Votes(n.configAt(at-1), n.id)
}

// follow: in a term, with a leader (0: none is known).
func (n *Node) follow(term, leader int) {
	if term > n.hard.Term {
		n.hard.Term, n.hard.Vote = term, 0
	}
	n.leader, n.elapsed = leader, 0
	n.rest()
	for _, w := range n.reads {
		n.news.refused = append(n.news.refused, w.ID)
	}
	n.reign = reign{}
}

// rest: it seeks no votes any more.
func (n *Node) rest() {
	n.role, n.yes, n.no = api.Follower, nil, nil
}

// campaign: would enough vote for it? A node that asks first does not disturb who has a leader.
func (n *Node) campaign() {
	n.seek(api.PreCandidate)
	if n.isChosen() {
		n.stand()
		return
	}
	n.askVotes(api.PreVote, n.hard.Term+1)
}

// stand: in the next term it asks for votes.
func (n *Node) stand() {
	n.hard.Term++
	n.hard.Vote = n.id
	n.seek(api.Candidate)
	if n.isChosen() {
		n.lead()
		return
	}
	n.askVotes(api.Vote, n.hard.Term)
}

func (n *Node) seek(role int) {
	n.role, n.leader, n.elapsed = role, 0, 0
	n.yes, n.no = []int{n.id}, nil
}

func (n *Node) isChosen() bool {
	return config.Quorum(n.configuration(), n.yes)
}

func (n *Node) askVotes(kind, term int) {
	c := n.configuration()
	index, logTerm := rlog.Last(n.log)
	for i := range api.MaxNode {
		if to := i + 1; to != n.id && config.Votes(c, to) {
			n.post(api.Message{Kind: kind, To: to, Term: term, Index: index, LogTerm: logTerm})
		}
	}
}

// count: what another says to its being chosen.
func (n *Node) count(m api.Message) {
	if m.Reject {
		n.no = append(n.no, m.From)
	} else {
		n.yes = append(n.yes, m.From)
	}
	switch {
	case n.isChosen() && n.role == api.PreCandidate:
		n.stand()
	case n.isChosen():
		n.lead()
	case config.Lost(n.configuration(), n.no):
		n.rest()
	}
}
