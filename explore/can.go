package explore

import "quorate/api"

// can: of nodes that there are.
func (s *scene) can(m api.Move) bool {
	n, o := &s.nodes[m.Node], &s.nodes[m.Other]
	switch m.Kind {
	case api.Stand:
		return n.role != api.Leader && int(n.term) < s.rules.Terms
	case api.Give:
		return n.role == api.Candidate && s.mayVote(o, n)
	case api.Win:
		return n.role == api.Candidate && s.isMost(n.votes())
	case api.Restart:
		return s.canRestart(n)
	}
	return n.role == api.Leader && s.canLead(m)
}

// mayVote: may a node vote for another, in whose term it follows then?
func (s *scene) mayVote(voter, n *node) bool {
	isFree := voter.term < n.term || voter.term == n.term && voter.vote == 0
	return isFree && (s.rules.AnyLog || n.log.asFarAs(voter.log))
}

// canRestart: would something be other than it is?
func (s *scene) canRestart(n *node) bool {
	return n.role != api.Follower || n.committed > 0 || s.rules.Forgets && n.vote != 0
}

// canLead: the moves of one that leads.
func (s *scene) canLead(m api.Move) bool {
	n, o := &s.nodes[m.Node], &s.nodes[m.Other]
	switch m.Kind {
	case api.Write:
		return int(n.log.length()) < s.rules.Entries
	case api.Copy:
		return o.term <= n.term && !n.hasCopied(o, m.Other)
	case api.Count:
		return s.countable(n) > 0
	}
	return o.term == n.term && n.tellable(m.Other) > o.committed
}

// hasCopied: does another follow a leader, and have all of its log, and does the leader know that?
func (n *node) hasCopied(o *node, other int) bool {
	all := n.log.length()
	return o.term == n.term && n.log.shared(o.log) == all && n.known[other] == all
}

// countable: how far a leader commits by counting; 0: there is nothing to commit.
func (s *scene) countable(n *node) int8 {
	for k := n.log.length(); k > n.committed; k-- {
		if s.isMost(n.haveUpTo(k)) && (s.rules.AnyTerm || n.log[k-1] == n.term) {
			return k
		}
	}
	return 0
}

// tellable: up to where a leader can tell another that all is committed.
func (n *node) tellable(other int) int8 {
	return min(n.committed, n.known[other])
}
