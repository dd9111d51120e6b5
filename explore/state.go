package explore

import "quorate/api"

// log: the terms of its entries, which are above 0, by place; 0 behind the last.
type log [mostEntries]int8

func (l log) length() int8 {
	return l.shared(l)
}

func (l log) last() int8 {
	if n := l.length(); n > 0 {
		return l[n-1]
	}
	return 0
}

// shared: how long a beginning two logs share.
func (l log) shared(other log) (n int8) {
	for n < mostEntries && l[n] != 0 && l[n] == other[n] {
		n++
	}
	return n
}

// asFarAs: may who has this log lead one who has the other?
func (l log) asFarAs(other log) bool {
	a, b := l.last(), other.last()
	return a > b || a == b && l.length() >= other.length()
}

// matches: is all ahead of what two logs have in common the same?
func (l log) matches(other log) bool {
	for place := l.shared(other); place < mostEntries; place++ {
		if l[place] != 0 && l[place] == other[place] {
			return false
		}
	}
	return true
}

// office: what a node has of its term alone, and forgets when it follows.
type office struct {
	role   int8
	voters [mostNodes + 1]bool // by numbers: who has voted for it
	known  [mostNodes + 1]int8 // by numbers: how far a leader knows a log to be its own
}

func (o office) votes() (count int) {
	for _, voted := range o.voters {
		if voted {
			count++
		}
	}
	return count
}

// haveUpTo: the leader, and those of whose log it knows so much (above 0).
func (o office) haveUpTo(n int8) int {
	count := 1
	for _, known := range o.known {
		if known >= n {
			count++
		}
	}
	return count
}

type node struct {
	office
	term, vote int8
	log        log
	committed  int8
}

// follow: in a term that is not less than the node's.
func (n *node) follow(term int8) {
	if term > n.term {
		n.term, n.vote = term, 0
	}
	n.office = office{role: api.Follower}
}

// choice: the term of an entry that was committed, and of who did so first.
type choice struct {
	term, by int8
}

// state: all of a small world that moves change: arrays, so that two that are the same are equal.
type state struct {
	nodes  [mostNodes + 1]node // by numbers; 0 is nobody
	led    [mostTerms + 1]int8 // by terms: who has led; two break something
	chosen [mostEntries]choice
}

// fresh: nothing has happened.
func fresh(nodes int) (s state) {
	for id := 1; id <= nodes; id++ {
		s.nodes[id].role = api.Follower
	}
	return s
}

// matched: do all logs match each other? Those of nobody are empty.
func (s *state) matched() bool {
	for i := range s.nodes {
		for j := range i {
			if !s.nodes[i].log.matches(s.nodes[j].log) {
				return false
			}
		}
	}
	return true
}
