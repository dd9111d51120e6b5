package explore

import "quorate/api"

// do: a move that can be done; and what it breaks (0: nothing).
func (s *scene) do(m api.Move) int {
	if broken := s.change(m); broken != 0 {
		return broken
	}
	if !s.matched() {
		return api.Unmatched
	}
	return 0
}

func (s *scene) change(m api.Move) int {
	n, o := &s.nodes[m.Node], &s.nodes[m.Other]
	switch m.Kind {
	case api.Stand:
		n.stand(m.Node)
	case api.Give:
		o.follow(n.term)
		o.vote = int8(m.Node)
		n.voters[m.Other] = true
	case api.Win:
		n.office = office{role: api.Leader}
		return s.lead(n, int8(m.Node))
	case api.Write:
		n.log[n.log.length()] = n.term
	case api.Copy:
		o.follow(n.term)
		n.known[m.Other] = o.take(n.log)
	case api.Count:
		return s.commit(n, s.countable(n))
	case api.Tell:
		o.committed = n.tellable(m.Other)
	case api.Restart:
		s.restart(n)
	}
	return 0
}

func (n *node) stand(id int) {
	n.follow(n.term + 1)
	n.role, n.vote = api.Candidate, int8(id)
	n.voters[id] = true
}

// lead: a node leads; what is broken by that.
func (s *scene) lead(n *node, id int8) int {
	for place, c := range s.chosen {
		if c.by != 0 && c.by < n.term && n.log[place] != c.term {
			return api.Incomplete
		}
	}
	if was := s.led[n.term]; was != 0 && was != id {
		return api.TwoLeaders
	}
	s.led[n.term] = id
	return 0
}

// take: the next entry of a leader's log, if there is one; how far the logs are the same then.
func (n *node) take(l log) int8 {
	same := l.shared(n.log)
	if same == l.length() {
		return same
	}
	var cut log
	copy(cut[:], l[:same+1])
	n.log = cut
	return same + 1
}

// commit: a leader has committed so many entries; what is broken by that.
func (s *scene) commit(n *node, count int8) int {
	for place, term := range n.log[:count] {
		if c := s.chosen[place]; c.by != 0 && c.term != term {
			return api.Unlike
		}
	}
	for place, term := range n.log[:count] {
		if s.chosen[place].by == 0 {
			s.chosen[place] = choice{term: term, by: n.term}
		}
	}
	n.committed = count
	return 0
}

func (s *scene) restart(n *node) {
	n.follow(n.term)
	n.committed = 0
	if s.rules.Forgets {
		n.vote = 0
	}
}
