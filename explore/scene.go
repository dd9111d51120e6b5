package explore

import "quorate/api"

// scene: a state of a small world, and which moves its rules let be.
type scene struct {
	rules api.Small
	state
}

// moves: all that can be done, in their order.
func (s scene) moves(yield func(api.Move) bool) {
	for kind := api.Stand; kind <= api.Restart; kind++ {
		for id := 1; id <= s.rules.Nodes; id++ {
			for other := range s.rules.Nodes + 1 {
				m := api.Move{Kind: kind, Node: id, Other: other}
				if isOfTwo(kind) == (other != 0) && other != id && s.can(m) && !yield(m) {
					return
				}
			}
		}
	}
}

// isOfTwo: do two nodes meet?
func isOfTwo(kind int) bool {
	return kind == api.Give || kind == api.Copy || kind == api.Tell
}

// has: is a move one that can be done?
func (s scene) has(m api.Move) bool {
	for x := range s.moves {
		if x == m {
			return true
		}
	}
	return false
}

// play: moves are done, in order. False: one of them can't be, or breaks something.
func (s *scene) play(l []api.Move) bool {
	for _, m := range l {
		if !s.has(m) || s.do(m) != 0 {
			return false
		}
	}
	return true
}

func (s *scene) isMost(count int) bool {
	return 2*count > s.rules.Nodes
}
