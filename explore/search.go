package explore

import (
	"slices"

	"quorate/api"
)

// arrival: at a state: by which move, from which one (its number), behind how many moves in all.
type arrival struct {
	state state
	move  api.Move
	from  int
	depth int
}

// search: through all states, in the order in which they are found: a state's number is its place there.
type search struct {
	rules api.Small
	seen  map[state]struct{}
	found []arrival
}

func begin(s scene) *search {
	return &search{rules: s.rules, seen: map[state]struct{}{s.state: {}}, found: []arrival{{state: s.state}}}
}

// run: through so many states at most.
func (s *search) run(most int) (api.Found, api.Errno) {
	for i := 0; i < len(s.found); i++ {
		here := scene{rules: s.rules, state: s.found[i].state}
		for m := range here.moves {
			there := here
			if broken := there.do(m); broken != 0 {
				return s.broken(broken, i, m), api.OK
			}
			s.arrive(arrival{state: there.state, move: m, from: i, depth: s.found[i].depth + 1})
			if len(s.found) > most {
				return api.Found{}, api.ErrBound
			}
		}
	}
	return api.Found{States: len(s.found), Depth: s.found[len(s.found)-1].depth}, api.OK
}

// arrive: at a state, which may have been found before.
func (s *search) arrive(a arrival) {
	if _, ok := s.seen[a.state]; !ok {
		s.seen[a.state] = struct{}{}
		s.found = append(s.found, a)
	}
}

// broken: by a move, at a state.
func (s *search) broken(what, at int, m api.Move) api.Found {
	moves := append(s.movesTo(at), m)
	return api.Found{States: len(s.found), Depth: len(moves), Broken: what, Moves: moves}
}

// movesTo: those that led to a state, from the first on.
func (s *search) movesTo(at int) []api.Move {
	var moves []api.Move
	for ; at != 0; at = s.found[at].from {
		moves = append(moves, s.found[at].move)
	}
	slices.Reverse(moves)
	return moves
}
