package history

import (
	"strings"

	"quorate/api"
)

// calls: some of a history's, a bit each.
type calls uint32

func (s calls) with(i int) calls {
	return s | 1<<i
}

func (s calls) has(i int) bool {
	return s>>i&1 == 1
}

// search: for the first order of a history. It never goes back: ahead of each step it asks whether there is a way behind it.
type search struct {
	history  []api.Call
	all      calls
	answered calls
	ahead    []calls // of each call those that were answered when it began
	parts    map[string]*part
}

func begin(l []api.Call) *search {
	s := &search{history: l, ahead: make([]calls, len(l)), parts: map[string]*part{}}
	for i, c := range l {
		s.all = s.all.with(i)
		if isAnswered(c) {
			s.answered = s.answered.with(i)
		}
		for j, d := range l {
			if isAnswered(d) && d.To < c.From {
				s.ahead[i] = s.ahead[i].with(j)
			}
		}
		s.share(i)
	}
	return s
}

// share: a call is put into its part.
func (s *search) share(i int) {
	name := s.partOf(i)
	if s.parts[name] == nil {
		s.parts[name] = &part{search: s, dead: map[place]struct{}{}}
	}
	s.parts[name].take(i)
}

// partOf: the name of a call's part: its key, or the shortest beginning of that whose List was answered. Such a List tells of all keys that begin so, and binds them together; one that was not answered tells nothing.
func (s *search) partOf(i int) string {
	key := s.history[i].Command.Key
	name := key
	for _, c := range s.history {
		start := c.Command.Key
		if c.Command.Kind == api.List && isAnswered(c) && strings.HasPrefix(key, start) && len(start) < len(name) {
			name = start
		}
	}
	return name
}

func (s *search) order() ([]int, bool) {
	var order []int
	var done calls
	for s.answered&^done != 0 {
		i, ok := s.step(done)
		if !ok {
			return nil, false
		}
		order, done = append(order, i), done.with(i)
	}
	return order, true
}

// step: the first call that can be done next, with a way behind it. The other parts have theirs, whatever this one does.
func (s *search) step(done calls) (int, bool) {
	for i := range s.history {
		if s.mayCome(i, s.all, done) && s.parts[s.partOf(i)].step(i) {
			return i, true
		}
	}
	return 0, false
}

// mayCome: of some calls: is one not done, while those that must stand ahead of it are?
func (s *search) mayCome(i int, of, done calls) bool {
	return of.has(i) && !done.has(i) && s.ahead[i]&of&^done == 0
}
