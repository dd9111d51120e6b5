package explore_test

import (
	"fmt"
	"maps"
	"math/rand"
	"slices"
	"strings"
	"testing"

	"quorate/api"
	"quorate/explore"
)

// person: a node, told once more.
type person struct {
	Term, Vote, Role int
	Votes            map[int]bool
	Log              []int
	Committed        int
	Knows            map[int]int
}

func (p *person) follow(term int) {
	if term > p.Term {
		p.Term, p.Vote = term, 0
	}
	p.Role, p.Votes, p.Knows = api.Follower, map[int]bool{}, map[int]int{}
}

// tale: a state, told once more: with lists and maps, and as a text where states are held against each other.
type tale struct {
	w      api.Small
	People []*person // by numbers, from 1 on
	Led    map[int][]int
	Chosen map[int][2]int // by places, from 1 on: the entry's term, and of who did so first
}

func newTale(w api.Small) tale {
	s := tale{w: w, People: []*person{{}}, Led: map[int][]int{}, Chosen: map[int][2]int{}}
	for range w.Nodes {
		p := &person{}
		p.follow(0)
		s.People = append(s.People, p)
	}
	return s
}

func (s tale) clone() tale {
	c := tale{w: s.w, Led: map[int][]int{}, Chosen: maps.Clone(s.Chosen)}
	for term, l := range s.Led {
		c.Led[term] = slices.Clone(l)
	}
	for _, p := range s.People {
		q := *p
		q.Votes, q.Log, q.Knows = maps.Clone(p.Votes), slices.Clone(p.Log), maps.Clone(p.Knows)
		c.People = append(c.People, &q)
	}
	return c
}

func (s tale) text() string {
	out := fmt.Sprint(s.Led, s.Chosen)
	for _, p := range s.People {
		out += fmt.Sprint(*p)
	}
	return out
}

func (s tale) most(n int) bool {
	return n > s.w.Nodes/2
}

// common: how many entries at the head of two lists are the same.
func common(a, b []int) (n int) {
	for n < len(a) && n < len(b) && a[n] == b[n] {
		n++
	}
	return n
}

func isFurther(a, b []int) bool {
	last := func(l []int) int {
		if len(l) == 0 {
			return 0
		}
		return l[len(l)-1]
	}
	if last(a) != last(b) {
		return last(a) > last(b)
	}
	return len(a) >= len(b)
}

// do: a move, on a state that is the tale's own; what it breaks; and whether it can be done.
func (s tale) do(m api.Move) (broken int, ok bool) {
	if m.Node < 1 || m.Node > s.w.Nodes || m.Other < 0 || m.Other > s.w.Nodes || m.Other == m.Node {
		return 0, false
	}
	if m.Other == 0 {
		broken, ok = s.alone(m.Kind, m.Node)
	} else {
		ok = s.meet(m.Kind, m.Node, m.Other)
	}
	if ok && broken == 0 && s.differ() {
		broken = api.Unmatched
	}
	return broken, ok
}

func (s tale) alone(kind, node int) (int, bool) {
	p := s.People[node]
	switch kind {
	case api.Stand:
		if p.Role == api.Leader || p.Term >= s.w.Terms {
			return 0, false
		}
		p.follow(p.Term + 1)
		p.Role, p.Vote = api.Candidate, node
		p.Votes[node] = true
		return 0, true
	case api.Win:
		if p.Role != api.Candidate || !s.most(len(p.Votes)) {
			return 0, false
		}
		p.Role, p.Votes = api.Leader, map[int]bool{}
		return s.won(node), true
	case api.Write:
		if p.Role != api.Leader || len(p.Log) >= s.w.Entries {
			return 0, false
		}
		p.Log = append(p.Log, p.Term)
		return 0, true
	case api.Count:
		return s.count(p)
	case api.Restart:
		if p.Role == api.Follower && p.Committed == 0 && (!s.w.Forgets || p.Vote == 0) {
			return 0, false
		}
		p.follow(p.Term)
		p.Committed = 0
		if s.w.Forgets {
			p.Vote = 0
		}
		return 0, true
	}
	return 0, false
}

func (s tale) won(node int) int {
	p := s.People[node]
	for place, c := range s.Chosen {
		if c[1] < p.Term && (len(p.Log) < place || p.Log[place-1] != c[0]) {
			return api.Incomplete
		}
	}
	for _, other := range s.Led[p.Term] {
		if other != node {
			return api.TwoLeaders
		}
	}
	s.Led[p.Term] = append(s.Led[p.Term], node)
	return 0
}

func (s tale) count(p *person) (int, bool) {
	best := 0
	for k := p.Committed + 1; k <= len(p.Log); k++ {
		have := 1
		for _, known := range p.Knows {
			if known >= k {
				have++
			}
		}
		if s.most(have) && (s.w.AnyTerm || p.Log[k-1] == p.Term) {
			best = k
		}
	}
	if p.Role != api.Leader || best == 0 {
		return 0, false
	}
	p.Committed = best
	for place := 1; place <= best; place++ {
		if c, ok := s.Chosen[place]; !ok {
			s.Chosen[place] = [2]int{p.Log[place-1], p.Term}
		} else if c[0] != p.Log[place-1] {
			return api.Unlike, true
		}
	}
	return 0, true
}

func (s tale) meet(kind, node, other int) bool {
	p, o := s.People[node], s.People[other]
	switch {
	case kind == api.Give && p.Role == api.Candidate:
		if o.Term > p.Term || o.Term == p.Term && o.Vote != 0 || !s.w.AnyLog && !isFurther(p.Log, o.Log) {
			return false
		}
		o.follow(p.Term)
		o.Vote = node
		p.Votes[other] = true
	case kind == api.Copy && p.Role == api.Leader && o.Term <= p.Term:
		n := common(p.Log, o.Log)
		if n == len(p.Log) && o.Term == p.Term && p.Knows[other] == n {
			return false
		}
		o.follow(p.Term)
		if n < len(p.Log) {
			o.Log = append(o.Log[:n], p.Log[n])
			n++
		}
		if delete(p.Knows, other); n > 0 {
			p.Knows[other] = n
		}
	case kind == api.Tell && p.Role == api.Leader && o.Term == p.Term:
		n := min(p.Committed, p.Knows[other])
		if n <= o.Committed {
			return false
		}
		o.Committed = n
	default:
		return false
	}
	return true
}

// differ: have two logs the same term at a place, and others ahead of it?
func (s tale) differ() bool {
	for _, p := range s.People {
		for _, o := range s.People {
			for i := range min(len(p.Log), len(o.Log)) {
				if p.Log[i] == o.Log[i] && !slices.Equal(p.Log[:i], o.Log[:i]) {
					return true
				}
			}
		}
	}
	return false
}

// page: a state that was found, the moves that led to it, and what the last of them broke.
type page struct {
	s      tale
	moves  []api.Move
	broken int
}

// turn: the pages behind all moves that can be done at one, in their order.
func (p page) turn() (l []page) {
	for kind := api.Stand; kind <= api.Restart; kind++ {
		for node := range p.s.w.Nodes {
			others := []int{0}
			if strings.Contains("give copy tell", words()[kind]) {
				others = []int{1, 2, 3}
			}
			for _, other := range others {
				m := api.Move{Kind: kind, Node: node + 1, Other: other}
				next := page{s: p.s.clone(), moves: append(slices.Clone(p.moves), m)}
				var ok bool
				if next.broken, ok = next.s.do(m); ok {
					l = append(l, next)
				}
			}
		}
	}
	return l
}

// opening: the page behind the moves that are done first. False: one of them can't be, or breaks something.
func opening(w api.Small) (page, bool) {
	p := page{s: newTale(w)}
	for _, m := range w.First {
		if broken, ok := p.s.do(m); !ok || broken != 0 {
			return page{}, false
		}
	}
	return p, true
}

// explored: what Explore should answer, as found tells it; or that there is too much to tell.
func explored(w api.Small, most int) (string, bool) {
	first, ok := opening(w)
	if !ok {
		return noSmall, true
	}
	seen := map[string]bool{first.s.text(): true}
	book := []page{first}
	for i := 0; i < len(book); i++ {
		for _, next := range book[i].turn() {
			if next.broken != 0 {
				return fmt.Sprint(len(book), " ", len(next.moves), " ", next.broken, " ", tell(next.moves)), true
			}
			if text := next.s.text(); !seen[text] {
				seen[text] = true
				book = append(book, next)
			}
			if len(book) > most {
				return "", false
			}
		}
	}
	return fmt.Sprint(len(book), " ", len(book[len(book)-1].moves), " 0"), true
}

func TestP12_3WorldsToldOnceMore(t *testing.T) {
	for nodes := 1; nodes <= 3; nodes++ {
		for terms := 1; terms <= 4; terms++ {
			for entries := 0; entries <= 3; entries++ {
				t.Run(fmt.Sprint(nodes, terms, entries), func(t *testing.T) {
					t.Parallel()
					for without := range 8 {
						w := small(nodes, terms, entries, without)
						if want, ok := explored(w, 600); ok {
							finds(t, "P12.3", w, want)
						}
					}
				})
			}
		}
	}
}

// walk: the moves that are done first, and so many more, of chance, that break nothing; few of them by which who leads would not go on.
func walk(w api.Small, r *rand.Rand, count int) []api.Move {
	p, _ := opening(w)
	p.moves = w.First
	for range count {
		l := slices.DeleteFunc(p.turn(), func(next page) bool {
			kind := next.moves[len(next.moves)-1].Kind
			return next.broken != 0 || (kind == api.Stand || kind == api.Restart) && r.Intn(5) > 0
		})
		if len(l) > 0 {
			p = l[r.Intn(len(l))]
		}
	}
	return p.moves
}

// openings: some of worlds in which something can be broken soon.
func openings() []api.Small {
	return []api.Small{
		behind(small(3, 1, 0, forgets), "stand1 stand2 give13 win1"),
		behind(small(3, 2, 1, forgets), "stand1 stand2 give13 win1 write1 copy13"),
		behind(small(3, 2, 1, anyLog), lead+"write1 copy13 stand2 give23 win2 write2"),
		behind(small(3, 3, 2, anyLog), lead+"write1 copy12 write1 copy13 copy13 stand2 give23 win2 write2"),
		behind(small(3, 2, 1, anyLog), lead+"write1 copy13 stand2 give23"),
		behind(small(3, 2, 2, anyLog|forgets), lead+"write1 write1 copy13 copy13 stand2"),
		behind(small(3, 4, 1, anyTerm), lead+"write1 stand2 give23 win2 copy21 stand1 give13 win1 write2 copy13"),
	}
}

func TestP12_3WalksToldOnceMore(t *testing.T) {
	ends := map[string]int{} // how often they ended so
	r := rand.New(rand.NewSource(12))
	for i := range 1400 {
		w, more := openings()[i%len(openings())], r.Intn(9)
		if i < 700 {
			w, more = small(3-i/300, 1+r.Intn(4), r.Intn(4), r.Intn(8)), r.Intn(50)
		}
		w.First = walk(w, r, more)
		if l := w.First; len(l) > 0 && r.Intn(12) == 0 {
			l[r.Intn(len(l))] = all()[r.Intn(len(all()))]
		}
		if want, ok := explored(w, 100); ok {
			finds(t, "P12.3", w, want)
			ends[strings.Fields(want)[2]]++
		}
	}
	for _, end := range []string{"0", "1", "3", "4", "{0"} {
		if ends[end] < 20 {
			t.Errorf("ends of walks: %v: the test shows too little", ends)
		}
	}
}

func TestP12WithAllRulesNothingIsBroken(t *testing.T) {
	for nodes := 1; nodes <= 3; nodes++ {
		for terms := 1; terms <= 4; terms++ {
			for entries := 0; entries <= 3; entries++ {
				t.Run(fmt.Sprint(nodes, terms, entries), func(t *testing.T) {
					t.Parallel()
					r := rand.New(rand.NewSource(int64(nodes*terms + entries)))
					w := small(nodes, terms, entries, 0)
					for range 6 {
						if f, e := explore.Explore(w); f.Broken != 0 || e == api.ErrSmall {
							t.Errorf("P12: %+v: %+v, %v", w, f, e)
						}
						w.First = walk(small(nodes, terms, entries, 0), r, 40)
					}
				})
			}
		}
	}
}
