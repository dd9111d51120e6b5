package track_test

import (
	"fmt"
	"math"
	"testing"

	"quorate/api"
	"quorate/track"
)

// tell: values, for a look; nil and empty lists are the same.
func tell(l ...any) string {
	return fmt.Sprintf("%+v", l)
}

// voters: a configuration of these.
func voters(l ...int) api.Config {
	return api.Config{Voters: l}
}

// log: with a base, and entries of these terms.
func log(base, baseTerm int, terms ...int) api.Log {
	l := api.Log{Base: base, BaseTerm: baseTerm}
	for i, term := range terms {
		l.Entries = append(l.Entries, api.Entry{Index: base + 1 + i, Term: term})
	}
	return l
}

// long: a log of so many entries behind a base, all of one term.
func long(base, count int) api.Log {
	terms := make([]int, count)
	for i := range terms {
		terms[i] = 1
	}
	return log(base, min(base, 1), terms...)
}

// extreme: numbers at which sums go wrong.
var extreme = []int{math.MinInt, math.MinInt + 1, -1, api.MaxNumber, math.MaxInt - 1, math.MaxInt}

func TestP6_1Begin(t *testing.T) {
	all := api.Config{Voters: []int{2, 5}, Next: []int{1, 5}, Learners: []int{3, 9}}
	probe := func(n, next int) api.Progress { return api.Progress{Node: n, Next: next, State: api.Probe} }
	self := func(n, last int) api.Progress {
		return api.Progress{Node: n, Match: last, Next: last + 1, State: api.Stream, Active: true}
	}
	old := api.Progress{Node: 5, Match: 3, Next: 6, State: api.Snap, Active: true, Heard: 7}
	older := api.Progress{Node: 5, Match: 1, Next: 2, State: api.Probe}
	gone := api.Progress{Node: 7, Match: 4, Next: 5, State: api.Stream}
	myself := api.Progress{Node: 1, Match: 2, Next: 9, State: api.Probe, Heard: 3}
	for _, x := range []struct {
		c          api.Config
		known      []api.Progress
		self, last int
		want       []api.Progress
	}{
		{voters(1, 2, 3), nil, 2, 4, []api.Progress{probe(1, 5), self(2, 4), probe(3, 5)}},
		{voters(1, 2, 3), []api.Progress{}, 3, 0, []api.Progress{probe(1, 1), probe(2, 1), self(3, 0)}},
		{voters(1), nil, 1, 7, []api.Progress{self(1, 7)}},
		{voters(1), nil, 2, 7, []api.Progress{probe(1, 8)}},
		{voters(4, 8), nil, 0, 7, []api.Progress{probe(4, 8), probe(8, 8)}},
		{all, nil, 1, 4, []api.Progress{self(1, 4), probe(2, 5), probe(3, 5), probe(5, 5), probe(9, 5)}},
		{all, nil, 9, 4, []api.Progress{probe(1, 5), probe(2, 5), probe(3, 5), probe(5, 5), self(9, 4)}},
		{all, []api.Progress{gone, old, older}, 1, 4, []api.Progress{self(1, 4), probe(2, 5), probe(3, 5), old, probe(9, 5)}},
		{all, []api.Progress{older, old}, 1, 4, []api.Progress{self(1, 4), probe(2, 5), probe(3, 5), older, probe(9, 5)}},
		{all, []api.Progress{old, myself}, 1, 4, []api.Progress{myself, probe(2, 5), probe(3, 5), old, probe(9, 5)}},
		{voters(1, 5), []api.Progress{{Node: 5}}, 1, 4, []api.Progress{self(1, 4), {Node: 5}}},
	} {
		if got := track.Begin(x.c, x.known, x.self, x.last); tell(got) != tell(x.want) {
			t.Errorf("P6.1: Begin(%+v, %+v, %d, %d): %+v, want %+v", x.c, x.known, x.self, x.last, got, x.want)
		}
	}
}

func TestP6_2Ack(t *testing.T) {
	for _, x := range []struct {
		match, next, index int
		want               [2]int
	}{
		{0, 5, 6, [2]int{6, 7}},
		{0, 5, 5, [2]int{5, 6}},
		{0, 5, 4, [2]int{4, 5}},
		{0, 5, 3, [2]int{3, 5}},
		{0, 5, 0, [2]int{0, 5}},
		{3, 4, 3, [2]int{3, 4}},
		{3, 4, 2, [2]int{3, 4}},
		{3, 9, 1, [2]int{3, 9}},
		{3, 9, -1, [2]int{3, 9}},
		{3, 9, math.MinInt, [2]int{3, 9}},
		{3, 9, api.MaxNumber, [2]int{api.MaxNumber, api.MaxNumber + 1}},
		{3, 2, 1, [2]int{3, 4}},
	} {
		for state := api.Probe; state <= api.Snap; state++ {
			p := api.Progress{Node: 4, Match: x.match, Next: x.next, State: state, Active: state == api.Snap, Heard: 6}
			want := api.Progress{Node: 4, Match: x.want[0], Next: x.want[1], State: api.Stream, Active: state == api.Snap, Heard: 6}
			if got := track.Ack(p, x.index); got != want {
				t.Errorf("P6.2: Ack(%+v, %d): %+v, want %+v", p, x.index, got, want)
			}
		}
	}
}

func TestP6_2Refuse(t *testing.T) {
	for _, x := range []struct {
		match, next, index, hint int
		to                       int
	}{
		{0, 9, 8, 5, 5},
		{0, 9, 8, 8, 8},
		{0, 9, 8, 9, 8},
		{0, 9, 8, math.MaxInt, 8},
		{0, 9, 4, 6, 4},
		{0, 9, 1, 1, 1},
		{0, 9, 8, 1, 1},
		{0, 9, 8, 0, 1},
		{0, 9, 8, -3, 1},
		{0, 9, 8, math.MinInt, 1},
		{3, 9, 8, 5, 5},
		{3, 9, 8, 4, 4},
		{3, 9, 8, 3, 4},
		{3, 9, 8, 0, 4},
		{3, 9, 4, 9, 4},
		{3, 9, 4, 1, 4},
		{6, 12, 11, 3, 7},
	} {
		for state := api.Probe; state <= api.Snap; state++ {
			p := api.Progress{Node: 4, Match: x.match, Next: x.next, State: state, Active: state == api.Snap, Heard: 6}
			want := p
			want.Next, want.State = x.to, api.Probe
			if got, ok := track.Refuse(p, x.index, x.hint); got != want || !ok {
				t.Errorf("P6.2: Refuse(%+v, %d, %d): %+v, %v; want %+v", p, x.index, x.hint, got, ok, want)
			}
		}
	}
}

func TestP6_2OldNews(t *testing.T) {
	for _, x := range [][3]int{{3, 9, 3}, {3, 9, 2}, {3, 9, 0}, {3, 9, -1}, {3, 9, math.MinInt}, {3, 9, 9}, {3, 9, 10}, {3, 9, math.MaxInt}, {3, 4, 3}, {3, 4, 4}, {0, 1, 0}, {0, 1, 1}} {
		for state := api.Probe; state <= api.Snap; state++ {
			for _, hint := range []int{-1, 0, 1, 5, 99} {
				p := api.Progress{Node: 4, Match: x[0], Next: x[1], State: state, Active: state == api.Snap, Heard: 6}
				if got, ok := track.Refuse(p, x[2], hint); got != p || ok {
					t.Errorf("P6.2: Refuse(%+v, %d, %d) of old news: %+v, %v", p, x[2], hint, got, ok)
				}
			}
		}
	}
}

// plans: what Plan says of progress.
func plans(t *testing.T, p api.Progress, l api.Log, want api.Progress, prev, count int, snapshot bool) {
	t.Helper()
	got, gotPrev, gotCount, gotSnapshot := track.Plan(p, l)
	if tell(got, gotPrev, gotCount, gotSnapshot) != tell(want, prev, count, snapshot) {
		t.Errorf("P6.3: Plan(%+v, %d behind %d): %+v, %d, %d, %v; want %+v, %d, %d, %v", p, len(l.Entries), l.Base, got, gotPrev, gotCount, gotSnapshot, want, prev, count, snapshot)
	}
}

func TestP6_3Snapshot(t *testing.T) {
	for state := api.Probe; state <= api.Snap; state++ {
		for _, next := range []int{1, 9, 10} {
			p := api.Progress{Node: 2, Next: next, State: state, Active: true, Heard: 3}
			want := p
			want.State = api.Snap
			plans(t, p, long(10, 5), want, 0, 0, true)
			plans(t, p, long(10, 0), want, 0, 0, true)
		}
	}
}

func TestP6_3Probe(t *testing.T) {
	for _, x := range []struct{ base, count, next, prev, plan int }{
		{10, 5, 11, 10, 5},
		{10, 5, 12, 11, 4},
		{10, 5, 15, 14, 1},
		{10, 5, 16, 15, 0},
		{10, 0, 11, 10, 0},
		{0, 0, 1, 0, 0},
		{0, 7, 1, 0, 7},
		{0, 8, 1, 0, 8},
		{0, 9, 1, 0, 8},
		{0, 40, 1, 0, 8},
		{0, 40, 20, 19, 8},
		{0, 40, 33, 32, 8},
		{0, 40, 34, 33, 7},
		{0, 40, 41, 40, 0},
	} {
		// Just a stream has a window; who is sent a snapshot stays so till it answers.
		for _, state := range []int{api.Probe, api.Snap} {
			p := api.Progress{Node: 2, Next: x.next, State: state, Heard: 3}
			plans(t, p, long(x.base, x.count), p, x.prev, x.plan, false)
		}
	}
}

func TestP6_3Stream(t *testing.T) {
	for _, x := range []struct{ base, count, match, next, prev, plan int }{
		{0, 40, 0, 1, 0, 8},
		{0, 40, 0, 9, 8, 8},
		{0, 40, 0, 10, 9, 7},
		{0, 40, 0, 16, 15, 1},
		{0, 40, 0, 17, 16, 0},
		{0, 40, 0, 18, 17, 0},
		{0, 40, 0, 41, 40, 0},
		{0, 40, 2, 10, 9, 8},
		{0, 40, 2, 18, 17, 1},
		{0, 40, 30, 31, 30, 8},
		{0, 40, 30, 38, 37, 3},
		{0, 40, 40, 41, 40, 0},
		{0, 3, 0, 1, 0, 3},
		{0, 3, 1, 3, 2, 1},
		{0, 0, 0, 1, 0, 0},
		{10, 5, 10, 11, 10, 5},
		{10, 20, 0, 11, 10, 6},
		{20, 20, 0, 21, 20, 0},
	} {
		p := api.Progress{Node: 2, Match: x.match, Next: x.next, State: api.Stream, Active: true, Heard: 3}
		want := p
		want.Next += x.plan
		plans(t, p, long(x.base, x.count), want, x.prev, x.plan, false)
	}
}

// of: progress of nodes 1, 2, .. with these matches.
func of(matches ...int) (l []api.Progress) {
	for i, m := range matches {
		l = append(l, api.Progress{Node: i + 1, Match: m})
	}
	return l
}

func TestP6_4Commit(t *testing.T) {
	three, four := voters(1, 2, 3), voters(1, 2, 3, 4)
	joint := api.Config{Voters: []int{1, 2, 3}, Next: []int{3, 4, 5}}
	learning := api.Config{Voters: []int{1, 2, 3}, Learners: []int{4, 5}}
	l, cut := log(0, 0, 1, 1, 2, 2, 2), log(4, 2, 2, 3, 3)
	for _, x := range []struct {
		c            api.Config
		p            []api.Progress
		l            api.Log
		term, commit int
		want         int
	}{
		{three, of(5, 4, 0), l, 2, 0, 4},
		{three, of(5, 5, 0), l, 2, 0, 5},
		{three, of(0, 5, 5), l, 2, 0, 5},
		{three, of(5, 3, 3), l, 2, 0, 3},
		{three, of(5, 2, 2), l, 2, 0, 0}, // an entry of an earlier term is not counted
		{three, of(5, 2, 2), l, 1, 0, 2},
		{three, of(5, 5, 5), l, 1, 0, 2},
		{three, of(5, 5, 5), l, 3, 1, 1},
		{three, of(5, 0, 0), l, 2, 2, 2},
		{three, of(5, 4, 0), l, 2, 3, 4},
		{three, of(5, 4, 0), l, 2, 4, 4},
		{three, of(5, 4, 0), l, 2, 5, 5},
		{three, of(5, 4, 0), l, 2, 99, 99},
		{three, of(5, 4, 0), l, 2, math.MaxInt, math.MaxInt},
		{three, of(5, 4, 0), l, 2, math.MinInt, 4},
		{three, of(99, 99, 0), l, 2, 0, 5},
		{four, of(5, 5, 0, 0), l, 2, 0, 0},
		{four, of(5, 5, 4, 0), l, 2, 0, 4},
		{voters(1), of(5), l, 2, 0, 5},
		{voters(2), of(5), l, 2, 0, 0}, // whose progress is not known has nothing
		{joint, of(5, 5, 3, 3, 0), l, 2, 0, 3},
		{joint, of(5, 5, 0, 0, 0), l, 2, 0, 0},
		{joint, of(0, 0, 5, 5, 5), l, 2, 0, 0},
		{joint, of(5, 0, 4, 4, 0), l, 2, 0, 4},
		{learning, of(5, 0, 0, 5, 5), l, 2, 0, 0},
		{learning, of(5, 4, 0, 5, 5), l, 2, 0, 4},
		{three, of(7, 7, 0), cut, 3, 4, 7},
		{three, of(7, 6, 0), cut, 3, 4, 6},
		{three, of(7, 5, 0), cut, 3, 4, 4},
		{three, of(7, 5, 0), cut, 2, 4, 5},
		{three, of(7, 5, 0), cut, 9, 4, 4},
		{three, of(7, 4, 0), cut, 2, 1, 4}, // the base has its term too
		{three, of(7, 3, 0), cut, 2, 1, 1},
		{three, of(0, 0, 0), api.Log{}, 1, 0, 0},
		{three, nil, l, 2, 1, 1},
		{three, append(of(5, 0, 0), of(0, 5)...), l, 2, 0, 5},
	} {
		if got := track.Commit(x.c, x.p, x.l, x.term, x.commit); got != x.want {
			t.Errorf("P6.4: Commit(%+v, %+v, %+v, %d, %d): %d, want %d", x.c, x.p, x.l, x.term, x.commit, got, x.want)
		}
	}
}

// active: progress of nodes 1, 2, ..: were they heard of late?
func active(l ...bool) (p []api.Progress) {
	for i, a := range l {
		p = append(p, api.Progress{Node: i + 1, Active: a})
	}
	return p
}

func TestP6_4Alive(t *testing.T) {
	three := voters(1, 2, 3)
	joint := api.Config{Voters: []int{1, 2, 3}, Next: []int{3, 4, 5}}
	learning := api.Config{Voters: []int{1, 2}, Learners: []int{3, 4}}
	for _, x := range []struct {
		c    api.Config
		p    []api.Progress
		self int
		want bool
	}{
		{three, active(true, true, false), 3, true},
		{three, active(true, true, false), 0, true},
		{three, active(false, true, false), 1, true},
		{three, active(false, true, false), 2, false},
		{three, active(false, true, false), 4, false},
		{three, active(false, false, false), 1, false},
		{three, active(false, true), 3, false}, // it is not in the list
		{three, active(true, true), 3, true},
		{three, nil, 1, false},
		{voters(1), active(false), 1, true},
		{voters(1), active(false), 2, false},
		{voters(1), active(true), 2, true},
		{voters(1), nil, 1, false},
		{voters(1, 2), active(true, false), 1, false},
		{voters(1, 2), active(true, false), 2, true},
		{joint, active(true, true, false, false, false), 1, false},
		{joint, active(true, true, false, false, true), 3, true},
		{joint, active(true, false, false, true, false), 3, true},
		{joint, active(false, false, true, true, true), 5, false},
		{learning, active(true, false, true, true), 1, false},
		{learning, active(false, true, false, false), 1, true},
	} {
		if got := track.Alive(x.c, x.p, x.self); got != x.want {
			t.Errorf("P6.4: Alive(%+v, %+v, %d): %v", x.c, x.p, x.self, got)
		}
	}
}

// heard: progress of nodes 1, 2, .., and the rounds that they answered last.
func heard(l ...int) (p []api.Progress) {
	for i, n := range l {
		p = append(p, api.Progress{Node: i + 1, Heard: n})
	}
	return p
}

func TestP6_4Round(t *testing.T) {
	three, five := voters(1, 2, 3), voters(1, 2, 3, 4, 5)
	joint := api.Config{Voters: []int{1, 2, 3}, Next: []int{3, 4, 5}}
	learning := api.Config{Voters: []int{1, 2}, Learners: []int{3, 4}}
	for _, x := range []struct {
		c         api.Config
		p         []api.Progress
		self, now int
		want      int
	}{
		{three, heard(0, 4, 2), 1, 5, 4},
		{three, heard(0, 2, 4), 1, 5, 4},
		{three, heard(0, 4, 2), 9, 5, 2}, // self is not in the list
		{three, heard(0, 0, 0), 1, 5, 0},
		{three, heard(0, 5, 0), 1, 5, 5},
		{three, heard(5, 0, 0), 1, 5, 0},
		{three, heard(0, 4, 4), 1, 2, 4},
		{three, heard(0, 6, 6), 1, 5, 6},
		{three, heard(9, 6, 3), 1, 5, 6},
		{voters(1), heard(0), 1, 5, 5},
		{voters(1), heard(7), 1, 5, 7},
		{voters(1), heard(0), 1, 0, 0},
		{voters(1), heard(3), 2, 5, 3},
		{voters(1), heard(3, 8), 1, 5, 8},
		{voters(1), nil, 1, 5, 0},
		{three, heard(9, 9), 3, 5, 9},
		{three, heard(9), 3, 5, 0},
		{three, heard(9), 2, 5, 0}, // just one of them is in the list
		{five, heard(0, 4, 3, 2, 1), 1, 5, 3},
		{five, heard(1, 4, 3, 2, 1), 9, 5, 2},
		{five, heard(0, 4, 0, 0, 3), 1, 5, 3},
		{joint, heard(0, 4, 4, 0, 0), 1, 5, 0},
		{joint, heard(0, 4, 4, 3, 0), 1, 5, 3},
		{joint, heard(2, 0, 0, 4, 0), 3, 5, 2},
		{learning, heard(0, 1, 9, 9), 1, 9, 1},
		{three, heard(-7, -3, -5), 9, 5, -5},
		{three, heard(-7, -3, -5), 9, -9, -5},
		{three, heard(4, 4, 4), 9, -9, 4},
	} {
		if got := track.Round(x.c, x.p, x.self, x.now); got != x.want {
			t.Errorf("P6.4: Round(%+v, %+v, %d, %d): %d, want %d", x.c, x.p, x.self, x.now, got, x.want)
		}
	}
}
