package rlog_test

import (
	"math/rand"
	"slices"
	"testing"

	"quorate/api"
	"quorate/rlog"
)

// draw: a log that may be, behind a base.
func draw(r *rand.Rand, base, term, most int) api.Log {
	l := api.Log{Base: base, BaseTerm: term}
	for range r.Intn(most + 1) {
		term = max(term+r.Intn(4)/2, 1)
		l.Entries = append(l.Entries, run(base+1+len(l.Entries), term)...)
	}
	return l
}

// drawBase: 0 and 0, or neither.
func drawBase(r *rand.Rand) (int, int) {
	if r.Intn(2) == 0 {
		return 0, 0
	}
	return 1 + r.Intn(5), 1 + r.Intn(3)
}

// model: Extend told once more, in another way: the entries by their indexes.
func model(l api.Log, prev, term int, entries []api.Entry) (out api.Log, match, first, look int) {
	at := map[int]api.Entry{l.Base: {Index: l.Base, Term: l.BaseTerm}}
	for _, e := range l.Entries {
		at[e.Index] = e
	}
	last := l.Base + len(l.Entries)
	all := append([]api.Entry{{Index: prev, Term: term}}, entries...)
	for len(all) > 1 && all[0].Index < l.Base {
		all = all[1:]
	}
	head := all[0]
	if head.Index < l.Base {
		return l, head.Index, 0, 0
	}
	if head.Index > last {
		return l, 0, 0, last + 1
	}
	if own := at[head.Index].Term; own != head.Term {
		look = head.Index
		for look-1 > l.Base && at[look-1].Term == own {
			look--
		}
		return l, 0, 0, look
	}
	for _, e := range all[1:] {
		if had, there := at[e.Index]; first == 0 && there && had.Term == e.Term {
			continue
		}
		if first == 0 {
			first = e.Index
			for i := first; i <= last; i++ {
				delete(at, i)
			}
		}
		at[e.Index] = e
	}
	out = api.Log{Base: l.Base, BaseTerm: l.BaseTerm}
	for i := l.Base + 1; i < l.Base+len(at); i++ {
		out.Entries = append(out.Entries, at[i])
	}
	return out, all[len(all)-1].Index, first, 0
}

// drawPut: what is put behind a log: of its own entries, or of others.
func drawPut(r *rand.Rand, l api.Log) (prev, term int, entries []api.Entry) {
	last, _ := rlog.Last(l)
	prev = r.Intn(last + 3)
	term, _ = rlog.TermAt(l, prev)
	if term == 0 && prev > 0 || r.Intn(5) == 0 {
		term = r.Intn(5)
	}
	if r.Intn(2) == 0 && prev >= l.Base && prev < last {
		entries = append(entries, l.Entries[prev-l.Base:]...)
		entries = entries[:r.Intn(len(entries)+1)]
		if n := len(entries); n > 0 {
			return prev, term, append(entries, draw(r, entries[n-1].Index, entries[n-1].Term, 3).Entries...)
		}
	}
	return prev, term, draw(r, prev, term, 6).Entries
}

func TestP5_3AsTheModel(t *testing.T) {
	r := rand.New(rand.NewSource(5))
	var puts, cuts, looks, below int
	for range 20000 {
		base, baseTerm := drawBase(r)
		l := draw(r, base, baseTerm, 8)
		prev, term, entries := drawPut(r, l)
		want, match, first, look := model(l, prev, term, entries)
		extends(t, l, prev, term, entries, want, match, first, look)
		if t.Failed() {
			return
		}
		last, _ := rlog.Last(l)
		switch {
		case look > 0:
			looks++
		case first > 0 && first <= last:
			cuts++
		case first > 0:
			puts++
		case prev < l.Base:
			below++
		}
		if (prev == 0) == (term == 0) && !rlog.Valid(want) {
			t.Fatalf("P5.3: Extend(%+v, %d, %d, %+v) is no log: %+v", l, prev, term, entries, want)
		}
	}
	if min(puts, cuts, looks, below) < 200 {
		t.Errorf("P5.3: %d put, %d cut, %d looks, %d below the base: the test shows too little", puts, cuts, looks, below)
	}
}

// tree: logs that come of one another as leaders make them: each goes on from a piece of an earlier one, in a term of its own.
func tree(r *rand.Rand) []api.Log {
	l := []api.Log{{}}
	for term := 1; term <= 6; term++ {
		from := l[r.Intn(len(l))]
		next := api.Log{Entries: slices.Clone(from.Entries[:r.Intn(len(from.Entries)+1)])}
		for range 1 + r.Intn(3) {
			next.Entries = append(next.Entries, run(len(next.Entries)+1, term)...)
		}
		l = append(l, next)
	}
	return l
}

// matches: where two logs have an entry of one index and term, are they the same up to it?
func matches(a, b api.Log) bool {
	for i := min(len(a.Entries), len(b.Entries)); i > 0; i-- {
		if a.Entries[i-1].Term == b.Entries[i-1].Term {
			return tell(a.Entries[:i]) == tell(b.Entries[:i])
		}
	}
	return true
}

// copyFrom: a follower is given a leader's log, from behind an index on; the leader goes back by looks. How often was it asked?
func copyFrom(t *testing.T, follower, leader api.Log) (api.Log, int) {
	t.Helper()
	prev, last := len(leader.Entries), len(leader.Entries)
	for asked := 1; ; asked++ {
		term, _ := rlog.TermAt(leader, prev)
		entries, _ := rlog.Slice(leader, prev+1, last)
		out, match, _, look := rlog.Extend(follower, prev, term, entries)
		if look == 0 {
			if match != last {
				t.Fatalf("P5.3: match %d, not %d", match, last)
			}
			return out, asked
		}
		if look < 1 || look > prev {
			t.Fatalf("P5.3: a look at %d leads nowhere from %d", look, prev)
		}
		prev = look - 1
		follower = out
	}
}

func TestP5_3LogsMatch(t *testing.T) {
	r := rand.New(rand.NewSource(7))
	for range 2000 {
		logs := tree(r)
		a, b := logs[r.Intn(len(logs))], logs[r.Intn(len(logs))]
		if !matches(a, b) {
			t.Fatalf("the test's own logs do not match: %+v, %+v", a, b)
		}
		// A leader that has all to send finds where they part by a look a term at most.
		got, asked := copyFrom(t, a, b)
		if tell(got.Entries[:len(b.Entries)]) != tell(b.Entries) || asked > 8 {
			t.Fatalf("P5.3: %+v given %+v: %+v, asked %d times", a, b, got, asked)
		}
		for _, other := range logs {
			prev := r.Intn(len(other.Entries) + 1)
			term, _ := rlog.TermAt(other, prev)
			entries, _ := rlog.Slice(other, prev+1, r.Intn(4))
			if out, _, _, _ := rlog.Extend(a, prev, term, entries); !matches(out, other) || !matches(out, b) {
				t.Fatalf("P5.3: %+v, given %d, %d, %+v, is %+v: that does not match %+v or %+v", a, prev, term, entries, out, other, b)
			}
		}
	}
}
