package rlog_test

import (
	"fmt"
	"math"
	"strings"
	"testing"

	"quorate/api"
	"quorate/rlog"
)

// tell: values, for a look; nil and empty lists are the same.
func tell(l ...any) string {
	return fmt.Sprintf("%+v", l)
}

// run: entries of these terms, from an index on. Each says where it stands.
func run(from int, terms ...int) (l []api.Entry) {
	for i, term := range terms {
		l = append(l, api.Entry{Index: from + i, Term: term, Kind: api.Ask, Data: fmt.Sprint(from+i, "/", term)})
	}
	return l
}

// log: with a base, and entries of these terms.
func log(base, baseTerm int, terms ...int) api.Log {
	return api.Log{Base: base, BaseTerm: baseTerm, Entries: run(base+1, terms...)}
}

// extreme: numbers at which sums go wrong.
var extreme = []int{math.MinInt, math.MinInt + 1, -api.MaxNumber, -2, -1, api.MaxNumber, api.MaxNumber + 1, math.MaxInt - 1, math.MaxInt}

func goodLogs() map[string]api.Log {
	change := log(0, 0, 1, 1, 2)
	change.Entries[0] = api.Entry{Index: 1, Term: 1}
	change.Entries[1] = api.Entry{Index: 2, Term: 1, Kind: api.Change, Data: "no configuration"}
	change.Entries[2].Data = strings.Repeat("x", api.MaxData)
	long := api.Log{}
	for i := range api.MaxLog + 50 {
		long.Entries = append(long.Entries, run(i+1, 1+i/7)...)
	}
	return map[string]api.Log{
		"nothing":                  {},
		"no entries":               {Entries: []api.Entry{}},
		"a base":                   log(7, 3),
		"the greatest base":        log(api.MaxNumber, api.MaxNumber),
		"a base beyond its term":   log(9, 1),
		"a term beyond its base":   log(1, 9),
		"one":                      log(0, 0, 1),
		"terms that rise":          log(0, 0, 1, 1, 2, 5, 5),
		"behind a base":            log(4, 2, 2, 2, 3),
		"with the base's term":     log(4, 2, 2),
		"the last index":           log(api.MaxNumber-2, 1, 1, api.MaxNumber),
		"all kinds":                change,
		"more than a node may add": long,
	}
}

func badLogs() map[string]api.Log {
	m := map[string]api.Log{
		"a base of no term":            log(1, 0),
		"a term of no base":            log(0, 1),
		"a base of no term, an entry":  log(1, 0, 1),
		"a term of no base, an entry":  log(0, 1, 1),
		"a term that falls":            log(0, 0, 1, 2, 1),
		"a term below the base's":      log(4, 3, 2, 3),
		"a term that falls at the end": log(4, 3, 3, 4, 3),
		"term 0":                       log(0, 0, 0),
		"a term below 0":               log(0, 0, -1),
		"a great term":                 log(0, 0, 1, api.MaxNumber+1),
		"the greatest term":            log(0, 0, math.MaxInt),
		"an index too far":             log(api.MaxNumber-1, 1, 1, 1),
		"behind the greatest base":     log(api.MaxNumber, 1, 1),
		"the first index is another":   {Entries: run(2, 1)},
		"the first index is the base":  {Base: 4, BaseTerm: 1, Entries: run(4, 1)},
		"as if there were no base":     {Base: 4, BaseTerm: 1, Entries: run(1, 1, 1)},
		"an index twice":               {Entries: append(run(1, 1, 1), run(2, 1)...)},
		"an index is left out":         {Entries: append(run(1, 1, 1), run(4, 1)...)},
		"indexes that fall":            {Entries: append(run(2, 1), run(1, 1)...)},
	}
	for _, n := range extreme {
		if n != api.MaxNumber {
			m[fmt.Sprint("base ", n)] = log(n, 1)
			m[fmt.Sprint("base term ", n)] = log(1, n)
			m[fmt.Sprint("base ", n, ", entries")] = log(n, 1, 1, 1)
			m[fmt.Sprint("index ", n)] = api.Log{Entries: run(n, 1)}
			m[fmt.Sprint("term ", n)] = log(0, 0, n)
		}
	}
	for name, spoil := range map[string]func(*api.Entry){
		"a kind above all":    func(e *api.Entry) { e.Kind = 3 },
		"a kind below all":    func(e *api.Entry) { e.Kind = -1 },
		"Nothing with data":   func(e *api.Entry) { e.Kind = api.Nothing },
		"more data than may":  func(e *api.Entry) { e.Data = strings.Repeat("x", api.MaxData+1) },
		"all of it is zero":   func(e *api.Entry) { *e = api.Entry{} },
		"the term is missing": func(e *api.Entry) { e.Term = 0 },
	} {
		l := log(0, 0, 1, 1, 1)
		spoil(&l.Entries[1])
		m[name] = l
	}
	return m
}

func TestP5_1Valid(t *testing.T) {
	for name, l := range goodLogs() {
		if !rlog.Valid(l) {
			t.Errorf("P5.1: %s: not Valid(%+v)", name, l)
		}
	}
	for name, l := range badLogs() {
		if rlog.Valid(l) {
			t.Errorf("P5.1: %s: Valid(%+v)", name, l)
		}
	}
}

func TestP5_1Last(t *testing.T) {
	for _, x := range []struct {
		l    api.Log
		want [2]int
	}{
		{api.Log{}, [2]int{0, 0}},
		{log(0, 0, 1), [2]int{1, 1}},
		{log(0, 0, 1, 1, 4), [2]int{3, 4}},
		{log(7, 3), [2]int{7, 3}},
		{log(7, 3, 3), [2]int{8, 3}},
		{log(7, 3, 3, 3, 9), [2]int{10, 9}},
		{log(api.MaxNumber, 5), [2]int{api.MaxNumber, 5}},
		{log(api.MaxNumber-1, 5, api.MaxNumber), [2]int{api.MaxNumber, api.MaxNumber}},
	} {
		if index, term := rlog.Last(x.l); [2]int{index, term} != x.want {
			t.Errorf("P5.1: Last(%+v): %d, %d; want %v", x.l, index, term, x.want)
		}
	}
}

func TestP5_1TermAt(t *testing.T) {
	cut, whole := log(7, 3, 3, 5, 6), log(0, 0, 1, 2)
	for _, x := range []struct {
		l    api.Log
		i    int
		term int
		e    api.Errno
	}{
		{cut, 6, 0, api.ErrCompacted},
		{cut, 1, 0, api.ErrCompacted},
		{cut, 0, 0, api.ErrCompacted},
		{cut, -1, 0, api.ErrCompacted},
		{cut, math.MinInt, 0, api.ErrCompacted},
		{cut, 7, 3, api.OK},
		{cut, 8, 3, api.OK},
		{cut, 9, 5, api.OK},
		{cut, 10, 6, api.OK},
		{cut, 11, 0, api.ErrBeyond},
		{cut, api.MaxNumber, 0, api.ErrBeyond},
		{cut, math.MaxInt, 0, api.ErrBeyond},
		{whole, -1, 0, api.ErrCompacted},
		{whole, 0, 0, api.OK},
		{whole, 1, 1, api.OK},
		{whole, 2, 2, api.OK},
		{whole, 3, 0, api.ErrBeyond},
		{api.Log{}, -1, 0, api.ErrCompacted},
		{api.Log{}, 0, 0, api.OK},
		{api.Log{}, 1, 0, api.ErrBeyond},
		{log(5, 2), 4, 0, api.ErrCompacted},
		{log(5, 2), 5, 2, api.OK},
		{log(5, 2), 6, 0, api.ErrBeyond},
		{log(api.MaxNumber, 2), api.MaxNumber, 2, api.OK},
		{log(api.MaxNumber, 2), api.MaxNumber + 1, 0, api.ErrBeyond},
	} {
		if term, e := rlog.TermAt(x.l, x.i); term != x.term || e != x.e {
			t.Errorf("P5.1: TermAt(%+v, %d): %d, %d; want %d, %d", x.l, x.i, term, e, x.term, x.e)
		}
	}
}

func TestP5_1Slice(t *testing.T) {
	l := log(7, 3, 3, 5, 6)
	for _, x := range []struct {
		l          api.Log
		from, most int
		want       []api.Entry
		e          api.Errno
	}{
		{l, 8, 3, l.Entries, api.OK},
		{l, 8, 4, l.Entries, api.OK},
		{l, 8, math.MaxInt, l.Entries, api.OK},
		{l, 8, 2, l.Entries[:2], api.OK},
		{l, 8, 1, l.Entries[:1], api.OK},
		{l, 8, 0, nil, api.OK},
		{l, 9, 1, l.Entries[1:2], api.OK},
		{l, 9, 9, l.Entries[1:], api.OK},
		{l, 10, 1, l.Entries[2:], api.OK},
		{l, 11, 0, nil, api.OK},
		{l, 11, 5, nil, api.OK},
		{l, 12, 5, nil, api.ErrBeyond},
		{l, 12, 0, nil, api.ErrBeyond},
		{l, math.MaxInt, 5, nil, api.ErrBeyond},
		{l, 8, -1, nil, api.ErrBeyond},
		{l, 11, -1, nil, api.ErrBeyond},
		{l, 8, math.MinInt, nil, api.ErrBeyond},
		{l, 7, 5, nil, api.ErrCompacted},
		{l, 0, 5, nil, api.ErrCompacted},
		{l, -1, 5, nil, api.ErrCompacted},
		{l, math.MinInt, 5, nil, api.ErrCompacted},
		{l, 7, -1, nil, api.ErrCompacted},
		{l, math.MinInt, math.MinInt, nil, api.ErrCompacted},
		{api.Log{}, 0, 1, nil, api.ErrCompacted},
		{api.Log{}, 1, 1, nil, api.OK},
		{api.Log{}, 2, 1, nil, api.ErrBeyond},
		{log(5, 2), 5, 1, nil, api.ErrCompacted},
		{log(5, 2), 6, 1, nil, api.OK},
		{log(5, 2), 7, 1, nil, api.ErrBeyond},
		{log(api.MaxNumber, 2), api.MaxNumber + 1, 1, nil, api.OK},
	} {
		got, e := rlog.Slice(x.l, x.from, x.most)
		if tell(got, e) != tell(x.want, x.e) {
			t.Errorf("P5.1: Slice(%+v, %d, %d): %+v, %d; want %+v, %d", x.l, x.from, x.most, got, e, x.want, x.e)
		}
	}
}

func TestP5_1Clone(t *testing.T) {
	for name, l := range goodLogs() {
		if got := rlog.Clone(l); tell(got) != tell(l) {
			t.Errorf("P5.1: %s: Clone: %+v, want %+v", name, got, l)
		}
	}
}

func TestP5_1Compact(t *testing.T) {
	l := log(7, 3, 3, 5, 6)
	for _, x := range []struct {
		l    api.Log
		i    int
		want api.Log
		e    api.Errno
	}{
		{l, 7, l, api.OK},
		{l, 8, api.Log{Base: 8, BaseTerm: 3, Entries: l.Entries[1:]}, api.OK},
		{l, 9, api.Log{Base: 9, BaseTerm: 5, Entries: l.Entries[2:]}, api.OK},
		{l, 10, log(10, 6), api.OK},
		{l, 11, api.Log{}, api.ErrBeyond},
		{l, math.MaxInt, api.Log{}, api.ErrBeyond},
		{l, 6, api.Log{}, api.ErrCompacted},
		{l, 0, api.Log{}, api.ErrCompacted},
		{l, math.MinInt, api.Log{}, api.ErrCompacted},
		{log(0, 0, 1, 2), 0, log(0, 0, 1, 2), api.OK},
		{log(0, 0, 1, 2), 1, log(1, 1, 2), api.OK},
		{log(0, 0, 1, 2), 2, log(2, 2), api.OK},
		{log(0, 0, 1, 2), 3, api.Log{}, api.ErrBeyond},
		{log(0, 0, 1, 2), -1, api.Log{}, api.ErrCompacted},
		{api.Log{}, 0, api.Log{}, api.OK},
		{api.Log{}, 1, api.Log{}, api.ErrBeyond},
		{log(5, 2), 5, log(5, 2), api.OK},
	} {
		got, e := rlog.Compact(x.l, x.i)
		if tell(got, e) != tell(x.want, x.e) {
			t.Errorf("P5.1: Compact(%+v, %d): %+v, %d; want %+v, %d", x.l, x.i, got, e, x.want, x.e)
		}
		if e == api.OK && !rlog.Valid(got) {
			t.Errorf("P5.1: Compact(%+v, %d) is no log: %+v", x.l, x.i, got)
		}
	}
}

func TestP5_2Fresh(t *testing.T) {
	l := log(0, 0, 1, 3, 3)
	for _, x := range []struct {
		l           api.Log
		index, term int
		want        bool
	}{
		{l, 3, 3, true},
		{l, 4, 3, true},
		{l, math.MaxInt, 3, true},
		{l, 2, 3, false},
		{l, 0, 3, false},
		{l, 1, 4, true},
		{l, 0, 4, true},
		{l, math.MinInt, math.MaxInt, true},
		{l, 3, 2, false},
		{l, 9, 2, false},
		{l, math.MaxInt, math.MinInt, false},
		{l, 0, 0, false},
		{api.Log{}, 0, 0, true},
		{api.Log{}, 1, 1, true},
		{api.Log{}, -1, 0, false},
		{api.Log{}, 5, -1, false},
		{log(7, 3), 7, 3, true},
		{log(7, 3), 6, 3, false},
		{log(7, 3), 8, 2, false},
		{log(7, 3), 1, 4, true},
		{log(7, 3, 5), 8, 5, true},
		{log(7, 3, 5), 7, 5, false},
		{log(7, 3, 5), 9, 4, false},
	} {
		if got := rlog.Fresh(x.l, x.index, x.term); got != x.want {
			t.Errorf("P5.2: Fresh(%+v, %d, %d): %v", x.l, x.index, x.term, got)
		}
	}
}
