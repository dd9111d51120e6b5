package rlog_test

import (
	"slices"
	"testing"

	"quorate/api"
	"quorate/rlog"
)

// roomy: entries with spare room behind them, and all of that, to look at.
func roomy(entries []api.Entry) (l, whole []api.Entry) {
	whole = append(slices.Clone(entries), api.Entry{Index: 77, Data: "spare"}, api.Entry{Index: 78, Data: "room"}, api.Entry{Index: 79})
	return whole[:len(entries)], whole
}

// spoil: a list, and its spare room.
func spoil(l []api.Entry) {
	l = l[:cap(l)]
	for i := range l {
		l[i] = api.Entry{Index: 99, Data: "over"}
	}
}

// givers: all calls that hand out entries; each on a log, and on entries that stand behind its index 6 of term 2.
func givers() map[string]func(api.Log, []api.Entry) []api.Entry {
	extend := func(prev, term int, cut int) func(api.Log, []api.Entry) []api.Entry {
		return func(l api.Log, entries []api.Entry) []api.Entry {
			out, _, _, _ := rlog.Extend(l, prev, term, entries[:cut])
			return out.Entries
		}
	}
	m := map[string]func(api.Log, []api.Entry) []api.Entry{
		"Clone":                func(l api.Log, _ []api.Entry) []api.Entry { return rlog.Clone(l).Entries },
		"Extend, cut":          extend(6, 2, 3),
		"Extend, stays":        extend(6, 2, 1),
		"Extend, none":         extend(8, 3, 0),
		"Extend, look":         extend(7, 9, 3),
		"Extend, beyond":       extend(12, 3, 3),
		"Extend, below":        extend(3, 1, 0),
		"Extend, of the whole": extend(5, 2, 0),
	}
	for i := 5; i <= 8; i++ {
		m["Compact"+string(rune('0'+i))] = func(l api.Log, _ []api.Entry) []api.Entry {
			c, _ := rlog.Compact(l, i)
			return c.Entries
		}
		m["Slice"+string(rune('1'+i))] = func(l api.Log, _ []api.Entry) []api.Entry {
			s, _ := rlog.Slice(l, i+1, 2)
			return s
		}
	}
	return m
}

func TestP5Memory(t *testing.T) {
	for name, give := range givers() {
		l := log(5, 2, 2, 3, 3)
		var all, put []api.Entry
		l.Entries, all = roomy(l.Entries)
		entries, put := roomy(run(7, 3, 4, 4))
		before := tell(all, put)
		got := give(l, entries)
		if tell(all, put) != before {
			t.Errorf("P5: %s has changed what was handed in, or its spare room", name)
		}
		again := give(l, entries)
		want := tell(again)
		spoil(got)
		if tell(all, put) != before || tell(again) != want {
			t.Errorf("P5: what %s gives out is not new memory", name)
		}
	}
}

// Of logs that may not be nothing is promised, but that every call ends and none panics.
func TestP5NoPanic(t *testing.T) {
	numbers := append([]int{0, 1, 2, 3, 4, 8}, extreme...)
	for _, l := range badLogs() {
		all(l, numbers)
	}
	for _, l := range goodLogs() {
		all(l, numbers)
	}
}

// all: each call on a log, at these numbers.
func all(l api.Log, numbers []int) {
	rlog.Last(l)
	rlog.Clone(l)
	for _, n := range numbers {
		rlog.TermAt(l, n)
		rlog.Compact(l, n)
		for _, m := range numbers {
			rlog.Slice(l, n, m)
			rlog.Fresh(l, n, m)
			rlog.Extend(l, n, m, nil)
			rlog.Extend(l, n, l.BaseTerm, run(m, 1, m, 2))
			rlog.Extend(l, l.Base, l.BaseTerm, run(m, n, 1))
		}
	}
}
