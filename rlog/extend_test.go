package rlog_test

import (
	"math"
	"testing"

	"quorate/api"
	"quorate/rlog"
)

// extends: what Extend makes of a log, and what it says.
func extends(t *testing.T, l api.Log, prev, term int, entries []api.Entry, want api.Log, said ...int) {
	t.Helper()
	before := tell(l, entries)
	out, match, first, look := rlog.Extend(l, prev, term, entries)
	if got := []int{match, first, look}; tell(out) != tell(want) || tell(got) != tell(said) {
		t.Errorf("P5.3: Extend(%+v, %d, %d, %+v):\n %+v, %v; want\n %+v, %v", l, prev, term, entries, out, got, want, said)
	}
	if tell(l, entries) != before {
		t.Errorf("P5.3: Extend(%+v, %d, %d, %+v) has changed what was handed in", l, prev, term, entries)
	}
}

func TestP5_3Examples(t *testing.T) {
	l := log(0, 0, 1, 1, 2)
	extends(t, l, 3, 2, run(4, 3), log(0, 0, 1, 1, 2, 3), 4, 4, 0)
	extends(t, l, 1, 1, run(2, 3), log(0, 0, 1, 3), 2, 2, 0)
	extends(t, l, 3, 3, nil, l, 0, 0, 3)
	extends(t, l, 9, 1, nil, l, 0, 0, 4)
	extends(t, l, 2, 3, nil, l, 0, 0, 1)
}

func TestP5_3Put(t *testing.T) {
	l := log(0, 0, 1, 1, 2)
	extends(t, api.Log{}, 0, 0, nil, api.Log{}, 0, 0, 0)
	extends(t, api.Log{}, 0, 0, []api.Entry{}, api.Log{}, 0, 0, 0)
	extends(t, api.Log{}, 0, 0, run(1, 1, 4), log(0, 0, 1, 4), 2, 1, 0)
	extends(t, log(5, 2), 5, 2, run(6, 2, 3), log(5, 2, 2, 3), 7, 6, 0)
	extends(t, l, 3, 2, run(4, 2, 2, 5), log(0, 0, 1, 1, 2, 2, 2, 5), 6, 4, 0)
	extends(t, l, 0, 0, run(1, 1, 1, 2, 3), log(0, 0, 1, 1, 2, 3), 4, 4, 0)
	extends(t, l, 1, 1, run(2, 1, 2, 3), log(0, 0, 1, 1, 2, 3), 4, 4, 0)
	extends(t, log(api.MaxNumber-1, 1), api.MaxNumber-1, 1, run(api.MaxNumber, 1), log(api.MaxNumber-1, 1, 1), api.MaxNumber, api.MaxNumber, 0)
}

func TestP5_3Stay(t *testing.T) {
	l := log(0, 0, 1, 1, 2)
	extends(t, l, 0, 0, nil, l, 0, 0, 0)
	extends(t, l, 1, 1, nil, l, 1, 0, 0)
	extends(t, l, 3, 2, nil, l, 3, 0, 0)
	extends(t, l, 0, 0, run(1, 1), l, 1, 0, 0)
	extends(t, l, 0, 0, run(1, 1, 1), l, 2, 0, 0)
	extends(t, l, 0, 0, run(1, 1, 1, 2), l, 3, 0, 0)
	extends(t, l, 2, 1, run(3, 2), l, 3, 0, 0)
	extends(t, log(5, 2, 2, 3), 5, 2, nil, log(5, 2, 2, 3), 5, 0, 0)
	extends(t, log(5, 2, 2, 3), 5, 2, run(6, 2), log(5, 2, 2, 3), 6, 0, 0)
}

// What is there with the same term stays as it is, whatever the other one has in it.
func TestP5_3TheSameTermIsTheSameEntry(t *testing.T) {
	l, entries := log(0, 0, 1, 1, 2), run(2, 1, 2, 2)
	entries[0].Data, entries[0].Kind, entries[1].Data = "other", api.Change, "other"
	extends(t, l, 1, 1, entries, log(0, 0, 1, 1, 2, 2), 4, 4, 0)
}

func TestP5_3Cut(t *testing.T) {
	l := log(0, 0, 1, 1, 2, 2, 3)
	extends(t, l, 0, 0, run(1, 4), log(0, 0, 4), 1, 1, 0)
	extends(t, l, 2, 1, run(3, 4), log(0, 0, 1, 1, 4), 3, 3, 0)
	extends(t, l, 2, 1, run(3, 2, 3), log(0, 0, 1, 1, 2, 3), 4, 4, 0)
	extends(t, l, 4, 2, run(5, 2), log(0, 0, 1, 1, 2, 2, 2), 5, 5, 0)
	extends(t, l, 1, 1, run(2, 1, 2, 4, 4, 4), log(0, 0, 1, 1, 2, 4, 4, 4), 6, 4, 0)
	extends(t, log(5, 2, 2, 3, 3), 5, 2, run(6, 4), log(5, 2, 4), 6, 6, 0)
	extends(t, log(5, 2, 2, 3, 3), 6, 2, run(7, 4, 4), log(5, 2, 2, 4, 4), 8, 7, 0)
}

func TestP5_3Look(t *testing.T) {
	l := log(0, 0, 1, 1, 2, 4, 4, 4)
	for prev, look := range map[int]int{1: 1, 2: 1, 3: 3, 4: 4, 5: 4, 6: 4, 7: 7, 8: 7, 99: 7, math.MaxInt: 7} {
		extends(t, l, prev, 3, nil, l, 0, 0, look)
		extends(t, l, prev, 9, run(prev+1, 9), l, 0, 0, look)
	}
	extends(t, api.Log{}, 1, 1, nil, api.Log{}, 0, 0, 1)
	extends(t, api.Log{}, 5, 1, run(6, 1), api.Log{}, 0, 0, 1)
	extends(t, log(5, 2), 6, 2, nil, log(5, 2), 0, 0, 6)
	extends(t, log(5, 2), 9, 2, nil, log(5, 2), 0, 0, 6)
}

// The base has a term, and is no entry: a look stops behind it.
func TestP5_3LookAtTheBase(t *testing.T) {
	l := log(5, 2, 2, 2, 3)
	extends(t, l, 8, 4, nil, l, 0, 0, 8)
	extends(t, l, 7, 4, nil, l, 0, 0, 6)
	extends(t, l, 6, 4, nil, l, 0, 0, 6)
	extends(t, l, 5, 4, nil, l, 0, 0, 5)
	extends(t, log(5, 2), 5, 1, run(6, 1), log(5, 2), 0, 0, 5)
	extends(t, log(0, 0, 1), 0, 1, nil, log(0, 0, 1), 0, 0, 0)
}

func TestP5_3BelowTheBase(t *testing.T) {
	l := log(5, 2, 3, 3)
	extends(t, l, 4, 1, nil, l, 4, 0, 0)
	extends(t, l, 0, 0, nil, l, 0, 0, 0)
	extends(t, l, -1, 7, nil, l, -1, 0, 0)
	extends(t, l, math.MinInt, 1, nil, l, math.MinInt, 0, 0)
	extends(t, l, 1, 1, run(2, 1), l, 2, 0, 0)
	extends(t, l, 0, 0, run(1, 1, 1, 1, 2), l, 4, 0, 0)
	extends(t, l, 0, 0, run(1, 1, 1, 1, 2, 2), l, 5, 0, 0)
	extends(t, l, 3, 9, run(4, 2, 2), l, 5, 0, 0)
	extends(t, l, 3, 1, run(4, 2, 2, 3), l, 6, 0, 0)
	extends(t, l, 3, 1, run(4, 2, 2, 3, 3, 4), log(5, 2, 3, 3, 4), 8, 8, 0)
	extends(t, l, 3, 1, run(4, 2, 2, 4), log(5, 2, 4), 6, 6, 0)
	extends(t, l, 3, 1, run(4, 2, 4), l, 0, 0, 5)
	extends(t, l, 3, 1, run(4, 2, 4, 4), l, 0, 0, 5)
	extends(t, log(5, 2), 4, 2, run(5, 2, 2), log(5, 2, 2), 6, 6, 0)
}
