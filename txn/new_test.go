package txn_test

import (
	"math"
	"slices"
	"strings"
	"testing"

	"quorate/api"
	"quorate/txn"
)

func TestP16_1Begins(t *testing.T) {
	for _, x := range []struct {
		id     int
		parts  []api.Part
		record string
		first  string
	}{
		{1, []api.Part{part("a", 1)}, "t1", "ka"},
		{999, []api.Part{part(strings.Repeat("k", 15), 0)}, "t999", strings.Repeat("k", 16)},
		{10, []api.Part{part("a", -api.MaxAmount), part("b", api.MaxAmount)}, "t10", "ka"},
		{7, []api.Part{part("d", 0), part("c", 0), part("b", 0), part("a", 0)}, "t7", "ka"},
		{7, []api.Part{part("a", 0), part("aa", 0)}, "t7", "ka"},
		{7, []api.Part{part("a", 0), part("A", 0)}, "t7", "kA"},
		{7, []api.Part{part("b", 1), part("a\x00", 1), part("a", 1)}, "t7", "ka"},
		{7, []api.Part{part("\x80", 1), part("\x7f", 1)}, "t7", "k\x7f"},
	} {
		y, e := txn.New(x.id, x.parts)
		if y == nil || e != api.OK {
			t.Errorf("P16.1: New(%d, %v): %v, %d", x.id, x.parts, y, e)
			continue
		}
		is(t, "P16.1: it begins", stands(y), "running")
		if c, is := y.Next(); !is || c != (api.Command{Kind: api.Swap, Key: x.record, Value: "open"}) {
			t.Errorf("P16.2: New(%d, ..): first %+v, %v", x.id, c, is)
		}
		y.Answer(api.Result{Kind: api.Done, Version: 1})
		if c, is := y.Next(); !is || c != (api.Command{Kind: api.Get, Key: x.first}) {
			t.Errorf("P16.1: of %v first: %+v, %v; want %q", x.parts, c, is, x.first)
		}
	}
}

func TestP16_1Refused(t *testing.T) {
	a := part("a", 1)
	for _, x := range []struct {
		id    int
		parts []api.Part
	}{
		{0, []api.Part{a}},
		{-1, []api.Part{a}},
		{api.MaxTxn + 1, []api.Part{a}},
		{math.MinInt, []api.Part{a}},
		{math.MaxInt, []api.Part{a}},
		{1, nil},
		{1, []api.Part{}},
		{1, []api.Part{a, part("b", 1), part("c", 1), part("d", 1), part("e", 1)}},
		{1, make([]api.Part, 100000)},
		{1, []api.Part{part("", 1)}},
		{1, []api.Part{a, part("", 1)}},
		{1, []api.Part{part(strings.Repeat("k", 16), 1)}},
		{1, []api.Part{a, part(strings.Repeat("a", 16), 1)}},
		{1, []api.Part{part(strings.Repeat("k", 1000), 1)}},
		{1, []api.Part{part("a", api.MaxAmount+1)}},
		{1, []api.Part{part("a", -api.MaxAmount-1)}},
		{1, []api.Part{a, part("b", math.MaxInt)}},
		{1, []api.Part{a, part("b", math.MinInt)}},
		{1, []api.Part{a, a}},
		{1, []api.Part{a, part("a", -1)}},
		{1, []api.Part{a, part("b", 1), part("a", 2)}},
		{1, []api.Part{part("d", 1), a, part("b", 1), part("d", 1)}},
		{0, nil},
	} {
		if y, e := txn.New(x.id, x.parts); y != nil || e != api.ErrPart {
			t.Errorf("P16.1: New(%d, %d parts): %v, %d; want ErrPart", x.id, len(x.parts), y, e)
		}
	}
}

// Parts are neither kept nor changed, nor sorted where they lie; transactions have nothing to do with one another.
func TestP16_1Memory(t *testing.T) {
	short, whole := roomy([]api.Part{part("c", 3), part("a", 1), part("b", 2)}, part("z", 9))
	was := slices.Clone(whole)
	x, _ := txn.New(1, short)
	y, _ := txn.New(2, short)
	if !slices.Equal(whole, was) {
		t.Errorf("P16.1: New changed its parts: %v", whole)
	}
	spoil(whole, part("y", 8))
	var p, q []api.Pair
	runs(t, &p, x)
	is(t, "P16.1: y has not begun", stands(y), "running")
	is(t, "P16.1: what x made", shows(p), "ka=1 (2), kb=2 (2), kc=3 (2), t1=done (2)")
	runs(t, &q, y)
	is(t, "P16.1: what y made, elsewhere", shows(q), "ka=1 (2), kb=2 (2), kc=3 (2), t2=done (2)")
}
