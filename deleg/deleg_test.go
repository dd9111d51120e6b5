package deleg_test

import (
	"fmt"
	"math"
	"slices"
	"strings"
	"testing"

	"quorate/api"
	"quorate/deleg"
)

// tell: a value, for a look; nil and empty lists are the same.
func tell(x any) string {
	return fmt.Sprintf("%q", fmt.Sprint(x))
}

// many: a text of so many bytes.
func many(n int) string {
	return strings.Repeat("k", n)
}

// b: a bound.
func b(from string, host int) api.Bound {
	return api.Bound{From: from, Host: host}
}

// bounds: a delegation.
func bounds(l ...api.Bound) []api.Bound {
	return l
}

// is: bounds are those that are wanted.
func is(t *testing.T, what string, got, want []api.Bound) {
	t.Helper()
	if !slices.Equal(got, want) {
		t.Errorf("%s: %s; want %s", what, tell(got), tell(want))
	}
}

// spoil: bounds, and their spare room.
func spoil(l []api.Bound) {
	l = l[:cap(l)]
	for i := range l {
		l[i] = b("over", 5)
	}
}

func TestP17_1New(t *testing.T) {
	for host := 1; host <= api.MaxNode; host++ {
		l := deleg.New(host)
		is(t, "P17.1: New", l, bounds(b("", host)))
		if !deleg.Valid(l) {
			t.Errorf("P17.1: New(%d) may not be", host)
		}
		for _, key := range []string{"", "\x00", "a", "\xff", many(16), many(1000)} {
			if h := deleg.At(l, key); h != host {
				t.Errorf("P17.1: New(%d): %.20q is %d's", host, key, h)
			}
		}
	}
}

// A host that is no node: all keys are its, and that may not be.
func TestP17_1NewOfNoNode(t *testing.T) {
	for _, host := range []int{math.MinInt, -1, 0, 10, math.MaxInt} {
		l := deleg.New(host)
		is(t, "P17.1: New", l, bounds(b("", host)))
		if deleg.Valid(l) {
			t.Errorf("P17.1: New(%d) may be", host)
		}
	}
}

func TestP17_1NewIsNew(t *testing.T) {
	spoil(deleg.New(1))
	is(t, "P17.1: New is not new memory", deleg.New(1), bounds(b("", 1)))
}

func TestP17_1Valid(t *testing.T) {
	for _, l := range [][]api.Bound{
		bounds(b("", 1)),
		bounds(b("", 9)),
		bounds(b("", 1), b("a", 2)),
		bounds(b("", 1), b("\x00", 2)),
		bounds(b("", 1), b("a", 2), b("b", 1)),
		bounds(b("", 1), b("a", 2), b("a\x00", 1), b("aa", 3), b("b", 1)),
		bounds(b("", 1), b("\x7f", 2), b("\x80", 1), b("\xff", 3)),
		bounds(b("", 1), b("Z", 2), b("a", 1)),
		bounds(b("", 1), b(many(16), 9)),
		bounds(b("", 1), b("a", 2), b("b", 3), b("c", 4), b("d", 5), b("e", 6), b("f", 7), b("g", 8), b("h", 9), b("i", 1)),
	} {
		if !deleg.Valid(l) {
			t.Errorf("P17.1: %s may not be", tell(l))
		}
	}
}

func TestP17_1NotValid(t *testing.T) {
	for name, l := range map[string][]api.Bound{
		"nil":                       nil,
		"none":                      {},
		"the first key is no one's": bounds(b("a", 1)),
		"a byte is not the empty":   bounds(b("\x00", 1)),
		"the empty text is second":  bounds(b("a", 1), b("", 2)),
		"host 0":                    bounds(b("", 0)),
		"host 10":                   bounds(b("", 10)),
		"host -1":                   bounds(b("", -1)),
		"the least host":            bounds(b("", math.MinInt)),
		"the greatest host":         bounds(b("", math.MaxInt)),
		"host 0 behind":             bounds(b("", 1), b("a", 0)),
		"host 10 in the middle":     bounds(b("", 1), b("a", 10), b("b", 1)),
		"a host ahead of itself":    bounds(b("", 1), b("a", 1)),
		"ahead of itself at last":   bounds(b("", 1), b("a", 2), b("b", 3), b("c", 3)),
		"ahead of itself, within":   bounds(b("", 1), b("a", 2), b("b", 2), b("c", 3)),
		"a key twice":               bounds(b("", 1), b("b", 2), b("b", 1)),
		"the empty text twice":      bounds(b("", 1), b("", 2)),
		"keys that fall":            bounds(b("", 1), b("b", 2), b("a", 1)),
		"a longer key first":        bounds(b("", 1), b("aa", 2), b("a", 1)),
		"bytes, not runes":          bounds(b("", 1), b("\x80", 2), b("\x7f", 1)),
		"a long key":                bounds(b("", 1), b(many(17), 2)),
		"a long key in the middle":  bounds(b("", 1), b(many(17), 2), b("z", 1)),
		"a very long key":           bounds(b("", 1), b(many(100000), 2)),
	} {
		if deleg.Valid(l) {
			t.Errorf("P17.1: %s: %.200s may be", name, tell(l))
		}
	}
}

func TestP17_1In(t *testing.T) {
	for _, x := range []struct {
		key, from, upto string
		want            bool
	}{
		{"", "", "", true},
		{"", "", "a", true},
		{"", "", "\x00", true},
		{"\x00", "", "\x00", false},
		{"", "\x00", "", false},
		{"", "a", "b", false},
		{"a", "", "", true},
		{"\xff\xff", "", "", true},
		{"a", "a", "", true},
		{"a", "a", "b", true},
		{"a", "a", "a\x00", true},
		{"a\x00", "a", "a\x00", false},
		{"a\x00", "a", "b", true},
		{"a\xff\xff", "a", "b", true},
		{"b", "a", "b", false},
		{"b\x00", "a", "b", false},
		{"A", "a", "b", false},
		{"z", "b", "", true},
		{"a", "b", "", false},
		{"a", "a", "a", false},
		{"", "a", "a", false},
		{"b", "c", "a", false},
		{"a", "c", "a", false},
		{"c", "c", "a", false},
		{"d", "c", "a", false},
		{"\x7f", "\x7f", "\x80", true},
		{"\x80", "\x7f", "\x80", false},
		{"\x80", "\x7f", "", true},
		{many(17), many(16), many(18), true},
		{many(1000), many(999), "", true},
	} {
		if got := deleg.In(x.key, x.from, x.upto); got != x.want {
			t.Errorf("P17.1: In(%q, from %q, up to %q): %v", x.key, x.from, x.upto, got)
		}
	}
}

// three: what the chapter's example makes first.
func three() []api.Bound {
	return bounds(b("", 1), b("b", 2), b("d", 1))
}

func TestP17_2At(t *testing.T) {
	l := bounds(b("", 3), b("b", 2), b("b\x00", 9), b("d", 3))
	for key, want := range map[string]int{
		"": 3, "\x00": 3, "a": 3, "a\xff\xff": 3, "B": 3,
		"b": 2, "b\x00": 9, "b\x00\x00": 9, "b\x01": 9, "c": 9, "c\xff": 9,
		"d": 3, "d\x00": 3, "e": 3, "\x80": 3, "\xff": 3, strings.Repeat("c", 1000): 9, strings.Repeat("z", 1000): 3,
	} {
		if got := deleg.At(l, key); got != want {
			t.Errorf("P17.2: %.20q is %d's; want %d", key, got, want)
		}
	}
}

func TestP17_2Example(t *testing.T) {
	l := deleg.Set(deleg.New(1), "b", "d", 2)
	is(t, "P17.2: Set", l, three())
	is(t, "P17.2: Set", deleg.Set(l, "c", "", 2), bounds(b("", 1), b("b", 2)))
}

func TestP17_2Set(t *testing.T) {
	for _, x := range []struct {
		name       string
		l          []api.Bound
		from, upto string
		host       int
		want       []api.Bound
	}{
		{"all", three(), "", "", 3, bounds(b("", 3))},
		{"all, one's own", deleg.New(3), "", "", 3, bounds(b("", 3))},
		{"from the beginning", three(), "", "a", 3, bounds(b("", 3), b("a", 1), b("b", 2), b("d", 1))},
		{"the empty text alone", three(), "", "\x00", 3, bounds(b("", 3), b("\x00", 1), b("b", 2), b("d", 1))},
		{"up to a bound", three(), "", "b", 3, bounds(b("", 3), b("b", 2), b("d", 1))},
		{"up to a bound of the same host", three(), "", "b", 2, bounds(b("", 2), b("d", 1))},
		{"up to within", three(), "", "c", 2, bounds(b("", 2), b("d", 1))},
		{"over one", three(), "", "c", 3, bounds(b("", 3), b("c", 2), b("d", 1))},
		{"just a piece", three(), "b", "d", 3, bounds(b("", 1), b("b", 3), b("d", 1))},
		{"a piece that joins both sides", three(), "b", "d", 1, bounds(b("", 1))},
		{"a piece's own host", three(), "b", "d", 2, three()},
		{"a part of a piece, its own host", three(), "bb", "c", 2, three()},
		{"within a piece", three(), "bb", "c", 3, bounds(b("", 1), b("b", 2), b("bb", 3), b("c", 2), b("d", 1))},
		{"a piece's beginning", three(), "b", "c", 3, bounds(b("", 1), b("b", 3), b("c", 2), b("d", 1))},
		{"a piece's beginning, to who is ahead", three(), "b", "c", 1, bounds(b("", 1), b("c", 2), b("d", 1))},
		{"a piece's end", three(), "c", "d", 3, bounds(b("", 1), b("b", 2), b("c", 3), b("d", 1))},
		{"a piece's end, to who is behind", three(), "c", "d", 1, bounds(b("", 1), b("b", 2), b("c", 1))},
		{"over its end", three(), "c", "e", 2, bounds(b("", 1), b("b", 2), b("e", 1))},
		{"over its beginning", three(), "a", "c", 2, bounds(b("", 1), b("a", 2), b("d", 1))},
		{"over a whole piece", three(), "a", "e", 3, bounds(b("", 1), b("a", 3), b("e", 1))},
		{"over a whole piece, to both sides'", three(), "a", "e", 1, bounds(b("", 1))},
		{"to the end", three(), "c", "", 3, bounds(b("", 1), b("b", 2), b("c", 3))},
		{"to the end from a bound", three(), "d", "", 3, bounds(b("", 1), b("b", 2), b("d", 3))},
		{"to the end from a bound, joined", three(), "d", "", 2, bounds(b("", 1), b("b", 2))},
		{"to the end, its own host", three(), "e", "", 1, three()},
		{"one key", three(), "c", "c\x00", 9, bounds(b("", 1), b("b", 2), b("c", 9), b("c\x00", 2), b("d", 1))},
		{"the last one that may be", three(), "\xff", "", 9, bounds(b("", 1), b("b", 2), b("d", 1), b("\xff", 9))},
		{"by bytes", deleg.New(1), "\x7f", "\x80", 2, bounds(b("", 1), b("\x7f", 2), b("\x80", 1))},
		{"the longest", deleg.New(1), many(15), many(16), 2, bounds(b("", 1), b(many(15), 2), b(many(16), 1))},
	} {
		got := deleg.Set(x.l, x.from, x.upto, x.host)
		is(t, "P17.2: Set: "+x.name, got, x.want)
		if !deleg.Valid(got) {
			t.Errorf("P17.2: Set: %s: %s may not be", x.name, tell(got))
		}
	}
}

// A range that holds no key changes nothing, whoever the host.
func TestP17_2SetNothing(t *testing.T) {
	for _, x := range [][2]string{{"b", "b"}, {"d", "b"}, {"b", "a"}, {"e", "d"}, {"c", "c"}, {"a\x00", "a"}, {"\x80", "\x7f"}, {many(1000), "a"}, {many(17), many(17)}} {
		for _, host := range []int{1, 2, 3, 0, -1, 10} {
			is(t, fmt.Sprintf("P17.2: Set from %.20q up to %.20q", x[0], x[1]), deleg.Set(three(), x[0], x[1], host), three())
		}
	}
}

// A host that is no node, or a key that is too long: it is done all the same, and told by Valid.
func TestP17_2SetOfWrong(t *testing.T) {
	for _, x := range []struct {
		from, upto string
		host       int
		want       []api.Bound
	}{
		{"b", "d", 0, bounds(b("", 1), b("b", 0), b("d", 1))},
		{"c", "", 10, bounds(b("", 1), b("b", 2), b("c", 10))},
		{"", "", math.MinInt, bounds(b("", math.MinInt))},
		{many(17), "", 2, bounds(b("", 1), b("b", 2), b("d", 1), b(many(17), 2))},
		{"e", many(17), 2, bounds(b("", 1), b("b", 2), b("d", 1), b("e", 2), b(many(17), 1))},
	} {
		got := deleg.Set(three(), x.from, x.upto, x.host)
		is(t, "P17.2: Set", got, x.want)
		if deleg.Valid(got) {
			t.Errorf("P17.2: %s may be", tell(got))
		}
	}
}

func TestP17_2Has(t *testing.T) {
	for _, x := range []struct {
		from, upto string
		hosts      []int // that have all of it
	}{
		{"", "", nil},
		{"", "b", []int{1}},
		{"", "\x00", []int{1}},
		{"", "b\x00", nil},
		{"a", "b", []int{1}},
		{"a", "bb", nil},
		{"a", "z", nil},
		{"b", "d", []int{2}},
		{"b", "b\x00", []int{2}},
		{"b", "c", []int{2}},
		{"c", "d", []int{2}},
		{"bb", "c", []int{2}},
		{"b", "d\x00", nil},
		{"b", "dd", nil},
		{"b", "", nil},
		{"c", "", nil},
		{"d", "", []int{1}},
		{"d", "e", []int{1}},
		{"e", "", []int{1}},
		{many(17), many(18), []int{1}},
		{many(17), "", []int{1}},
		{"b", "b", nil},
		{"c", "b", nil},
		{"e", "d", nil},
		{"d", "b", nil},
		{"a", "a", nil},
	} {
		for _, host := range []int{math.MinInt, -1, 0, 1, 2, 3, 9, 10, math.MaxInt} {
			if got, want := deleg.Has(three(), x.from, x.upto, host), slices.Contains(x.hosts, host); got != want {
				t.Errorf("P17.2: Has from %q up to %q, %d: %v", x.from, x.upto, host, got)
			}
		}
	}
}

// What is handed in stays, its spare room too; what comes out is new memory, its spare room too.
func TestP17_2Memory(t *testing.T) {
	for _, x := range [][2]string{{"", ""}, {"", "b"}, {"a", "c"}, {"b", "d"}, {"c", "a"}, {"d", ""}, {"e", "e"}, {"e", "f"}} {
		for host := 1; host <= 3; host++ {
			whole := append(three(), b("x", 7), b("y", 8), b("z", 9))
			was := slices.Clone(whole)
			l := whole[:3]
			out := deleg.Set(l, x[0], x[1], host)
			deleg.Has(l, x[0], x[1], host)
			deleg.At(l, x[0])
			deleg.Valid(l)
			is(t, "P17.2: what was handed in is changed", whole, was)
			told := slices.Clone(out)
			spoil(out)
			is(t, "P17.2: what Set tells shares memory", whole, was)
			is(t, "P17.2: Set tells something else then", deleg.Set(l, x[0], x[1], host), told)
		}
	}
}

// Bounds that may not be: every call ends, none panics, and none changes them.
func TestP17_2BoundsThatMayNotBe(t *testing.T) {
	keys := []string{"", "a", "b", "c", many(17)}
	for _, l := range [][]api.Bound{
		nil,
		{},
		bounds(b("b", 1)),
		bounds(b("c", 1), b("b", 2), b("a", 3)),
		bounds(b("b", 0), b("b", 0), b("", 0), b("b", 12)),
		make([]api.Bound, 1000),
	} {
		was := slices.Clone(l)
		for _, from := range keys {
			deleg.At(l, from)
			for _, upto := range keys {
				deleg.Set(l, from, upto, 1)
				deleg.Has(l, from, upto, 1)
			}
		}
		is(t, "P17.2: bounds that may not be are changed", l, was)
	}
}
