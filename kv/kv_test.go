package kv_test

import (
	"fmt"
	"math"
	"strings"
	"testing"

	"quorate/api"
	"quorate/kv"
)

// many: a text of so many bytes.
func many(n int) string {
	return strings.Repeat("x", n)
}

// tell: a value, for a look; nil and empty lists are the same.
func tell(x any) string {
	return fmt.Sprintf("%+v", x)
}

// full: as many pairs as there may be.
func full() (l []api.Pair) {
	for i := range api.MaxPairs {
		l = append(l, api.Pair{Key: fmt.Sprintf("k%02d", i), Value: "v", Version: i + 1})
	}
	return l
}

// abc: three pairs.
func abc() []api.Pair {
	return []api.Pair{{Key: "a", Value: "x", Version: 1}, {Key: "b", Value: "yz", Version: 7}, {Key: "c", Version: api.MaxNumber}}
}

// badPairs: lists that may not be.
func badPairs() map[string][]api.Pair {
	one := func(key, value string, version int) []api.Pair {
		return []api.Pair{{Key: key, Value: value, Version: version}}
	}
	two := func(a, b string) []api.Pair {
		return []api.Pair{{Key: a, Version: 1}, {Key: b, Version: 1}}
	}
	return map[string][]api.Pair{
		"one too many":        append(full(), api.Pair{Key: "z", Version: 1}),
		"far too many":        make([]api.Pair, 1000),
		"no key":              one("", "v", 1),
		"a long key":          one(many(api.MaxKey+1), "v", 1),
		"a long value":        one("k", many(api.MaxValue+1), 1),
		"version 0":           one("k", "v", 0),
		"a version below 0":   one("k", "v", -1),
		"the least version":   one("k", "v", math.MinInt),
		"a great version":     one("k", "v", api.MaxNumber+1),
		"the greatest":        one("k", "v", math.MaxInt),
		"keys that fall":      two("b", "a"),
		"a key twice":         two("a", "a"),
		"a longer key first":  two("aa", "a"),
		"bytes, not runes":    two("\x80", "\x7f"),
		"a fault at the end":  append(abc(), api.Pair{Key: "d"}),
		"a fall at the end":   append(abc(), api.Pair{Key: "bb", Version: 1}),
		"a fault at the head": append(one("a", "", 0), abc()[1:]...),
	}
}

// goodPairs: lists that may be.
func goodPairs() map[string][]api.Pair {
	return map[string][]api.Pair{
		"nil":             nil,
		"none":            {},
		"three":           abc(),
		"full":            full(),
		"the longest":     {{Key: many(api.MaxKey), Value: many(api.MaxValue), Version: api.MaxNumber}},
		"the shortest":    {{Key: "\x00", Version: 1}},
		"by bytes":        {{Key: "Z", Version: 1}, {Key: "a", Version: 1}, {Key: "a\x00", Version: 1}, {Key: "\x7f", Version: 1}, {Key: "\x80", Version: 1}},
		"no texts of utf": {{Key: "\xff", Value: "\xff\xfe", Version: 1}},
	}
}

func TestP3_1Valid(t *testing.T) {
	for name, l := range goodPairs() {
		if !kv.Valid(l) {
			t.Errorf("P3.1: %s: not Valid(%+v)", name, l)
		}
	}
	for name, l := range badPairs() {
		if kv.Valid(l) {
			t.Errorf("P3.1: %s: Valid(%+v)", name, l)
		}
	}
}

// badCommands: that may not be.
func badCommands() []api.Command {
	l := []api.Command{
		{},
		{Key: "b"},
		{Kind: 7, Key: "b"},
		{Kind: -1, Key: "b"},
		{Kind: math.MaxInt, Key: "b"},
		{Kind: math.MinInt, Key: "b"},
		{Kind: api.Put, Key: "b", If: 7},
		{Kind: api.Append, Key: "b", If: 7},
		{Kind: api.Get, Key: "b", If: 7},
		{Kind: api.Delete, Key: "b", If: 7},
		{Kind: api.Get, Key: "b", Value: "v"},
		{Kind: api.Delete, Key: "b", Value: "v"},
		{Kind: api.List, Key: "b", Value: "v"},
		{Kind: api.List, Key: many(api.MaxKey + 1)},
	}
	for kind := api.Put; kind <= api.Append; kind++ {
		l = append(l, api.Command{Kind: kind}, api.Command{Kind: kind, Key: many(api.MaxKey + 1)})
	}
	for _, kind := range []int{api.Put, api.Swap, api.Append} {
		l = append(l, api.Command{Kind: kind, Key: "b", Value: many(api.MaxValue + 1)})
	}
	for _, n := range []int{-1, math.MinInt, api.MaxNumber + 1, math.MaxInt} {
		l = append(l, api.Command{Kind: api.Swap, Key: "b", If: n}, api.Command{Kind: api.List, If: n})
	}
	return l
}

func TestP3_2BadCommands(t *testing.T) {
	for _, c := range badCommands() {
		for name, l := range goodPairs() {
			leaves(t, name, l, c, api.Result{Kind: api.Bad})
		}
	}
}

func TestP3_2BadPairs(t *testing.T) {
	commands := []api.Command{
		{Kind: api.Put, Key: "b", Value: "w"},
		{Kind: api.Get, Key: "a"},
		{Kind: api.Delete, Key: "a"},
		{Kind: api.Swap, Key: "b", If: 7},
		{Kind: api.Append, Key: "q", Value: "w"},
		{Kind: api.List},
		{Kind: 9},
	}
	for name, l := range badPairs() {
		for _, c := range commands {
			leaves(t, name, l, c, api.Result{Kind: api.Bad})
		}
	}
}

// does: on pairs a command makes these, with that result; what was handed in stays.
func does(t *testing.T, name string, l []api.Pair, c api.Command, want []api.Pair, result api.Result) {
	t.Helper()
	before := tell(l)
	m, r := kv.Apply(l, c)
	if tell(m) != tell(want) || tell(r) != tell(result) {
		t.Errorf("P3.2: %s: %.200s: %.200s, %+v; want %.200s, %+v", name, tell(c), tell(m), r, tell(want), result)
	}
	if tell(l) != before {
		t.Errorf("P3.2: %s: %.200s has changed what was handed in: %.300s", name, tell(c), tell(l))
	}
}

// leaves: a command changes nothing, and has that result.
func leaves(t *testing.T, name string, l []api.Pair, c api.Command, result api.Result) {
	t.Helper()
	does(t, name, l, c, l, result)
}

// with: pairs, but for the one at a place.
func with(l []api.Pair, at int, p api.Pair) []api.Pair {
	m := append([]api.Pair(nil), l...)
	m[at] = p
	return m
}

func TestP3_2Examples(t *testing.T) {
	var l []api.Pair
	for _, x := range []struct {
		c      api.Command
		result api.Result
		pairs  string
	}{
		{api.Command{Kind: api.Append, Key: "k", Value: "v"}, api.Result{Kind: 1, Version: 1}, "[{Key:k Value:v Version:1}]"},
		{api.Command{Kind: api.Swap, Key: "k", Value: "w", If: 1}, api.Result{Kind: 1, Version: 2}, "[{Key:k Value:w Version:2}]"},
		{api.Command{Kind: api.Swap, Key: "k", Value: "x", If: 0}, api.Result{Kind: 3, Value: "w", Version: 2}, "[{Key:k Value:w Version:2}]"},
		{api.Command{Kind: api.List}, api.Result{Kind: 1, Keys: []string{"k"}}, "[{Key:k Value:w Version:2}]"},
		{api.Command{Kind: api.Get, Key: "k"}, api.Result{Kind: 1, Value: "w", Version: 2}, "[{Key:k Value:w Version:2}]"},
		{api.Command{Kind: api.Delete, Key: "k"}, api.Result{Kind: 1, Version: 2}, "[]"},
		{api.Command{Kind: api.Get, Key: "k"}, api.Result{Kind: 2}, "[]"},
		{api.Command{Kind: api.Put, Key: "k", Value: "v"}, api.Result{Kind: 1, Version: 1}, "[{Key:k Value:v Version:1}]"},
	} {
		m, r := kv.Apply(l, x.c)
		if tell(m) != x.pairs || tell(r) != tell(x.result) {
			t.Errorf("P3.2: %+v: %+v, %+v; want %s, %+v", x.c, m, r, x.pairs, x.result)
		}
		l = m
	}
}

func TestP3_2Put(t *testing.T) {
	l := abc()
	does(t, "there", l, api.Command{Kind: api.Put, Key: "a", Value: "w"}, with(l, 0, api.Pair{Key: "a", Value: "w", Version: 2}), api.Result{Kind: api.Done, Version: 2})
	does(t, "the same value", l, api.Command{Kind: api.Put, Key: "a", Value: "x"}, with(l, 0, api.Pair{Key: "a", Value: "x", Version: 2}), api.Result{Kind: api.Done, Version: 2})
	does(t, "no value", l, api.Command{Kind: api.Put, Key: "b"}, with(l, 1, api.Pair{Key: "b", Version: 8}), api.Result{Kind: api.Done, Version: 8})
	for at, key := range []string{"A", "aa", "b\x00", "\xff"} {
		p := api.Pair{Key: key, Value: many(api.MaxValue), Version: 1}
		want := append(append(append([]api.Pair(nil), l[:at]...), p), l[at:]...)
		does(t, "a new key", l, api.Command{Kind: api.Put, Key: key, Value: p.Value}, want, api.Result{Kind: api.Done, Version: 1})
	}
	does(t, "of nothing", nil, api.Command{Kind: api.Put, Key: "a"}, []api.Pair{{Key: "a", Version: 1}}, api.Result{Kind: api.Done, Version: 1})
	leaves(t, "the last version", l, api.Command{Kind: api.Put, Key: "c", Value: "w"}, api.Result{Kind: api.Full})
	l[0].Version = api.MaxNumber - 1
	does(t, "the last but one", l, api.Command{Kind: api.Put, Key: "a"}, with(l, 0, api.Pair{Key: "a", Version: api.MaxNumber}), api.Result{Kind: api.Done, Version: api.MaxNumber})
}

func TestP3_2FullOfPairs(t *testing.T) {
	l := full()
	for _, kind := range []int{api.Put, api.Swap, api.Append} {
		for _, key := range []string{"a", "k00a", "z"} {
			leaves(t, "full", l, api.Command{Kind: kind, Key: key, Value: "w"}, api.Result{Kind: api.Full})
		}
	}
	leaves(t, "full", l, api.Command{Kind: api.Swap, Key: "z", If: 1}, api.Result{Kind: api.Missing})
	does(t, "full, there", l, api.Command{Kind: api.Put, Key: "k31", Value: "w"}, with(l, 31, api.Pair{Key: "k31", Value: "w", Version: 33}), api.Result{Kind: api.Done, Version: 33})
	does(t, "full, there", l, api.Command{Kind: api.Append, Key: "k00", Value: "w"}, with(l, 0, api.Pair{Key: "k00", Value: "vw", Version: 2}), api.Result{Kind: api.Done, Version: 2})
	does(t, "full, there", l, api.Command{Kind: api.Swap, Key: "k07", Value: "w", If: 8}, with(l, 7, api.Pair{Key: "k07", Value: "w", Version: 9}), api.Result{Kind: api.Done, Version: 9})
	last := append(append([]api.Pair(nil), l[:31]...), api.Pair{Key: "z", Version: 1})
	does(t, "all but one", l[:31], api.Command{Kind: api.Put, Key: "z"}, last, api.Result{Kind: api.Done, Version: 1})
}

func TestP3_2Get(t *testing.T) {
	l := abc()
	leaves(t, "there", l, api.Command{Kind: api.Get, Key: "b"}, api.Result{Kind: api.Done, Value: "yz", Version: 7})
	leaves(t, "there", l, api.Command{Kind: api.Get, Key: "c"}, api.Result{Kind: api.Done, Version: api.MaxNumber})
	for _, key := range []string{"A", "aa", "bb", "d", many(api.MaxKey)} {
		leaves(t, "not there", l, api.Command{Kind: api.Get, Key: key}, api.Result{Kind: api.Missing})
	}
	leaves(t, "nothing", nil, api.Command{Kind: api.Get, Key: "a"}, api.Result{Kind: api.Missing})
	leaves(t, "full", full(), api.Command{Kind: api.Get, Key: "k31"}, api.Result{Kind: api.Done, Value: "v", Version: 32})
}

func TestP3_2Delete(t *testing.T) {
	l := abc()
	does(t, "the first", l, api.Command{Kind: api.Delete, Key: "a"}, l[1:], api.Result{Kind: api.Done, Version: 1})
	does(t, "the second", l, api.Command{Kind: api.Delete, Key: "b"}, []api.Pair{l[0], l[2]}, api.Result{Kind: api.Done, Version: 7})
	does(t, "the last", l, api.Command{Kind: api.Delete, Key: "c"}, l[:2], api.Result{Kind: api.Done, Version: api.MaxNumber})
	does(t, "the only one", l[:1], api.Command{Kind: api.Delete, Key: "a"}, nil, api.Result{Kind: api.Done, Version: 1})
	for _, key := range []string{"A", "aa", "bb", "d"} {
		leaves(t, "not there", l, api.Command{Kind: api.Delete, Key: key}, api.Result{Kind: api.Missing})
	}
	leaves(t, "nothing", nil, api.Command{Kind: api.Delete, Key: "a"}, api.Result{Kind: api.Missing})
}

func TestP3_2Swap(t *testing.T) {
	l := abc()
	does(t, "equal", l, api.Command{Kind: api.Swap, Key: "b", Value: "w", If: 7}, with(l, 1, api.Pair{Key: "b", Value: "w", Version: 8}), api.Result{Kind: api.Done, Version: 8})
	for _, n := range []int{0, 1, 6, 8, api.MaxNumber} {
		leaves(t, "unequal", l, api.Command{Kind: api.Swap, Key: "b", Value: "w", If: n}, api.Result{Kind: api.Unequal, Value: "yz", Version: 7})
	}
	leaves(t, "must not be there", l, api.Command{Kind: api.Swap, Key: "a", Value: "w"}, api.Result{Kind: api.Unequal, Value: "x", Version: 1})
	leaves(t, "the last version", l, api.Command{Kind: api.Swap, Key: "c", Value: "w", If: api.MaxNumber}, api.Result{Kind: api.Full})
	leaves(t, "unequal, the last version", l, api.Command{Kind: api.Swap, Key: "c", Value: "w", If: 1}, api.Result{Kind: api.Unequal, Version: api.MaxNumber})
	for _, n := range []int{1, 2, api.MaxNumber} {
		leaves(t, "not there", l, api.Command{Kind: api.Swap, Key: "d", Value: "w", If: n}, api.Result{Kind: api.Missing})
	}
	p := api.Pair{Key: "d", Value: many(api.MaxValue), Version: 1}
	does(t, "not there, If 0", l, api.Command{Kind: api.Swap, Key: "d", Value: p.Value}, append(abc(), p), api.Result{Kind: api.Done, Version: 1})
}

func TestP3_2Append(t *testing.T) {
	l := abc()
	does(t, "there", l, api.Command{Kind: api.Append, Key: "b", Value: "w"}, with(l, 1, api.Pair{Key: "b", Value: "yzw", Version: 8}), api.Result{Kind: api.Done, Version: 8})
	does(t, "no value", l, api.Command{Kind: api.Append, Key: "b"}, with(l, 1, api.Pair{Key: "b", Value: "yz", Version: 8}), api.Result{Kind: api.Done, Version: 8})
	does(t, "not there", l, api.Command{Kind: api.Append, Key: "d", Value: "w"}, append(abc(), api.Pair{Key: "d", Value: "w", Version: 1}), api.Result{Kind: api.Done, Version: 1})
	does(t, "not there, no value", nil, api.Command{Kind: api.Append, Key: "d"}, []api.Pair{{Key: "d", Version: 1}}, api.Result{Kind: api.Done, Version: 1})
	does(t, "just as much", l, api.Command{Kind: api.Append, Key: "b", Value: many(62)}, with(l, 1, api.Pair{Key: "b", Value: "yz" + many(62), Version: 8}), api.Result{Kind: api.Done, Version: 8})
	leaves(t, "a byte more", l, api.Command{Kind: api.Append, Key: "b", Value: many(63)}, api.Result{Kind: api.Full})
	leaves(t, "far more", l, api.Command{Kind: api.Append, Key: "b", Value: many(64)}, api.Result{Kind: api.Full})
	leaves(t, "the last version", l, api.Command{Kind: api.Append, Key: "c"}, api.Result{Kind: api.Full})
}

func TestP3_2List(t *testing.T) {
	var l []api.Pair
	for i, key := range []string{"a", "ab", "aba", "abb", "b", "ba", "\xff", "\xff\xff"} {
		l = append(l, api.Pair{Key: key, Value: "v", Version: i + 1})
	}
	for _, x := range []struct {
		key  string
		most int
		keys []string
	}{
		{"", 0, []string{"a", "ab", "aba", "abb", "b", "ba", "\xff", "\xff\xff"}},
		{"", 1, []string{"a"}},
		{"", 7, []string{"a", "ab", "aba", "abb", "b", "ba", "\xff"}},
		{"", 8, []string{"a", "ab", "aba", "abb", "b", "ba", "\xff", "\xff\xff"}},
		{"", 9, []string{"a", "ab", "aba", "abb", "b", "ba", "\xff", "\xff\xff"}},
		{"", api.MaxNumber, []string{"a", "ab", "aba", "abb", "b", "ba", "\xff", "\xff\xff"}},
		{"a", 0, []string{"a", "ab", "aba", "abb"}},
		{"a", 3, []string{"a", "ab", "aba"}},
		{"a", 4, []string{"a", "ab", "aba", "abb"}},
		{"a", 5, []string{"a", "ab", "aba", "abb"}},
		{"ab", 0, []string{"ab", "aba", "abb"}},
		{"ab", 1, []string{"ab"}},
		{"abb", 0, []string{"abb"}},
		{"abc", 0, nil},
		{"aa", 0, nil},
		{"aa", 1, nil},
		{"b", 0, []string{"b", "ba"}},
		{"\xff", 0, []string{"\xff", "\xff\xff"}},
		{"\xff\xff\xff", 0, nil},
		{"A", 2, nil},
		{many(api.MaxKey), 0, nil},
	} {
		leaves(t, "eight", l, api.Command{Kind: api.List, Key: x.key, If: x.most}, api.Result{Kind: api.Done, Keys: x.keys})
	}
	for _, most := range []int{0, 1, 2} {
		leaves(t, "nothing", nil, api.Command{Kind: api.List, If: most}, api.Result{Kind: api.Done})
		leaves(t, "nothing", nil, api.Command{Kind: api.List, Key: "a", If: most}, api.Result{Kind: api.Done})
	}
	if _, r := kv.Apply(full(), api.Command{Kind: api.List}); len(r.Keys) != api.MaxPairs || r.Keys[31] != "k31" {
		t.Errorf("P3.2: a list of all: %+v", r)
	}
}
