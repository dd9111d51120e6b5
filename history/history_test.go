package history_test

import (
	"math"
	"slices"
	"strings"
	"testing"

	"quorate/api"
	"quorate/history"
)

// good: histories.
func good() map[string][]api.Call {
	noise := call(1, 2, get("k"), api.Result{Kind: -1, Value: strings.Repeat("v", 99), Version: -1, Keys: []string{"b", "a", strings.Repeat("k", 99)}})
	noise.Client, noise.Number, noise.Err = -1, math.MinInt, api.Errno(99)
	return map[string][]api.Call{
		"nil":                     nil,
		"none":                    {},
		"one":                     {call(1, 2, put("k", "v"), did(1))},
		"not answered":            {lost(1, put("k", "v"))},
		"as many as may be":       many(api.MaxCalls, call(1, 2, get("k"), missing())),
		"far":                     {call(api.MaxNumber, api.MaxNumber+1, get("k"), missing())},
		"the farthest":            {call(math.MaxInt-1, math.MaxInt, get("k"), missing())},
		"the farthest, lost":      {lost(math.MaxInt, get("k"))},
		"long":                    {call(1, math.MaxInt, get("k"), missing())},
		"backwards":               {call(8, 9, get("k"), missing()), call(1, 2, get("k"), missing())},
		"what says nothing":       {noise},
		"all kinds":               {lost(1, put("k", "")), lost(1, get("k")), lost(1, drop("k")), lost(1, swap("k", "", 0)), lost(1, add("k", "")), lost(1, list("", 0))},
		"the longest":             {lost(1, put(strings.Repeat("k", api.MaxKey), strings.Repeat("v", api.MaxValue)))},
		"the greatest number":     {lost(1, swap("k", "", api.MaxNumber)), lost(1, list("", api.MaxNumber))},
		"answered without result": {call(1, 2, get("k"), api.Result{})},
	}
}

// bad: calls that are none.
func bad() map[string][]api.Call {
	one := func(from, to int) []api.Call {
		return []api.Call{call(from, to, get("k"), missing())}
	}
	of := func(c api.Command) []api.Call {
		return []api.Call{lost(1, c)}
	}
	well := call(1, 2, get("k"), missing())
	return map[string][]api.Call{
		"one too many":               many(api.MaxCalls+1, well),
		"far too many":               many(1000, well),
		"from 0":                     one(0, 2),
		"from 0, lost":               one(0, 0),
		"from below 0":               one(-1, 2),
		"from below 0, lost":         one(-1, 0),
		"from the least":             one(math.MinInt, 1),
		"at once":                    one(3, 3),
		"ahead of the question":      one(3, 2),
		"to below 0":                 one(1, -1),
		"to the least":               one(1, math.MinInt),
		"both below 0":               one(-3, -2),
		"the farthest, at once":      one(math.MaxInt, math.MaxInt),
		"no command":                 of(api.Command{}),
		"a kind below":               of(api.Command{Kind: -1, Key: "k"}),
		"a kind above":               of(api.Command{Kind: api.List + 1, Key: "k"}),
		"no key":                     of(put("", "v")),
		"a long key":                 of(get(strings.Repeat("k", api.MaxKey+1))),
		"a long value":               of(put("k", strings.Repeat("v", api.MaxValue+1))),
		"a Get with a value":         of(api.Command{Kind: api.Get, Key: "k", Value: "v"}),
		"a Delete with a value":      of(api.Command{Kind: api.Delete, Key: "k", Value: "v"}),
		"a List with a value":        of(api.Command{Kind: api.List, Key: "k", Value: "v"}),
		"a Put with a version":       of(api.Command{Kind: api.Put, Key: "k", If: 1}),
		"a Swap of less than 0":      of(swap("k", "v", -1)),
		"a Swap of too much":         of(swap("k", "v", api.MaxNumber+1)),
		"a List of less than 0":      of(list("", -1)),
		"a List of the greatest":     of(list("", math.MaxInt)),
		"a fault at the head":        {lost(0, get("k")), well, well},
		"a fault in the midst":       {well, lost(1, get("")), well},
		"a fault at the end":         {well, well, call(2, 2, get("k"), missing())},
		"a fault that was answered":  {call(1, 2, api.Command{}, api.Result{Kind: api.Bad})},
		"a fault where none is done": {lost(1, get("k")), lost(1, get(""))},
	}
}

func TestP11_1Histories(t *testing.T) {
	for name, l := range good() {
		if !history.Valid(l) {
			t.Errorf("P11.1: %s: not Valid(%+v)", name, l)
		}
		if _, _, e := history.Check(l); e != api.OK {
			t.Errorf("P11.2: %s: Check(%+v): %v", name, l, e)
		}
	}
	for name, l := range bad() {
		if history.Valid(l) {
			t.Errorf("P11.1: %s: Valid(%+v)", name, l)
		}
		if got := found(l); got != "error 19 [] false" {
			t.Errorf("P11.2: %s: %+v: %s; want ErrHistory, and nothing else", name, l, got)
		}
	}
}

func TestP11_2TheExampleOfTheWhole(t *testing.T) {
	x := call(1, 4, put("a", "x"), did(1))
	finds(t, "9", []api.Call{x, call(2, 3, get("a"), missing())}, "[1 0]")
	finds(t, "9, later", []api.Call{x, call(5, 6, get("a"), missing())}, none)
}

func TestP11_2WhoStandsAhead(t *testing.T) {
	a, b := put("k", "a"), put("k", "b")
	finds(t, "nothing", nil, "[]")
	finds(t, "one behind the other", []api.Call{call(1, 2, a, did(1)), call(3, 4, get("k"), has("a", 1))}, "[0 1]")
	finds(t, "told backwards", []api.Call{call(3, 4, get("k"), has("a", 1)), call(1, 2, a, did(1))}, "[1 0]")
	finds(t, "seen ahead of its question", []api.Call{call(1, 2, get("k"), has("a", 1)), call(3, 4, a, did(1))}, none)
	finds(t, "not seen behind its answer", []api.Call{call(1, 2, a, did(1)), call(3, 4, get("k"), missing())}, none)
	finds(t, "an answer and a question at one step", []api.Call{call(1, 3, a, did(1)), call(3, 4, get("k"), missing())}, "[1 0]")
	finds(t, "a question at the step behind", []api.Call{call(1, 2, a, did(1)), call(3, 4, get("k"), missing())}, none)
	finds(t, "at once, at the farthest", []api.Call{call(1, math.MaxInt-1, a, did(1)), call(math.MaxInt-1, math.MaxInt, get("k"), missing())}, "[1 0]")
	finds(t, "one within another", []api.Call{call(1, 9, get("k"), has("a", 1)), call(3, 4, a, did(1))}, "[1 0]")
	finds(t, "old, then new", []api.Call{call(1, 9, a, did(1)), call(2, 3, get("k"), missing()), call(4, 5, get("k"), has("a", 1))}, "[1 0 2]")
	finds(t, "new, then old", []api.Call{call(1, 9, a, did(1)), call(2, 3, get("k"), has("a", 1)), call(4, 5, get("k"), missing())}, none)
	finds(t, "a value that was put over", []api.Call{call(1, 2, a, did(1)), call(3, 4, b, did(2)), call(5, 6, get("k"), has("a", 1))}, none)
	finds(t, "a value that may not be put over yet", []api.Call{call(1, 2, a, did(1)), call(3, 7, b, did(2)), call(4, 5, get("k"), has("a", 1))}, "[0 2 1]")
	finds(t, "two see two orders", []api.Call{
		call(1, 9, put("a", "x"), did(1)), call(1, 9, put("b", "y"), did(1)),
		call(2, 3, get("a"), has("x", 1)), call(4, 5, get("b"), missing()),
		call(2, 3, get("b"), has("y", 1)), call(4, 5, get("a"), missing()),
	}, none)
	finds(t, "two see one order", []api.Call{
		call(1, 9, put("a", "x"), did(1)), call(1, 9, put("b", "y"), did(1)),
		call(2, 3, get("a"), has("x", 1)), call(4, 5, get("b"), missing()),
		call(2, 3, get("b"), missing()), call(4, 5, get("a"), has("x", 1)),
	}, "[0 2 4 3 1 5]")
}

func TestP11_2TheFirstThatIsFound(t *testing.T) {
	miss := call(1, 9, get("k"), missing())
	finds(t, "the least numbers first", many(4, miss), "[0 1 2 3]")
	finds(t, "not the first questions first", []api.Call{call(5, 9, get("k"), missing()), call(1, 9, get("k"), missing())}, "[0 1]")
	finds(t, "as far as they may", []api.Call{call(5, 9, get("k"), missing()), call(1, 2, get("k"), missing()), call(3, 6, get("k"), missing())}, "[1 0 2]")
	finds(t, "it comes back", []api.Call{
		call(1, 9, put("k", "a"), did(1)), call(1, 9, drop("k"), did(1)), call(1, 9, put("k", "a"), did(1)), call(1, 9, get("k"), missing()),
	}, "[0 1 3 2]")
	finds(t, "it comes back from far", []api.Call{
		call(1, 99, put("a", "x"), did(1)), call(1, 99, put("b", "x"), did(1)), call(1, 99, put("c", "x"), did(1)),
		call(1, 99, get("c"), missing()), call(1, 99, get("a"), missing()), call(1, 99, get("b"), has("x", 1)),
	}, "[1 3 2 4 0 5]")
	finds(t, "not the shortest", []api.Call{lost(1, put("j", "z")), call(1, 2, get("k"), missing())}, "[0 1]")
}

func TestP11_2WhatWasNotAnswered(t *testing.T) {
	z, a := lost(1, put("k", "z")), put("k", "a")
	finds(t, "nothing was", []api.Call{z, z, z}, "[]")
	finds(t, "it may have been done", []api.Call{z, call(2, 3, a, did(2))}, "[0 1]")
	finds(t, "it may not have been done", []api.Call{z, call(2, 3, a, did(1))}, "[1]")
	finds(t, "it may be done late", []api.Call{z, call(2, 3, a, did(1)), call(4, 5, get("k"), has("z", 2))}, "[1 0 2]")
	finds(t, "it is done once", []api.Call{z, call(2, 3, get("k"), has("z", 2))}, none)
	finds(t, "twice, if it was asked twice", []api.Call{z, z, call(2, 3, get("k"), has("z", 2))}, "[0 1 2]")
	finds(t, "nothing is done behind the last that was answered", []api.Call{call(2, 3, a, did(1)), z}, "[0]")
	finds(t, "but ahead of it", []api.Call{call(2, 3, a, did(1)), z, call(2, 3, get("k"), has("a", 1))}, "[0 2]")
	finds(t, "not ahead of its question", []api.Call{lost(4, put("k", "z")), call(2, 3, get("k"), has("z", 1))}, none)
	finds(t, "at the step of its question", []api.Call{lost(3, put("k", "z")), call(2, 3, get("k"), has("z", 1))}, "[0 1]")
	finds(t, "behind what was answered when it began", []api.Call{lost(4, put("k", "z")), call(2, 3, get("k"), missing()), call(2, 9, get("k"), has("z", 1))}, "[1 0 2]")
	finds(t, "it is in nobody's way", []api.Call{lost(1, put("k", "z")), lost(1, get("k")), call(8, 9, get("k"), missing())}, "[1 2]")
	finds(t, "what it was answered does not count", []api.Call{{From: 1, Command: put("k", "z"), Result: full()}, call(2, 3, get("k"), has("z", 1))}, "[0 1]")
	finds(t, "one that changes nothing is done where it is tried", []api.Call{lost(1, get("k")), call(1, 2, a, did(1)), lost(1, drop("j")), call(3, 4, get("k"), has("a", 1))}, "[0 1 2 3]")
	finds(t, "a List too", []api.Call{lost(1, list("", 0)), call(1, 2, a, did(1)), lost(2, list("k", 1)), call(3, 4, get("k"), has("a", 1))}, "[0 1 2 3]")
}

func TestP11_2WhatSaysNothing(t *testing.T) {
	l := []api.Call{call(1, 2, put("k", "a"), did(1)), call(1, 2, put("k", "b"), did(2)), call(3, 4, get("k"), has("b", 2))}
	for i := range l {
		l[i].Client, l[i].Number, l[i].Err = 7, 3-i, api.Errno(i*i-1)
	}
	finds(t, "clients, numbers and errors", l, "[0 1 2]")
	refused := call(1, 2, put("k", "a"), api.Result{})
	refused.Err = api.ErrLeader
	finds(t, "one that was refused was answered all the same", []api.Call{refused}, none)
}

// whole: a history with results of all kinds, one behind the other.
func whole() (l []api.Call) {
	long := strings.Repeat("x", api.MaxValue-2)
	for i, x := range []struct {
		c api.Command
		r api.Result
	}{
		{get("b"), missing()}, {drop("b"), missing()}, {swap("b", "u", 1), missing()}, {swap("b", "u", 0), did(1)},
		{add("b", "vw"), did(2)}, {get("b"), has("uvw", 2)}, {swap("b", "y", 1), unequal("uvw", 2)}, {swap("b", "y", 2), did(3)},
		{add("b", long), did(4)}, {add("b", "zz"), full()}, {add("a", "z"), did(1)}, {list("", 0), keys("a", "b")},
		{list("", 1), keys("a")}, {list("b", 0), keys("b")}, {list("c", 0), keys()}, {drop("b"), did(4)},
	} {
		l = append(l, call(2*i+1, 2*i+2, x.c, x.r))
	}
	return l
}

func TestP11_2FieldByField(t *testing.T) {
	finds(t, "all kinds", whole(), "[0 1 2 3 4 5 6 7 8 9 10 11 12 13 14 15]")
	for name, spoil := range map[string]func(r *api.Result){
		"another kind":    func(r *api.Result) { r.Kind++ },
		"no kind":         func(r *api.Result) { r.Kind = 0 },
		"another value":   func(r *api.Result) { r.Value += "x" },
		"another version": func(r *api.Result) { r.Version++ },
		"a version less":  func(r *api.Result) { r.Version-- },
		"a key more":      func(r *api.Result) { r.Keys = append(r.Keys, "z") },
		"an empty key":    func(r *api.Result) { r.Keys = append(r.Keys, "") },
		"the first key":   func(r *api.Result) { r.Keys = append([]string{"A"}, r.Keys[min(1, len(r.Keys)):]...) },
	} {
		for i := range whole() {
			l := whole()
			spoil(&l[i].Result)
			finds(t, name, l, none)
		}
	}
	for name, r := range map[string]api.Result{"a value less": {Kind: api.Done, Version: 2}, "a value cut": has("uv", 2), "its beginning": has("u", 2)} {
		l := whole()
		l[5].Result = r
		finds(t, name, l, none)
	}
	for name, k := range map[string][]string{"a key less": {"a"}, "no keys": nil, "turned round": {"b", "a"}, "a key twice": {"a", "b", "b"}} {
		l := whole()
		l[11].Result.Keys = k
		finds(t, name, l, none)
	}
	l := whole()
	l[14].Result.Keys = []string{}
	finds(t, "no keys, in a list that is there", l, "[0 1 2 3 4 5 6 7 8 9 10 11 12 13 14 15]")
}

// A List tells of keys together, whose calls are in no other way bound together.
func TestP11_2Lists(t *testing.T) {
	a, ab, b := lost(1, put("a", "x")), lost(1, put("ab", "x")), lost(1, put("b", "x"))
	finds(t, "some are there", []api.Call{a, ab, b, call(2, 3, list("", 0), keys("a", "b"))}, "[0 2 3]")
	finds(t, "of those that begin so", []api.Call{a, ab, b, call(2, 3, list("a", 0), keys("ab"))}, "[1 2 3]")
	finds(t, "so many", []api.Call{a, ab, b, call(2, 3, list("", 2), keys("ab", "b"))}, "[1 2 3]")
	finds(t, "the key itself", []api.Call{a, ab, call(2, 3, list("ab", 0), keys("ab"))}, "[0 1 2]")
	finds(t, "one that is wider binds two", []api.Call{
		call(1, 9, put("ab", "x"), did(1)), call(1, 9, put("ac", "x"), did(1)),
		call(2, 3, list("ab", 0), keys()), call(4, 5, list("a", 0), keys("ac")), call(6, 7, list("ac", 0), keys("ac")),
	}, "[1 2 3 0 4]")
	finds(t, "two see two orders", []api.Call{
		call(1, 9, put("a", "x"), did(1)), call(1, 9, put("b", "x"), did(1)),
		call(1, 9, list("", 0), keys("a")), call(1, 9, list("", 0), keys("b")),
	}, none)
	finds(t, "each key alone could be so", []api.Call{
		call(1, 9, put("a", "x"), did(1)), call(1, 9, put("b", "x"), did(1)), call(1, 9, list("", 0), keys("a")), call(1, 9, list("", 1), keys("b")),
	}, none)
	finds(t, "which keys are there, not how many", []api.Call{
		b, lost(1, drop("a")), call(1, 9, list("", 0), keys("a")), call(1, 9, put("a", "x"), did(1)), b, lost(1, drop("b")),
	}, "[0 1 3 4 5 2]")
	finds(t, "one that comes and goes", []api.Call{
		call(1, 9, drop("a"), did(1)), call(1, 9, put("b", "x"), did(1)), call(1, 9, put("a", "x"), did(1)), call(1, 9, list("", 0), keys("b")), call(1, 9, list("", 0), keys("a", "b")),
	}, "[1 2 4 0 3]")
}

// Values that grow too long.
func TestP11_2NoRoom(t *testing.T) {
	long, rest := strings.Repeat("x", api.MaxValue-1), lost(1, add("k", "yy"))
	finds(t, "what is full stays", []api.Call{rest, call(1, 9, add("k", long), full()), lost(1, add("k", "z"))}, "[0 1]")
	finds(t, "just so many", []api.Call{lost(1, add("k", long)), lost(1, add("k", "y")), call(9, 10, get("k"), has(long+"y", 2))}, "[0 1 2]")
	finds(t, "one byte too many", []api.Call{lost(1, add("k", long)), lost(1, add("k", "y")), lost(1, add("k", "z")), call(9, 10, get("k"), has(long+"yz", 3))}, none)
	finds(t, "the length counts where the bytes do not", []api.Call{
		lost(1, put("k", "short")), lost(1, put("k", long)), call(1, 9, add("k", "yy"), did(3)), call(10, 11, get("k"), has("w", 4)), lost(1, put("k", "w")),
	}, "[1 0 2 4 3]")
}

// Sixteen calls that nobody can go through one by one: each is answered all the same.
func TestP11_2ItEnds(t *testing.T) {
	letter := func(i int) string { return string(rune('a' + i)) }
	for name, one := range map[string]func(i int) api.Command{
		"Puts of a key":           func(i int) api.Command { return put("k", letter(i)) },
		"Puts of many keys":       func(i int) api.Command { return put("k"+letter(i), "v") },
		"Appends":                 func(i int) api.Command { return add("k", letter(i)) },
		"Appends of many lengths": func(i int) api.Command { return add("k", strings.Repeat(letter(i), i+1)) },
		"Gets":                    func(i int) api.Command { return get("k") },
		"Lists":                   func(i int) api.Command { return list("k", i) },
		"Deletes":                 func(i int) api.Command { return drop("k" + letter(i)) },
		"Swaps":                   func(i int) api.Command { return swap("k", letter(i), i) },
		"Puts, Appends of keys": func(i int) api.Command {
			return []api.Command{put("k"+letter(i/5), letter(i)), add("k"+letter(i/5), letter(i))}[i%2]
		},
	} {
		var l []api.Call
		for i := range api.MaxCalls - 1 {
			l = append(l, lost(1, one(i)))
		}
		for what, last := range map[string]api.Call{
			"Get":  call(2, 3, get("k"), has("?", 17)),
			"List": call(2, 3, list("", 0), keys("?")),
		} {
			finds(t, name+", and a "+what, append(slices.Clone(l), last), none)
		}
	}
}

func TestP11_2ItEndsWithAnOrder(t *testing.T) {
	var l []api.Call
	value, want := "", []int{}
	for i := range api.MaxCalls - 1 {
		l = append(l, lost(1, add("k", string(rune('a'+i)))))
		value = string(rune('a'+i)) + value
		want = append([]int{i}, want...)
	}
	l = append(l, call(2, 3, get("k"), has(value, len(value))))
	order, ok, e := history.Check(l)
	if !ok || e != api.OK || !slices.Equal(order, append(want, api.MaxCalls-1)) {
		t.Errorf("P11.2: what stands turned round: %v, %v, %v", order, ok, e)
	}
}
