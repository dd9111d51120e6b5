package history_test

import (
	"fmt"
	"math/rand"
	"reflect"
	"strings"
	"testing"

	"quorate/api"
	"quorate/history"
	"quorate/kv"
)

// mustStandAhead: was one answered when the other began?
func mustStandAhead(a, b api.Call) bool {
	return a.To > 0 && a.To < b.From
}

// sameResult: field by field; nil and empty lists are the same.
func sameResult(a, b api.Result) bool {
	return fmt.Sprintf("%+v", a) == fmt.Sprintf("%+v", b)
}

// walk: the search told once more, in the document's words: no way is left out, and none is remembered.
func walk(l []api.Call, order []int, isDone []bool, pairs []api.Pair) ([]int, bool) {
	left := false
	for i, c := range l {
		left = left || c.To > 0 && !isDone[i]
	}
	if !left {
		return order, true
	}
	for i, c := range l {
		can := !isDone[i]
		for j, d := range l {
			can = can && (isDone[j] || !mustStandAhead(d, c))
		}
		next, r := kv.Apply(pairs, c.Command)
		if !can || c.To > 0 && !sameResult(r, c.Result) {
			continue
		}
		isDone[i] = true
		if o, ok := walk(l, append(order, i), isDone, next); ok {
			return o, true
		}
		isDone[i] = false
	}
	return nil, false
}

// someCommand: of chance, with few keys, one of which begins like another; and values that may grow too long.
func someCommand(r *rand.Rand) api.Command {
	key := []string{"a", "a", "ab", "b"}[r.Intn(4)]
	value := []string{"", "x", "y", "xy", strings.Repeat("x", 33), strings.Repeat("y", 33)}[r.Intn(6)]
	switch r.Intn(12) {
	case 0, 1:
		return put(key, value)
	case 2, 3, 4:
		return get(key)
	case 5:
		return drop(key)
	case 6, 7:
		return swap(key, value, r.Intn(3))
	case 8:
		return list([]string{"", "a", "ab", "c"}[r.Intn(4)], r.Intn(3))
	}
	return add(key, value)
}

// someCalls: they could have happened in some order; it is the one in which they are made.
func someCalls(r *rand.Rand, count int) (l []api.Call) {
	var pairs []api.Pair
	wide := 1 + r.Intn(60)
	for i := range count {
		c := someCommand(r)
		next, result := kv.Apply(pairs, c)
		x := call(max(1, 10*i+5-r.Intn(wide)), 10*i+6+r.Intn(wide), c, result)
		if r.Intn(4) == 0 {
			x.To, x.Result = 0, api.Result{}
			if r.Intn(2) == 0 {
				next = pairs
			}
		}
		l, pairs = append(l, x), next
	}
	r.Shuffle(len(l), func(i, j int) { l[i], l[j] = l[j], l[i] })
	return l
}

// spoil: something of a call is another.
func spoil(r *rand.Rand, l []api.Call) {
	x, other := &l[r.Intn(len(l))], l[r.Intn(len(l))]
	switch r.Intn(5) {
	case 0:
		x.Result.Version++
	case 1:
		x.Result.Value += "x"
	case 2:
		x.Result = other.Result
	case 3:
		x.Command = someCommand(r)
	default:
		x.From += 25
		if x.To > 0 {
			x.To += 25
		}
	}
}

func TestP11_2AsTheModel(t *testing.T) {
	met := map[string]int{}
	for seed := range 10000 {
		r := rand.New(rand.NewSource(int64(seed)))
		l := someCalls(r, r.Intn(8))
		if isSpoilt := len(l) > 0 && r.Intn(2) == 0; isSpoilt {
			spoil(r, l)
		} else if _, ok, _ := history.Check(l); !ok {
			t.Fatalf("P11.2: there is an order of %+v", l)
		}
		order, there := walk(l, nil, make([]bool, len(l)), nil)
		want := none
		if there {
			want = fmt.Sprint(order)
		}
		finds(t, "as the model", l, want)
		count(met, l, order, there)
	}
	for _, what := range []string{"none", "an order", "one that was not answered", "left out", "not the least first", "a List", "Full"} {
		if met[what] < 100 {
			t.Errorf("P11.2: %s: %d times: the test shows too little", what, met[what])
		}
	}
}

// count: what came up.
func count(met map[string]int, l []api.Call, order []int, there bool) {
	if !there {
		met["none"]++
		return
	}
	met["an order"]++
	if len(order) < len(l) {
		met["left out"]++
	}
	for i, n := range order {
		if l[n].To == 0 {
			met["one that was not answered"]++
		}
		if i > 0 && n < order[i-1] {
			met["not the least first"]++
		}
		if l[n].To > 0 && l[n].Command.Kind == api.List {
			met["a List"]++
		}
		if l[n].Result.Kind == api.Full {
			met["Full"]++
		}
	}
}

// isOrder: is it one of these calls?
func isOrder(l []api.Call, order []int) bool {
	var pairs []api.Pair
	at := map[int]int{}
	for i, n := range order {
		if _, twice := at[n]; twice || n < 0 || n >= len(l) {
			return false
		}
		var r api.Result
		if pairs, r = kv.Apply(pairs, l[n].Command); l[n].To > 0 && !sameResult(r, l[n].Result) {
			return false
		}
		at[n] = i
		for _, ahead := range order[:i] {
			if mustStandAhead(l[n], l[ahead]) {
				return false
			}
		}
	}
	for i, c := range l {
		if _, in := at[i]; c.To > 0 && !in {
			return false
		}
	}
	return true
}

// Of sixteen calls, too many for the model: what is found is an order, and where there is one it is found.
func TestP11_2SixteenCalls(t *testing.T) {
	orders := 0
	for seed := range 1500 {
		r := rand.New(rand.NewSource(int64(seed)))
		l := someCalls(r, api.MaxCalls)
		isSpoilt := r.Intn(2) == 0
		if isSpoilt {
			spoil(r, l)
		}
		order, ok, e := history.Check(l)
		if e != api.OK || !ok && !isSpoilt || ok && !isOrder(l, order) || !ok && len(order) > 0 {
			t.Fatalf("P11.2: Check(%+v): %v, %v, %v", l, order, ok, e)
		}
		if ok && isSpoilt {
			orders++
		}
	}
	if orders < 100 {
		t.Errorf("P11.2: %d orders of calls that were spoilt: the test shows too little", orders)
	}
}

// deep: a copy of calls, and of the spare room of their lists.
func deep(l []api.Call) []api.Call {
	l = append([]api.Call(nil), l[:cap(l)]...)
	for i := range l {
		k := l[i].Result.Keys
		l[i].Result.Keys = append([]string(nil), k[:cap(k)]...)[:len(k)]
	}
	return l
}

func TestP11WhatIsHandedInStays(t *testing.T) {
	for seed := range 200 {
		r := rand.New(rand.NewSource(int64(seed)))
		l := append(make([]api.Call, 0, 40), someCalls(r, 8)...)
		for i, c := range l {
			l[i].Result.Keys = append(make([]string, 0, 9), c.Result.Keys...)
		}
		was := deep(l)
		history.Valid(l)
		order, ok, e := history.Check(l)
		if !reflect.DeepEqual(deep(l), was) {
			t.Fatalf("P11.2: %+v became %+v", was, l)
		}
		told := fmt.Sprint(order, ok, e)
		for i := range order[:cap(order)] {
			order[:cap(order)][i] = -1
		}
		if again, ok, e := history.Check(l); fmt.Sprint(again, ok, e) != told {
			t.Fatalf("P11.2: %+v: at first %s, then %v, %v, %v", l, told, again, ok, e)
		}
	}
}
