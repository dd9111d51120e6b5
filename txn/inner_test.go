package txn

import (
	"fmt"
	"slices"
	"testing"

	"quorate/api"
	"quorate/kv"
)

// place: where all transactions of a small world may be at some moment: the map, each of them, the numbers that those that are committed have made, one behind the other.
type place struct {
	pairs   []api.Pair
	txns    []Txn
	numbers map[string]int
}

// name: two places of one name are the same. (The numbers hang on who is committed, and these add up in any order.)
func (w place) name() string {
	return fmt.Sprint(w.pairs, w.txns)
}

// behind: where one's next command leads; false: it has none.
func (w place) behind(t *testing.T, i int) (place, bool) {
	x := w.txns[i]
	x.old = slices.Clone(x.old)
	c, is := x.Next()
	if !is {
		return place{}, false
	}
	out := place{txns: slices.Clone(w.txns), numbers: w.numbers}
	var r api.Result
	out.pairs, r = kv.Apply(w.pairs, c)
	x.Answer(r)
	out.txns[i] = x
	if w.txns[i].state == api.Running && x.state == api.Committed {
		out.numbers = commit(t, w.numbers, x)
	}
	return out, true
}

// commit: what one makes of numbers, which are those that it noted.
func commit(t *testing.T, was map[string]int, x Txn) map[string]int {
	t.Helper()
	out := map[string]int{}
	for key, n := range was {
		out[key] = n
	}
	for i, p := range x.parts {
		if x.old[i] != was[p.Key] {
			t.Fatalf("serial: transaction %d noted %v; %s was %d", x.id, x.old, p.Key, was[p.Key])
		}
		out[p.Key] += p.Add
		if n := out[p.Key]; n < 0 || n > api.MaxAmount {
			t.Fatalf("serial: transaction %d makes %s %d", x.id, p.Key, n)
		}
	}
	return out
}

// check: what must hold at every moment.
func (w place) check(t *testing.T, most *int) {
	t.Helper()
	for _, key := range []string{"a", "b", "c"} {
		if n := Number(w.pairs, key); n != w.numbers[key] {
			t.Fatalf("serial: %s is %d; those that are committed make it %d: %s", key, n, w.numbers[key], w.name())
		}
	}
	for i := range w.txns {
		*most = max(*most, w.alone(t, i))
	}
}

// alone: how many commands one needs to its end, when all others have stopped for ever.
func (w place) alone(t *testing.T, i int) int {
	t.Helper()
	for n := range 51 {
		next, is := w.behind(t, i)
		if !is {
			return n
		}
		w = next
	}
	t.Fatalf("nobody is in its way: transaction %d, alone, has not ended within fifty commands: %s", i+1, w.name())
	return 0
}

// explore: all places that can be come to, and how many there are; the most commands that one needs alone; which ends there are.
func explore(t *testing.T, first place) (places, most int, ends map[string]bool) {
	t.Helper()
	seen := map[string]bool{first.name(): true}
	ends = map[string]bool{}
	for l := []place{first}; len(l) > 0; {
		w := l[len(l)-1]
		l = l[:len(l)-1]
		w.check(t, &most)
		isEnd, states := true, ""
		for i := range w.txns {
			states += fmt.Sprint(w.txns[i].state)
			next, is := w.behind(t, i)
			isEnd = isEnd && !is
			if is && !seen[next.name()] {
				seen[next.name()] = true
				l = append(l, next)
			}
		}
		if isEnd {
			ends[states] = true
		}
	}
	return len(seen), most, ends
}

// Serial: in every order in which small sets of transactions can do their commands, wherever each of them stops.
func TestP16_2EverySchedule(t *testing.T) {
	for _, x := range []struct {
		name    string
		numbers map[string]int
		txns    [][]api.Part
		ends    []string // that must be among those that come about
	}{
		{"one key, twice", map[string]int{"a": 5}, [][]api.Part{{{Key: "a", Add: 1}}, {{Key: "a", Add: 2}}}, []string{"22", "23", "32"}},
		{"one key, for one alone", map[string]int{"a": 5}, [][]api.Part{{{Key: "a", Add: -4}}, {{Key: "a", Add: -3}}}, []string{"23", "32"}},
		{"two keys", map[string]int{"a": 5}, [][]api.Part{{{Key: "a", Add: -1}, {Key: "b", Add: 1}}, {{Key: "b", Add: 2}, {Key: "a", Add: -2}}}, []string{"22", "23", "32"}},
		{"one needs the other", map[string]int{"a": 5}, [][]api.Part{{{Key: "a", Add: -5}, {Key: "b", Add: 5}}, {{Key: "b", Add: -5}, {Key: "c", Add: 5}}}, []string{"22", "23"}},
		{"three", map[string]int{"a": 2}, [][]api.Part{{{Key: "a", Add: -1}}, {{Key: "a", Add: -1}}, {{Key: "a", Add: -1}}}, []string{"223", "232", "322"}},
	} {
		w := place{numbers: x.numbers}
		for _, key := range []string{"a", "b", "c"} {
			if n := x.numbers[key]; n > 0 {
				w.pairs = append(w.pairs, api.Pair{Key: amountKey(key), Value: amount{number: n}.text(), Version: 1})
			}
		}
		for i, parts := range x.txns {
			y, e := New(i+1, parts)
			if e != api.OK {
				t.Fatal(e)
			}
			w.txns = append(w.txns, *y)
		}
		places, most, ends := explore(t, w)
		t.Logf("%s: %d places, %d commands alone, ends %v", x.name, places, most, ends)
		for _, s := range x.ends {
			if !ends[s] {
				t.Errorf("serial: %s: the end %s does not come about: %v", x.name, s, ends)
			}
		}
	}
}
