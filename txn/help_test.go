package txn_test

import (
	"fmt"
	"slices"
	"strings"
	"testing"

	"quorate/api"
	"quorate/front"
	"quorate/kv"
	"quorate/txn"
)

// part: of a transaction.
func part(key string, add int) api.Part {
	return api.Part{Key: key, Add: add}
}

// begin: a transaction.
func begin(t *testing.T, id int, parts ...api.Part) *txn.Txn {
	t.Helper()
	x, e := txn.New(id, parts)
	if x == nil || e != api.OK {
		t.Fatalf("P16.1: New(%d, %v): %d", id, parts, e)
	}
	return x
}

// turn: what is told by Next, as a line (none: nothing is); what it is answered, as a line; how the transaction stands then, with the numbers that were noted.
type turn struct {
	next, answer, stands string
}

// line: what Next tells.
func line(t *testing.T, x *txn.Txn) string {
	t.Helper()
	c, is := x.Next()
	if !is {
		if c != (api.Command{}) {
			t.Errorf("P16.2: Next: nothing, with %+v", c)
		}
		return ""
	}
	s, e := front.Format(c)
	if e != api.OK {
		t.Errorf("P16.2: Next: %+v, which may not be", c)
	}
	return s
}

// result: that a line says.
func result(t *testing.T, s string) api.Result {
	t.Helper()
	r, at, e := front.ReadReply(s)
	if e != api.OK {
		t.Fatalf("no result: %s (at %d)", s, at)
	}
	return r
}

// stands: how it does: a word, and the numbers.
func stands(x *txn.Txn) string {
	s := x.Look()
	l := []string{[]string{"?", "running", "committed", "aborted"}[max(0, min(s.State, 3))]}
	for _, n := range s.Old {
		l = append(l, fmt.Sprint(n))
	}
	return strings.Join(l, " ")
}

// play: turns, one behind the other; asked twice Next tells the same.
func play(t *testing.T, x *txn.Txn, turns ...turn) {
	t.Helper()
	for i, u := range turns {
		for range 2 {
			if s := line(t, x); s != u.next {
				t.Fatalf("P16.2: turn %d: Next: %q; want %q", i, s, u.next)
			}
		}
		if u.next == "" {
			continue
		}
		x.Answer(result(t, u.answer))
		if s := stands(x); s != u.stands {
			t.Fatalf("P16.2: turn %d: behind %s, answered %s: %s; want %s", i, u.next, u.answer, s, u.stands)
		}
	}
}

// step: a transaction's next command is done on the map: its result; false: there is none.
func step(p *[]api.Pair, x *txn.Txn) (r api.Result, is bool) {
	c, is := x.Next()
	if is {
		*p, r = kv.Apply(*p, c)
		x.Answer(r)
	}
	return r, is
}

// runs: a transaction goes on alone, till it has ended: how many commands that took.
func runs(t *testing.T, p *[]api.Pair, x *txn.Txn) int {
	t.Helper()
	for n := range 51 {
		if _, is := step(p, x); !is {
			return n
		}
	}
	t.Fatalf("P16: alone it has not ended within fifty commands: %s", shows(*p))
	return 0
}

// shows: what stands in a map, as a line: key=value, with versions.
func shows(p []api.Pair) string {
	l := []string{}
	for _, x := range p {
		l = append(l, fmt.Sprintf("%s=%s (%d)", x.Key, x.Value, x.Version))
	}
	return strings.Join(l, ", ")
}

// is: what is told is what is wanted.
func is(t *testing.T, what, got, want string) {
	t.Helper()
	if got != want {
		t.Errorf("%s: %s\nwant: %s", what, got, want)
	}
}

// roomy: a list with spare room behind it, and all of that, to look at.
func roomy[T any](l []T, spare T) (short, whole []T) {
	whole = append(slices.Clone(l), spare, spare, spare)
	return whole[:len(l)], whole
}

// spoil: a list, and its spare room.
func spoil[T any](l []T, with T) {
	l = l[:cap(l)]
	for i := range l {
		l[i] = with
	}
}

// kinds: of results that are not OK: those that there are, and some that there are not.
var kinds = []int{0, api.Missing, api.Unequal, api.Full, api.Bad, api.Stale, api.Gap, api.Lost, api.Lost + 1, -1}
