package cell_test

import (
	"fmt"
	"math"
	"slices"
	"strings"
	"testing"

	"quorate/api"
	"quorate/cell"
	"quorate/front"
	"quorate/kv"
)

// Kinds of results: those that are lost; those that are neither lost nor one of which something is said.
var (
	lostKinds  = []int{api.Stale, api.Gap, api.Lost, api.Lost + 1, math.MaxInt}
	otherKinds = []int{0, api.Unequal, api.Bad, -1, math.MinInt}
)

// but: of all kinds of results those that are not lost, and not these.
func but(kinds ...int) []int {
	l := append(slices.Clone(otherKinds), api.Done, api.Missing, api.Full)
	return slices.DeleteFunc(l, func(kind int) bool { return slices.Contains(kinds, kind) })
}

// does: a job that does a command, told by a line.
func does(t *testing.T, line string) api.Job {
	t.Helper()
	c, at, e := front.Parse(line)
	if e != api.OK {
		t.Fatalf("no command: %s (at %d)", line, at)
	}
	return api.Job{Command: c}
}

// hands: a job that hands a key over.
func hands(key string, to int) api.Job {
	return api.Job{Command: api.Command{Kind: api.Get, Key: key}, To: to}
}

// begin: a job.
func begin(t *testing.T, groups, at int, x api.Job) *cell.Job {
	t.Helper()
	j, e := cell.New(groups, at, x)
	if j == nil || e != api.OK {
		t.Fatalf("P20.1: New(%d, %d, %+v): %d", groups, at, x, e)
	}
	return j
}

// result: that a line says.
func result(t *testing.T, s string) api.Result {
	t.Helper()
	r, at, e := front.ReadReply(s)
	if e != api.OK {
		t.Fatalf("no result: %s (at %d)", s, at)
	}
	return r
}

// next: what Next tells, as a line: the group, the command; none, if it tells nothing. Asked twice it tells the same.
func next(t *testing.T, j *cell.Job) string {
	t.Helper()
	g, c, more := j.Next()
	if again, d, also := j.Next(); again != g || d != c || also != more {
		t.Errorf("P20.2: Next: %d, %+v, %v; then %d, %+v, %v", g, c, more, again, d, also)
	}
	if !more {
		if g != 0 || c != (api.Command{}) {
			t.Errorf("P20.2: Next: nothing, with %d, %+v", g, c)
		}
		return ""
	}
	s, e := front.Format(c)
	if e != api.OK {
		t.Errorf("P20.2: Next: %+v, which may not be", c)
	}
	return fmt.Sprintf("%d: %s", g, s)
}

// stands: how a job does: a word, the group at which it is; the result, when it has ended.
func stands(t *testing.T, j *cell.Job) string {
	t.Helper()
	x := j.Look()
	s := fmt.Sprintf("%s at %d", []string{"?", "working", "ended", "unknown"}[max(0, min(x.State, 3))], x.Group)
	if x.State != api.Ended {
		if tell(x.Result) != tell(api.Result{}) {
			t.Errorf("P20.2: Look: %s, with a result: %+v", s, x.Result)
		}
		return s
	}
	r, e := front.Reply(x.Result)
	if e != api.OK {
		t.Errorf("P20.2: Look: a result that may not be: %+v", x.Result)
	}
	return s + ": " + r
}

// tell: a value as a text.
func tell(x any) string {
	return fmt.Sprintf("%+v", x)
}

// is: what is told is what is wanted.
func is(t *testing.T, what, got, want string) {
	t.Helper()
	if got != want {
		t.Errorf("%s: %s\nwant: %s", what, got, want)
	}
}

// turn: what is told by Next, as a line (none: nothing is); what it is answered, as a line; how the job stands then.
type turn struct {
	next, answer, stands string
}

// play: turns, one behind the other.
func play(t *testing.T, j *cell.Job, turns ...turn) {
	t.Helper()
	for i, u := range turns {
		if s := next(t, j); s != u.next {
			t.Fatalf("P20.2: turn %d: Next: %q; want %q", i, s, u.next)
		}
		if u.next == "" {
			continue
		}
		j.Answer(result(t, u.answer))
		if s := stands(t, j); s != u.stands {
			t.Fatalf("P20.2: turn %d: behind %s, answered %s: %s; want %s", i, u.next, u.answer, s, u.stands)
		}
	}
}

// leads: to an answer a job stands so, and tells this next.
func leads(t *testing.T, what string, j *cell.Job, r api.Result, wantStands, wantNext string) {
	t.Helper()
	j.Answer(r)
	is(t, fmt.Sprintf("P20.2: %s, answered %+v: it stands", what, r), stands(t, j), wantStands)
	is(t, fmt.Sprintf("P20.2: %s, answered %+v: Next", what, r), next(t, j), wantNext)
}

// step: a job's next command is done on the maps: its result; false: there is none.
func step(l [][]api.Pair, j *cell.Job) (r api.Result, more bool) {
	g, c, more := j.Next()
	if more {
		l[g-1], r = kv.Apply(l[g-1], c)
		j.Answer(r)
	}
	return r, more
}

// runs: a job goes on alone, till it has ended: how many commands that took.
func runs(t *testing.T, l [][]api.Pair, j *cell.Job) int {
	t.Helper()
	for n := range 41 {
		if _, more := step(l, j); !more {
			return n
		}
	}
	t.Fatalf("P20: alone it has not ended within forty commands: %s", shows(l))
	return 0
}

// shows: what stands in maps, as a line: group.key=value, with versions.
func shows(l [][]api.Pair) string {
	out := []string{}
	for i, m := range l {
		for _, p := range m {
			out = append(out, fmt.Sprintf("%d.%s=%s (%d)", i+1, p.Key, p.Value, p.Version))
		}
	}
	return strings.Join(out, ", ")
}

// found: what Find says, as a line.
func found(t *testing.T, l [][]api.Pair, key string) string {
	t.Helper()
	g, p, there := cell.Find(l, key)
	if !there {
		if p != (api.Pair{}) {
			t.Errorf("P20.3: Find: no pair: %+v", p)
		}
		return fmt.Sprint(g)
	}
	return fmt.Sprintf("%d: %s=%s (%d)", g, p.Key, p.Value, p.Version)
}

// many: so many bytes.
func many(n int) string {
	return strings.Repeat("v", n)
}

// full: a map without room.
func full() (l []api.Pair) {
	for i := range api.MaxPairs {
		l = append(l, api.Pair{Key: fmt.Sprintf("x%02d", i), Version: 1})
	}
	return l
}
