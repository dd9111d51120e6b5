package cell_test

import (
	"fmt"
	"math/rand"
	"testing"

	"quorate/api"
	"quorate/cell"
	"quorate/history"
	"quorate/kv"
)

// The chapter's example.
func TestP20_2TheExample(t *testing.T) {
	l := make([][]api.Pair, 2)
	j := begin(t, 2, 1, does(t, "app a v"))
	play(t, j,
		turn{"1: get ca", none, "working at 1"},
		turn{`1: swap ca "here 0 1 =v" 0`, `done 1 ""`, `ended at 1: done 1 ""`},
		turn{},
	)
	runs(t, l, begin(t, 2, 1, does(t, "app a v")))
	is(t, "P20.2: what it has made", shows(l), "1.ca=here 0 1 =v (1)")
	is(t, "P20.3: Find", found(t, l, "a"), "1: a=v (1)")
	j = begin(t, 2, 1, hands("a", 2))
	for i, x := range []struct{ next, after, find string }{
		{"1: get ca", "1.ca=here 0 1 =v (1)", "1: a=v (1)"},
		{"2: get ca", "1.ca=here 0 1 =v (1)", "1: a=v (1)"},
		{`2: swap ca "gone 0 1" 0`, "1.ca=here 0 1 =v (1), 2.ca=gone 0 1 (1)", "1: a=v (1)"},
		{"1: get ca", "1.ca=here 0 1 =v (1), 2.ca=gone 0 1 (1)", "1: a=v (1)"},
		{"2: get ca", "1.ca=here 0 1 =v (1), 2.ca=gone 0 1 (1)", "1: a=v (1)"},
		{`1: swap ca "moving 1 2 1 =v" 1`, "1.ca=moving 1 2 1 =v (2), 2.ca=gone 0 1 (1)", "1: a=v (1)"},
		{"2: get ca", "1.ca=moving 1 2 1 =v (2), 2.ca=gone 0 1 (1)", "1: a=v (1)"},
		{`2: swap ca "here 1 1 =v" 1`, "1.ca=moving 1 2 1 =v (2), 2.ca=here 1 1 =v (2)", "2: a=v (1)"},
		{`1: swap ca "gone 1 2" 2`, "1.ca=gone 1 2 (3), 2.ca=here 1 1 =v (2)", "2: a=v (1)"},
	} {
		is(t, fmt.Sprintf("P20.2: command %d", i), next(t, j), x.next)
		is(t, "P20.2: it stands", stands(t, j), "working at 1")
		step(l, j)
		is(t, fmt.Sprintf("P20.2: behind command %d", i), shows(l), x.after)
		is(t, fmt.Sprintf("P20.3: behind command %d", i), found(t, l, "a"), x.find)
	}
	is(t, "P20.2: in the end", stands(t, j)+next(t, j), `ended at 1: done 0 ""`)
}

// back: a key was handed over to each group, in turn, and is with group 1 again.
func back(t *testing.T) [][]api.Pair {
	t.Helper()
	l := make([][]api.Pair, 4)
	runs(t, l, begin(t, 4, 1, does(t, "put a v")))
	for i, to := range []int{2, 3, 4, 1} {
		j := begin(t, 4, 1, hands("a", to))
		runs(t, l, j)
		is(t, "P20.2: handed over", found(t, l, "a"), fmt.Sprintf("%d: a=v (1)", to))
		if s := j.Look(); s.State != api.Ended || s.Result.Kind != api.Done || s.Group != []int{1, 2, 3, 4}[i] {
			t.Errorf("P20.2: handed over to %d: %+v", to, s)
		}
	}
	return l
}

func TestP20_2RoundAndRound(t *testing.T) {
	l := back(t)
	is(t, "P20.2: round and round", shows(l), "1.ca=here 4 1 =v (4), 2.ca=gone 2 3 (4), 3.ca=gone 3 4 (4), 4.ca=gone 4 1 (4)")
	for at := 1; at <= 4; at++ {
		j := begin(t, 4, at, does(t, "get a"))
		if n, want := runs(t, l, j), []int{1, 4, 3, 2}[at-1]; n != want {
			t.Errorf("P20.2: from %d: %d commands; want %d", at, n, want)
		}
		is(t, "P20.2: it is found", stands(t, j), "ended at 1: done 1 v")
	}
}

// Whoever stops, at whichever command, is in nobody's way: another goes on alone, and ends.
func TestP20WhoStops(t *testing.T) {
	for stop := range 10 {
		for _, x := range []struct {
			j          api.Job
			at         int
			find, ends string
		}{
			{does(t, "app a w"), 1, "a=vw (2)", `done 2 ""`},
			{does(t, "del a"), 2, "", `done 1 ""`},
			{hands("a", 2), 3, "a=v (1)", `done 0 ""`},
			{hands("a", 3), 1, "a=v (1)", `done 0 ""`},
			{hands("a", 1), 2, "a=v (1)", `done 0 ""`},
		} {
			l := make([][]api.Pair, 3)
			runs(t, l, begin(t, 3, 1, does(t, "put a v")))
			first := begin(t, 3, 1, hands("a", 2))
			for range stop {
				step(l, first)
			}
			j := begin(t, 3, x.at, x.j)
			runs(t, l, j)
			s := j.Look()
			g, p, there := cell.Find(l, "a")
			if x.j.To > 0 && g != x.j.To {
				t.Errorf("P20.2: one stopped behind %d commands: handed over to %d, it is with %d: %s", stop, x.j.To, g, shows(l))
			}
			if got := fmt.Sprintf("%s=%s (%d)", p.Key, p.Value, p.Version); there != (x.find != "") || there && got != x.find {
				t.Errorf("P20.2: one stopped behind %d commands: %+v: %s; want %s", stop, x.j, got, x.find)
			}
			if s.State != api.Ended || tell(s.Result) != tell(result(t, x.ends)) {
				t.Errorf("P20.2: one stopped behind %d commands: %+v: %+v; want %s", stop, x.j, s, x.ends)
			}
			runs(t, l, first) // if it goes on after all nothing is broken
			if h, q, is := cell.Find(l, "a"); h == 0 || q != p || is != there {
				t.Errorf("P20.2: one stopped behind %d commands, and went on: %d, %+v, %v; want %+v, %v", stop, h, q, is, p, there)
			}
		}
	}
}

// A group without room takes no key, and nothing of it is changed; a group without room keeps those that it has.
func TestP20_2NoRoom(t *testing.T) {
	l := [][]api.Pair{nil, full()}
	runs(t, l, begin(t, 2, 1, does(t, "put a v")))
	j := begin(t, 2, 1, hands("a", 2))
	if n := runs(t, l, j); n != 3 {
		t.Errorf("P20.2: no room: %d commands; want 3", n)
	}
	is(t, "P20.2: no room", stands(t, j), `ended at 1: full 0 ""`)
	is(t, "P20.2: no room", found(t, l, "a"), "1: a=v (1)")
	if tell(l[1]) != tell(full()) {
		t.Errorf("P20.2: no room: group 2 has changed: %+v", l[1])
	}
	l[0] = append(l[0], full()[1:]...)
	j = begin(t, 2, 1, does(t, "put b v"))
	runs(t, l, j)
	is(t, "P20.2: no room for another key", stands(t, j), `ended at 1: full 0 ""`)
	j = begin(t, 2, 1, does(t, "app a w"))
	runs(t, l, j)
	is(t, "P20.2: room for what is there", stands(t, j)+", "+found(t, l, "a"), `ended at 1: done 2 "", 1: a=vw (2)`)
	l[1] = l[1][1:]
	j = begin(t, 2, 2, hands("b", 2))
	runs(t, l, j)
	is(t, "P20.2: no room where it is", stands(t, j)+", "+found(t, l, "b"), `ended at 1: full 0 "", 1`)
}

// run: jobs on maps, held against a single map.
type run struct {
	t      *testing.T
	maps   [][]api.Pair
	single []api.Pair
	jobs   []*cell.Job
	what   []api.Job
	clock  int
	calls  []api.Call
	moved  int
}

// begin: one more job.
func (w *run) begin(r *rand.Rand) {
	x := someJob(r, len(w.maps))
	w.clock++
	w.jobs, w.what = append(w.jobs, begin(w.t, len(w.maps), 1+r.Intn(len(w.maps)), x)), append(w.what, x)
	w.calls = append(w.calls, api.Call{From: w.clock, Command: x.Command})
}

// step: of one of them; its command is done, or lost, and the answer comes, or is lost.
func (w *run) step(i int, isDone, comes bool) bool {
	j := w.jobs[i]
	g, c, more := j.Next()
	if !more {
		return false
	}
	w.clock++
	r := api.Result{Kind: api.Lost}
	was := tell(w.maps[g-1])
	if isDone {
		w.maps[g-1], r = kv.Apply(w.maps[g-1], c)
	}
	if !isDone || !comes {
		r = api.Result{Kind: api.Stale + w.clock%3}
	}
	j.Answer(r)
	w.settle(i, tell(w.maps[g-1]) != was)
	w.check()
	return true
}

// settle: what one has ended with is what a single map says then; of whom nobody knows it was done if the map has changed.
func (w *run) settle(i int, changed bool) {
	w.t.Helper()
	s, x := w.jobs[i].Look(), w.what[i]
	switch {
	case s.State == api.Ended && x.To > 0:
		w.moved++
	case s.State == api.Ended && s.Result.Kind != api.Full:
		var r api.Result
		w.single, r = kv.Apply(w.single, x.Command)
		if tell(r) != tell(s.Result) {
			w.t.Fatalf("one map: %+v has ended with %+v; a single map has %+v", x, s.Result, r)
		}
		w.calls[i].To, w.calls[i].Result = w.clock, r
	case s.State == api.Unknown && changed:
		w.single, _ = kv.Apply(w.single, x.Command)
	}
}

// check: each key is where Find says, with what a single map has.
func (w *run) check() {
	w.t.Helper()
	for _, key := range []string{"a", "b", "kkkkkkkkkkkkkkk"} {
		_, r := kv.Apply(w.single, api.Command{Kind: api.Get, Key: key})
		g, p, there := cell.Find(w.maps, key)
		if g < 1 || there != (r.Kind == api.Done) || p.Value != r.Value || p.Version != r.Version {
			w.t.Fatalf("one map: %s: Find: %d, %+v, %v; a single map has %+v: %s", key, g, p, there, r, shows(w.maps))
		}
	}
}

// history: of commands that were not refused for want of room; those that have not ended may have been done or not.
func (w *run) history() (l []api.Call) {
	for i, c := range w.calls {
		s := w.jobs[i].Look()
		if w.what[i].To == 0 && s.Result.Kind != api.Full {
			l = append(l, c)
		}
	}
	return l
}

// One map: jobs go on in turns of chance, commands and answers are lost, some jobs stop for ever; at every moment the maps are what a single one is, what all saw could have happened one after the other; and who goes on alone then ends.
func TestP20OneMap(t *testing.T) {
	r := rand.New(rand.NewSource(202))
	ended, unknown, moved, late, most := 0, 0, 0, 0, 0
	for k := range 500 {
		w := &run{t: t, maps: make([][]api.Pair, 1+r.Intn(api.MaxGroups))}
		count := 3 + r.Intn(12)
		losses := []int{0, 4, 12}[k%3]
		for i := range 12 * count {
			if i%6 == 0 && len(w.jobs) < count {
				w.begin(r)
			}
			n := len(w.jobs) - 1 - r.Intn(min(len(w.jobs), 5)) // those before have stopped
			w.step(n, losses == 0 || r.Intn(losses) > 0, losses == 0 || r.Intn(losses) > 0)
		}
		stopped := r.Intn(count)
		for i := stopped; i < len(w.jobs); i++ {
			n := 0
			for w.step(i, true, true) {
				if n++; n > 40 {
					t.Fatalf("P20: run %d: job %d goes on alone, and does not end: %s", k, i+1, shows(w.maps))
				}
			}
			late, most = late+n, max(most, n)
		}
		if _, ok, e := history.Check(w.history()); e != api.OK || !ok {
			t.Fatalf("one map: run %d: what was seen could not have happened: %v, %d: %+v", k, ok, e, w.history())
		}
		for _, j := range w.jobs {
			switch j.Look().State {
			case api.Ended:
				ended++
			case api.Unknown:
				unknown++
			}
		}
		moved += w.moved
	}
	t.Logf("%d ended, %d unknown, %d handed over; alone %d commands, %d at most", ended, unknown, moved, late, most)
	if ended < 2500 || unknown < 100 || moved < 600 || late < 500 {
		t.Errorf("one map: the test shows too little: %d ended, %d unknown, %d handed over, %d commands alone", ended, unknown, moved, late)
	}
}
