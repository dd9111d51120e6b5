package grid_test

import (
	"fmt"
	"math"
	"slices"
	"strings"
	"testing"

	"quorate/api"
	"quorate/front"
	"quorate/grid"
	"quorate/wire"
)

// extreme: numbers that no field may be.
var extreme = []int{math.MinInt, -1, api.MaxNumber + 1, math.MaxInt}

// of: a world of so many nodes, all of which vote: the one of the document's examples of the whole.
func of(count int) api.World {
	w := api.World{Election: 4, Beat: 1, Keep: 10}
	for id := 1; id <= count; id++ {
		w.Nodes, w.Voters = append(w.Nodes, id), append(w.Voters, id)
	}
	return w
}

// build: a grid.
func build(t *testing.T, w api.World, groups, workers, patience int) *grid.Grid {
	t.Helper()
	g, e := grid.New(w, groups, workers, patience)
	if g == nil || e != api.OK {
		t.Fatalf("P21.1: New(%+v, %d, %d, %d): %v", w, groups, workers, patience, e)
	}
	return g
}

// led: a grid in each of whose groups node 1 leads in term 1, its first entry committed everywhere; that took four steps.
func led(t *testing.T, nodes, groups, workers, patience int) *grid.Grid {
	t.Helper()
	g := build(t, of(nodes), groups, workers, patience)
	g.Heal(4, nil)
	for k := 1; k <= groups; k++ {
		for id := 1; id <= nodes; id++ {
			if s, _, up := g.Look(k, id); !up || s.Leader != 1 || s.Hard.Term != 1 || s.Hard.Commit != 1 {
				t.Fatalf("P21.4: node 1 of group %d leads: %+v", k, s)
			}
		}
	}
	return g
}

// does: a job that does a command, told by a line.
func does(t *testing.T, line string) api.Job {
	t.Helper()
	c, at, e := front.Parse(line)
	if e != api.OK {
		t.Fatalf("no command: %s (at %d)", line, at)
	}
	return api.Job{Command: c}
}

// hands: a job that hands a key over.
func hands(key string, to int) api.Job {
	return api.Job{Command: api.Command{Kind: api.Get, Key: key}, To: to}
}

// wants: a worker begins a job, and that is what Do says.
func wants(t *testing.T, g *grid.Grid, k, at int, j api.Job, want api.Errno) {
	t.Helper()
	if e := g.Do(api.GridStep{Want: true, Worker: k, At: at, Job: j}); e != want {
		t.Errorf("P21.2: worker %d begins %+v at %d: %d; want %d", k, j, at, e, want)
	}
}

// do: a step of a group's world, that is not refused.
func do(t *testing.T, g *grid.Grid, group int, s api.Step) {
	t.Helper()
	if e := g.Do(api.GridStep{Group: group, Step: s}); e != api.OK {
		t.Errorf("P21.2: group %d: Do(%+v): %d", group, s, e)
	}
}

// idle: a step of a world in which nothing happens.
func idle() api.Step {
	return api.Step{Kind: api.DropOne}
}

func tickAll() api.Step {
	return api.Step{Kind: api.TickAll}
}

func stop(node int) api.Step {
	return api.Step{Kind: api.Stop, Node: node}
}

// ask: node 1, in the script's name; the zero request opens a session.
func ask(q api.Request) api.Step {
	return api.Step{Kind: api.AskNode, Node: 1, Request: q}
}

// is: what is told is what is wanted.
func is(t *testing.T, what, got, want string) {
	t.Helper()
	if got != want {
		t.Errorf("%s: %s\nwant: %s", what, got, want)
	}
}

// tell: a value, for a look; nil and empty lists are the same.
func tell(x ...any) string {
	return fmt.Sprintf("%+v", x)
}

// shown: a work, briefly: worker, from, to; the job; how it stands.
func shown(x api.Work) string {
	line, _ := front.Format(x.Job.Command)
	if x.Job.To > 0 {
		line = fmt.Sprintf("%s to %d", x.Job.Command.Key, x.Job.To)
	}
	state := []string{"", "working", "ended", "unknown"}[x.Status.State]
	s := fmt.Sprintf("%d %d-%d %s: %s at %d", x.Worker, x.From, x.To, line, state, x.Status.Group)
	if x.Status.Result.Kind != 0 {
		r, _ := front.Reply(x.Status.Result)
		s += ": " + r
	}
	return s
}

// works: all of them.
func works(g *grid.Grid) string {
	b := []string{}
	for _, x := range g.Works() {
		b = append(b, shown(x))
	}
	return strings.Join(b, "; ")
}

// work: one of them.
func work(t *testing.T, g *grid.Grid, at int) string {
	t.Helper()
	l := g.Works()
	if at >= len(l) {
		t.Fatalf("P21.3: there are %d works", len(l))
	}
	return shown(l[at])
}

// cells: the pairs of each group, as its node 1 has them.
func cells(g *grid.Grid, groups int) string {
	b := []string{}
	for k := 1; k <= groups; k++ {
		_, x, up := g.Look(k, 1)
		if !up {
			b = append(b, fmt.Sprintf("%d is down", k))
		}
		for _, p := range x.Pairs {
			b = append(b, fmt.Sprintf("%d.%s=%s (%d)", k, p.Key, p.Value, p.Version))
		}
	}
	return strings.Join(b, ", ")
}

// logged: what node 1 of a group has in its log: the sessions and numbers of requests (0/0: one that opens a session), as far as the log has not been cut short.
func logged(t *testing.T, g *grid.Grid, group int) string {
	t.Helper()
	s, _, _ := g.Look(group, 1)
	b := []string{}
	for _, e := range s.Log.Entries {
		if e.Kind != api.Ask {
			continue
		}
		q, err := wire.GetRequest(e.Data)
		if err != api.OK {
			t.Fatalf("no request: %q", e.Data)
		}
		b = append(b, fmt.Sprintf("%d/%d", q.Client, q.Number))
	}
	return strings.Join(b, " ")
}

// stepNow: the number of a step that is done to learn it, by a worker that has no job.
func stepNow(t *testing.T, g *grid.Grid, k int) int {
	t.Helper()
	wants(t, g, k, 1, does(t, "get zz"), api.OK)
	l := g.Works()
	return l[len(l)-1].From
}

// roomy: a list with spare room behind it, and all of that, to look at.
func roomy[T any](l []T, spare T) (short, whole []T) {
	whole = append(slices.Clone(l), spare, spare, spare)
	return whole[:len(l)], whole
}

// spoil: a list, and its spare room.
func spoil[T any](l []T, with T) {
	l = l[:cap(l)]
	for i := range l {
		l[i] = with
	}
}
