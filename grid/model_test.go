package grid_test

import (
	"math/rand"
	"testing"

	"quorate/api"
	"quorate/cell"
	"quorate/grid"
	"quorate/town"
)

// model: a second telling of a grid: of a job it knows which of the things that were wanted of groups are its own, and does it from the beginning whenever its worker goes on.
type model struct {
	towns   []*town.Town
	workers int
	tasks   []*task
	step    int
}

// task: a job, where it begins, and what was wanted for it.
type task struct {
	api.Work
	at    int
	wants []want
}

// want: the one at a place among those of a group.
type want struct{ group, place int }

func newModel(t *testing.T, w api.World, groups, workers, patience int) *model {
	t.Helper()
	m := &model{workers: workers}
	for range groups {
		x, e := town.New(w, workers, patience)
		if e != api.OK {
			t.Fatal(e)
		}
		m.towns = append(m.towns, x)
	}
	return m
}

func (m *model) do(s api.GridStep) api.Errno {
	m.step++
	e := m.act(s)
	m.goOn()
	return e
}

func (m *model) act(s api.GridStep) api.Errno {
	switch {
	case !s.Want && (s.Group < 1 || s.Group > len(m.towns)):
		return api.ErrWorld
	case !s.Want:
		return m.towns[s.Group-1].Do(api.TownStep{Step: s.Step})
	case s.Worker < 1 || s.Worker > m.workers:
		return api.ErrWorld
	case m.busy(s.Worker) != nil:
		return api.ErrBusy
	}
	j, e := cell.New(len(m.towns), s.At, s.Job)
	if e == api.OK {
		m.tasks = append(m.tasks, &task{Work: api.Work{Worker: s.Worker, Job: s.Job, From: m.step, Status: j.Look()}, at: s.At})
	}
	return e
}

// busy: what a worker has to do; nil: nothing.
func (m *model) busy(k int) *task {
	for _, x := range m.tasks {
		if x.Worker == k && x.To == 0 {
			return x
		}
	}
	return nil
}

func (m *model) goOn() {
	for k := 1; k <= m.workers; k++ {
		if x := m.busy(k); x != nil {
			m.work(x)
		}
	}
}

// work: the job, from its beginning on, with all that has come by now; and what is next, if nothing is to come.
func (m *model) work(x *task) {
	j, _ := cell.New(len(m.towns), x.at, x.Job)
	for _, w := range x.wants {
		c := m.towns[w.group-1].Wants()[w.place]
		if c.To == 0 {
			return
		}
		j.Answer(c.Result)
	}
	x.Status = j.Look()
	group, c, more := j.Next()
	if !more {
		x.To = m.step
		return
	}
	if group > len(m.towns) {
		return
	}
	t := m.towns[group-1]
	x.wants = append(x.wants, want{group, len(t.Wants())})
	t.Do(api.TownStep{Want: true, Client: x.Worker, Command: c})
}

func (m *model) heal(times int, nodes []int) {
	for range times {
		for _, t := range m.towns {
			t.Heal(1, nodes)
		}
		m.step++
		m.goOn()
	}
}

func (m *model) works() (l []api.Work) {
	for _, x := range m.tasks {
		l = append(l, x.Work)
	}
	return l
}

// chance: a script of a grid, drawn.
type chance struct {
	*rand.Rand
	nodes, groups, workers int
	crowd                  int // so many strangers more are to open sessions, all in one group
	crowded                int // in which
}

// some: of 1 up to most, as a rule.
func (r chance) some(most int) int {
	if r.Intn(25) == 0 {
		return append([]int{0, most + 1}, extreme...)[r.Intn(6)]
	}
	return 1 + r.Intn(most)
}

func (r chance) job() api.Job {
	key := []string{"a", "a", "b"}[r.Intn(3)]
	if r.Intn(3) == 0 {
		return hands(key, r.some(r.groups))
	}
	return api.Job{Command: []api.Command{
		{Kind: api.Append, Key: key, Value: "bc"},
		{Kind: api.Put, Key: key, Value: "x"},
		{Kind: api.Get, Key: key},
		{Kind: api.Delete, Key: key},
		{Kind: api.Swap, Key: key, Value: "y", If: r.Intn(3)},
		{Kind: r.Intn(9)},
	}[r.Intn(6)]}
}

// stranger: who opens a session; or asks in a worker's name; or changes a cell so. The node is one that a worker is to ask next, so that it may well lead.
func (r *chance) stranger(t *town.Town) api.Step {
	c, _ := t.Client(1 + r.Intn(r.workers))
	s := api.Step{Kind: api.AskNode, Node: c.Node}
	if r.Intn(2) == 0 {
		value := []string{"gone 1 4", "gone 2 2", "moving 3 4", "moving 2 1 1 =v", "here 5", "nothing"}[r.Intn(6)]
		s.Request = api.Request{Client: c.Session, Number: c.Number + 1 + r.Intn(2), Command: api.Command{Kind: api.Put, Key: []string{"ca", "cb", "d"}[r.Intn(3)], Value: value}}
	}
	return s
}

func (r *chance) step(m *model) api.GridStep {
	if r.crowd > 0 {
		r.crowd--
		c, _ := m.towns[r.crowded-1].Client(1 + r.Intn(r.workers))
		return api.GridStep{Group: r.crowded, Step: api.Step{Kind: api.AskNode, Node: c.Node}}
	}
	group := r.some(r.groups)
	s := api.Step{Kind: api.Deliver, Node: r.some(r.nodes), N: r.Intn(6) - 2}
	switch k := r.Intn(60); {
	case k < 8:
		s.Kind = api.TickAll
	case k < 10:
		s.Kind = []int{api.DropOne, api.Twice, api.TickOne, r.Intn(14)}[r.Intn(4)]
	case k < 11:
		s.Kind = api.Stop
	case k < 12:
		s.Kind, s.Part = api.Break, r.Intn(40)
	case k < 17:
		s.Kind = api.Begin
	case k < 20 && group >= 1 && group <= r.groups:
		s = r.stranger(m.towns[group-1])
	case k < 21:
		s.Kind, s.Ops = api.ChangeAt, []api.Op{{Kind: 1 + r.Intn(3), Node: 1 + r.Intn(r.nodes+1)}}
	case k < 22:
		r.crowd, r.crowded = api.MaxSessions, 1+r.Intn(r.groups)
	case k < 32:
		return api.GridStep{Want: true, Worker: r.some(r.workers), At: r.some(r.groups), Job: r.job(), Group: group, Step: s}
	}
	return api.GridStep{Worker: r.Intn(3), At: 1, Job: r.job(), Group: group, Step: s}
}

// both: a grid, and a second telling of it.
func (r *chance) both(t *testing.T) (*grid.Grid, *model) {
	w := api.World{Election: 3 + r.Intn(4), Beat: 1 + r.Intn(2), Keep: 1 + r.Intn(9), Lease: r.Intn(2) == 0}
	r.nodes, r.groups, r.workers = []int{1, 1, 2, 3, 3, 4}[r.Intn(6)], 1+r.Intn(api.MaxGroups), 1+r.Intn(api.MaxClients)
	for id := 1; id <= r.nodes; id++ {
		w.Nodes, w.Voters = append(w.Nodes, id), append(w.Voters, id)
	}
	r.crowd = 0
	patience := 1 + r.Intn(6)
	return build(t, w, r.groups, r.workers, patience), newModel(t, w, r.groups, r.workers, patience)
}

// sameNodes: do they stand so in both, in all groups?
func sameNodes(g *grid.Grid, m *model, nodes int) bool {
	for k, x := range m.towns {
		for id := range nodes + 2 {
			s, table, up := g.Look(k+1, id)
			want, wantTable, wantUp := x.Look(id)
			if tell(s, table, up) != tell(want, wantTable, wantUp) {
				return false
			}
		}
	}
	return true
}

func TestP21_2ChanceSteps(t *testing.T) {
	r := &chance{Rand: rand.New(rand.NewSource(211))}
	states, results, refused, lost := map[int]int{}, map[int]int{}, map[api.Errno]int{}, 0
	for seed := range 100 {
		g, m := r.both(t)
		for i := range 200 {
			if i%50 == 0 {
				times, nodes := r.Intn(25), r.Perm(r.nodes+2)
				g.Heal(times, nodes)
				m.heal(times, nodes)
			}
			s := r.step(m)
			e, want := g.Do(s), m.do(s)
			refused[e]++
			if e != want {
				t.Fatalf("P21.2: grid %d, step %d: %+v: %d; want %d", seed, i, s, e, want)
			}
			if got, want := tell(g.Works()), tell(m.works()); got != want {
				t.Fatalf("P21.3: grid %d, step %d: %+v: %s\nwant %s", seed, i, s, got, want)
			}
			if i%20 == 19 && !sameNodes(g, m, r.nodes) {
				t.Fatalf("P21: grid %d, step %d: %+v: nodes stand otherwise", seed, i, s)
			}
		}
		for _, x := range g.Works() {
			states[x.Status.State]++
			results[x.Status.Result.Kind]++
			if x.Status.Group > r.groups {
				lost++
			}
		}
	}
	t.Logf("states %v, results %v, refused %v, %d at groups that are not there", states, results, refused, lost)
	for _, n := range []int{states[api.Working], states[api.Ended], states[api.Unknown], results[api.Done], results[api.Missing], results[api.Unequal], refused[api.ErrWorld], refused[api.ErrBusy], refused[api.ErrJob], refused[api.ErrBound], lost} {
		if n < 5 {
			t.Errorf("P21.2: the test shows too little: states %v, results %v, refused %v, %d at groups that are not there", states, results, refused, lost)
		}
	}
}
