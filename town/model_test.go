package town_test

import (
	"math/rand"
	"testing"

	"quorate/api"
	"quorate/client"
	"quorate/town"
	"quorate/world"
)

// model: a second telling of a town: behind each step it looks through the whole history of its world, and forgets nothing that was asked.
type model struct {
	w       *world.World
	clients []*client.Client
	asked   []question
	wants   []api.Call
	step    int
}

// question: of a client, under its number: which call of the history that is, and whether the client was told of its answer.
type question struct {
	client, id, call int
	told             bool
}

func newModel(t *testing.T, s api.World, clients, patience int) *model {
	t.Helper()
	w, e := world.New(s)
	if e != api.OK {
		t.Fatal(e)
	}
	m := &model{w: w}
	for range clients {
		c, e := client.New(s.Nodes, patience)
		if e != api.OK {
			t.Fatal(e)
		}
		m.clients = append(m.clients, c)
	}
	return m
}

func (m *model) do(s api.TownStep) api.Errno {
	e := api.OK
	switch {
	case !s.Want:
		m.world(s.Step)
	case s.Client < 1 || s.Client > len(m.clients):
		e = api.ErrWorld
	default:
		e = m.want(s.Client, s.Command)
	}
	for k := range m.clients {
		m.ask(k + 1)
	}
	return e
}

func (m *model) want(k int, x api.Command) api.Errno {
	e := m.clients[k-1].Want(x)
	if e == api.OK {
		number := 1
		for _, c := range m.wants {
			if c.Client == k {
				number++
			}
		}
		m.wants = append(m.wants, api.Call{From: m.step + 1, Client: k, Number: number, Command: x})
	}
	return e
}

func (m *model) world(s api.Step) {
	m.step++
	m.w.Do(s)
	h := m.w.History()
	for i, q := range m.asked {
		if c := h[q.call]; c.To > 0 && !q.told {
			m.asked[i].told = true
			m.tell(q.client, q.id, c.Err, c.Result)
		}
	}
	if s.Kind == api.TickAll {
		for _, c := range m.clients {
			c.Tick()
		}
	}
}

func (m *model) ask(k int) {
	a, is := m.clients[k-1].Next()
	if !is {
		return
	}
	was := len(m.w.History())
	m.step++
	m.w.Do(api.Step{Kind: api.AskNode, Node: a.Node, Request: a.Request})
	h := m.w.History()
	if len(h) == was {
		m.tell(k, a.ID, api.ErrDown, api.Result{})
		return
	}
	c := h[was]
	m.asked = append(m.asked, question{k, a.ID, was, c.To > 0})
	if c.To > 0 {
		m.tell(k, a.ID, c.Err, c.Result)
	}
}

func (m *model) tell(k, id int, e api.Errno, x api.Result) {
	m.clients[k-1].Answer(id, e, x)
	r, is := m.clients[k-1].Done()
	if !is {
		return
	}
	for i := len(m.wants) - 1; i >= 0; i-- {
		if m.wants[i].Client == k {
			m.wants[i].To, m.wants[i].Result = m.step, r
			return
		}
	}
}

func (m *model) heal(times int, nodes []int) {
	for _, id := range nodes {
		m.do(api.TownStep{Step: api.Step{Kind: api.Break, Node: id, N: api.MaxNumber}})
		m.do(api.TownStep{Step: api.Step{Kind: api.Begin, Node: id}})
	}
	for range times {
		m.do(api.TownStep{Step: api.Step{Kind: api.TickAll}})
		for k := 0; k < 200 && m.w.Way() > 0; k++ {
			m.do(api.TownStep{Step: api.Step{Kind: api.Deliver}})
		}
	}
}

// chance: a script of a town, drawn.
type chance struct {
	*rand.Rand
	nodes, clients int
}

// node: one of the world, as a rule.
func (r chance) node() int {
	if r.Intn(15) == 0 {
		return append([]int{0, r.nodes + 1}, extreme...)[r.Intn(6)]
	}
	return 1 + r.Intn(r.nodes)
}

func (r chance) command() api.Command {
	key := []string{"k", "j", "kk"}[r.Intn(3)]
	return []api.Command{add("a"), {Kind: api.Append, Key: key, Value: "bc"}, {Kind: api.Put, Key: key, Value: "x"}, get(key), {Kind: api.Delete, Key: key},
		{Kind: api.Swap, Key: key, Value: "y", If: r.Intn(3)}, {Kind: api.List, Key: "k", If: 1 + r.Intn(3)}, {Kind: r.Intn(9)}}[r.Intn(8)]
}

// request: one that opens a session; or one in a client's name, with a number that it has not come to yet.
func (r chance) request(m *model) api.Request {
	if r.Intn(3) == 0 {
		return api.Request{}
	}
	s := m.clients[r.Intn(r.clients)].Look()
	return api.Request{Client: s.Session, Number: s.Number + r.Intn(4), Command: r.command()}
}

func (r chance) ops() (l []api.Op) {
	for range 1 + r.Intn(2) {
		l = append(l, api.Op{Kind: 1 + r.Intn(3), Node: 1 + r.Intn(r.nodes+1)})
	}
	return l
}

func (r chance) step(m *model) api.TownStep {
	s := api.Step{Kind: api.Deliver, Node: r.node(), N: r.Intn(6) - 2}
	switch k := r.Intn(60); {
	case k < 8:
		s.Kind = api.TickAll
	case k < 10:
		s.Kind = []int{api.DropOne, api.Twice, api.TickOne, r.Intn(14)}[r.Intn(4)]
	case k < 11:
		s.Kind = api.Stop
	case k < 13:
		s.Kind, s.Part = api.Break, r.Intn(40)
	case k < 17:
		s.Kind = api.Begin
	case k < 19:
		s.Kind, s.Request = api.AskNode, r.request(m)
	case k < 20:
		s.Kind, s.Request = api.ReadNode, api.Request{Command: r.command()}
	case k < 21:
		s.Kind, s.Ops = api.ChangeAt, r.ops()
	case k < 28:
		k := 1 + r.Intn(r.clients)
		if r.Intn(15) == 0 {
			k = append([]int{0, r.clients + 1}, extreme...)[r.Intn(6)]
		}
		return api.TownStep{Want: true, Client: k, Command: r.command(), Step: s}
	}
	return api.TownStep{Client: r.Intn(3), Command: get("k"), Step: s}
}

// some: a world, and a town and a second telling of it.
func (r *chance) some(t *testing.T) (*town.Town, *model) {
	w := api.World{Election: 3 + r.Intn(4), Beat: 1 + r.Intn(2), Keep: 1 + r.Intn(9), Lease: r.Intn(2) == 0}
	r.nodes, r.clients = []int{1, 2, 3, 3, 4, 5}[r.Intn(6)], 1+r.Intn(api.MaxClients)
	voters := r.nodes - r.Intn(2)*r.Intn(r.nodes)
	for id := 1; id <= r.nodes; id++ {
		w.Nodes = append(w.Nodes, id)
		if id <= voters {
			w.Voters = append(w.Voters, id)
		}
	}
	patience := 1 + r.Intn(6)
	return begin(t, w, r.clients, patience), newModel(t, w, r.clients, patience)
}

// sameClients: do they stand so in both, and is there none beside them?
func sameClients(x *town.Town, m *model) bool {
	for k := range len(m.clients) + 2 {
		s, is := x.Client(k)
		there := k >= 1 && k <= len(m.clients)
		if is != there || there && s != m.clients[k-1].Look() {
			return false
		}
	}
	return true
}

// both: what they tell of what was wanted, of calls and of nodes.
func both(x *town.Town, m *model, nodes int) (string, string) {
	got, want := []any{x.Wants(), x.History(), x.Way()}, []any{m.wants, m.w.History(), m.w.Way()}
	for id := range nodes + 2 {
		s, table, up := x.Look(id)
		got = append(got, s.Role, s.Hard, table, up)
		s, table, up = m.w.Look(id)
		want = append(want, s.Role, s.Hard, table, up)
	}
	return tell(got...), tell(want...)
}

func TestP15_2ChanceSteps(t *testing.T) {
	r := &chance{Rand: rand.New(rand.NewSource(151))}
	results, refused := map[int]int{}, map[api.Errno]int{}
	for seed := range 80 {
		x, m := r.some(t)
		for i := range 200 {
			if i%60 == 0 {
				times, nodes := r.Intn(12), r.Perm(r.nodes+2)
				x.Heal(times, nodes)
				m.heal(times, nodes)
			}
			s := r.step(m)
			e, want := x.Do(s), m.do(s)
			refused[e]++
			if e != want || !sameClients(x, m) {
				t.Fatalf("P15.2: town %d, step %d: %+v: %d; want %d", seed, i, s, e, want)
			}
			if i%20 < 19 {
				continue
			}
			if got, want := both(x, m, r.nodes); got != want {
				t.Fatalf("P15: town %d, step %d: %+v: %s\nwant %s", seed, i, s, got, want)
			}
		}
		for _, c := range x.Wants() {
			results[c.Result.Kind]++
		}
	}
	for _, kind := range []int{0, api.Done, api.Missing, api.Unequal, api.Lost} {
		if results[kind] < 5 {
			t.Errorf("P15.2: too few results of all kinds: %v", results)
		}
	}
	if refused[api.ErrWorld] < 20 || refused[api.ErrBusy] < 20 || refused[api.ErrCommand] < 20 {
		t.Errorf("P15.2: too few were refused: %v", refused)
	}
}
