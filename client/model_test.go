package client_test

import (
	"math/rand"
	"testing"

	"quorate/api"
	"quorate/client"
	"quorate/session"
	"quorate/wire"
)

// question: that was asked: for which of the things that were wanted, in which of the sessions that it had (counted).
type question struct {
	thing, session int
}

// model: a second telling of a client: it keeps all that was asked, and with it what it was asked for.
type model struct {
	nodes    []int
	patience int
	turns    int // from node to node
	asked    []question
	ticks    int // -1: it does not wait
	now      question
	id, had  int // the session; how many were answered in it
	command  *api.Command
	result   *api.Result
}

func (m *model) want(x api.Command) api.Errno {
	switch {
	case !wire.IsCommand(x):
		return api.ErrCommand
	case m.command != nil || m.result != nil:
		return api.ErrBusy
	}
	m.command, m.ticks = &x, -1
	m.now.thing++
	return api.OK
}

func (m *model) next() (api.Asked, bool) {
	if m.command == nil || m.ticks >= 0 {
		return api.Asked{}, false
	}
	m.ticks = 0
	m.asked = append(m.asked, m.now)
	a := api.Asked{ID: len(m.asked), Node: m.nodes[m.turns%len(m.nodes)]}
	if m.id != 0 {
		a.Request.Client, a.Request.Number, a.Request.Command = m.id, 1+m.had, *m.command
	}
	return a, true
}

func (m *model) tick() {
	if m.ticks >= 0 {
		m.ticks++
	}
	if m.ticks == m.patience {
		m.ticks = -1
		m.turns++
	}
}

func (m *model) answer(id int, e api.Errno, r api.Result) {
	if m.command == nil || id < 1 || id > len(m.asked) || m.asked[id-1] != m.now {
		return
	}
	if e != api.OK {
		if m.ticks >= 0 && id == len(m.asked) {
			m.ticks = -1
			m.turns++
		}
		return
	}
	m.ticks = -1
	if m.id != 0 {
		m.command, m.result = nil, &r
		m.had++
		if r.Kind >= api.Stale && r.Kind <= api.Lost {
			m.id, m.had = 0, 0
		}
	} else if r.Kind == api.Done {
		m.id, m.had = r.Version, 0
		m.now.session++
	}
}

func (m *model) done() (api.Result, bool) {
	if m.result == nil {
		return api.Result{}, false
	}
	r := *m.result
	m.result = nil
	return r, true
}

func (m *model) look() api.ClientStatus {
	return api.ClientStatus{Session: m.id, Number: m.had, Node: m.nodes[m.turns%len(m.nodes)], Waits: m.ticks >= 0, Busy: m.command != nil}
}

func someCommand(r *rand.Rand) api.Command {
	return []api.Command{get, {Kind: api.List}, {Kind: api.Put, Key: "a", Value: "b"}, {Kind: api.Swap, Key: "a", If: 3}, {}, {Kind: api.Get}}[r.Intn(6)]
}

// step: one that is drawn, of both; what they say.
func step(r *rand.Rand, c *client.Client, m *model) (string, string) {
	switch r.Intn(7) {
	case 0:
		x := someCommand(r)
		return tell(c.Want(x)), tell(m.want(x))
	case 1, 2:
		a, is := c.Next()
		b, was := m.next()
		return tell([]any{a, is}), tell([]any{b, was})
	case 3:
		c.Tick()
		m.tick()
	case 4:
		a, is := c.Done()
		b, was := m.done()
		return tell([]any{a, is}), tell([]any{b, was})
	default:
		id := len(m.asked) + 1 - r.Intn(5)
		e := []api.Errno{api.OK, api.OK, api.ErrLeader}[r.Intn(3)]
		x := api.Result{Kind: []int{1, 1, 1, 1, 2, r.Intn(10)}[r.Intn(6)], Version: r.Intn(20)}
		c.Answer(id, e, x)
		m.answer(id, e, x)
	}
	return "", ""
}

func TestP14_5ChanceSteps(t *testing.T) {
	r := rand.New(rand.NewSource(14))
	taken := 0
	for k := range 600 {
		nodes := [][]int{{1}, {2, 3}, {1, 5, 9}, {1, 2, 3, 4, 5, 6, 7, 8, 9}}[r.Intn(4)]
		patience := 1 + r.Intn(4)
		c, _ := client.New(nodes, patience)
		m := &model{nodes: nodes, patience: patience, ticks: -1}
		for i := range 120 {
			got, want := step(r, c, m)
			if got != want || c.Look() != m.look() {
				t.Fatalf("P14: client %d, step %d: %s, %+v; want %s, %+v", k, i, got, c.Look(), want, m.look())
			}
		}
		taken += m.now.thing
	}
	if taken < 1000 {
		t.Errorf("P14: too few things were wanted: %d", taken)
	}
}

// mail: that is on its way to a client.
type mail struct {
	id     int
	err    api.Errno
	result api.Result
}

// town: nodes that share a table, one of which leads; questions and answers are late, twice, and lost.
type town struct {
	table  api.Table
	index  int
	leader int
	asked  []api.Asked
	mail   []mail
}

// take: one of the questions on their way comes to its node.
func (w *town) take(r *rand.Rand) {
	if len(w.asked) == 0 {
		return
	}
	i := r.Intn(len(w.asked))
	a := w.asked[i]
	if r.Intn(3) > 0 {
		w.asked = append(w.asked[:i:i], w.asked[i+1:]...)
	}
	if a.Node != w.leader {
		w.mail = append(w.mail, mail{id: a.ID, err: api.ErrLeader})
		return
	}
	w.index++
	x := mail{id: a.ID}
	w.table, x.result = session.Run(w.table, a.Request, w.index)
	w.mail = append(w.mail, x)
}

// give: one of the answers on their way comes to the client, or is lost.
func (w *town) give(r *rand.Rand, c *client.Client) {
	if len(w.mail) == 0 {
		return
	}
	i := r.Intn(len(w.mail))
	x := w.mail[i]
	if r.Intn(3) > 0 {
		w.mail = append(w.mail[:i:i], w.mail[i+1:]...)
	}
	if r.Intn(4) > 0 {
		c.Answer(x.id, x.err, x.result)
	}
}

// What a client wants is done once, however often it is asked, as long as its session is there.
func TestP14_5DoneOnce(t *testing.T) {
	r := rand.New(rand.NewSource(15))
	for k := range 40 {
		c, _ := client.New([]int{1, 2, 3}, 1+r.Intn(4))
		w := &town{leader: 1}
		want := ""
		for i := range 20 {
			letter := string(rune('a' + i))
			wants(t, c, api.Command{Kind: api.Append, Key: "k", Value: letter}, api.OK)
			for steps := 0; c.Look().Busy; steps++ {
				if steps > 10000 {
					t.Fatalf("P14: town %d: %s is not done: %+v", k, letter, c.Look())
				}
				if a, is := c.Next(); is {
					w.asked = append(w.asked, a)
				}
				w.take(r)
				w.give(r, c)
				c.Tick()
				if r.Intn(20) == 0 {
					w.leader = 1 + r.Intn(3)
				}
			}
			switch x, _ := c.Done(); x.Kind {
			case api.Done:
				want += letter
			case api.Lost: // nobody knows whether it was done
				if l := w.table.Pairs; len(l) > 0 {
					want = l[0].Value
				}
			default:
				t.Fatalf("P14: town %d: %s: %+v", k, letter, x)
			}
			if l := w.table.Pairs; len(l) != min(1, len(want)) || len(l) > 0 && l[0].Value != want {
				t.Fatalf("P14: town %d: behind %s there is %+v; want %s", k, letter, l, want)
			}
		}
	}
}
