package relay_test

import (
	"fmt"
	"math/rand"
	"slices"
	"testing"

	"quorate/api"
	"quorate/relay"
)

// model: a second telling of a relay: it forgets nothing that was sent or has come.
type model struct {
	id    int
	sent  map[int][]string // by hosts
	acked map[int]int
	came  map[int][]string
}

func newModel(id int) *model {
	return &model{id: id, sent: map[int][]string{}, acked: map[int]int{}, came: map[int][]string{}}
}

func (m *model) isHost(n int) bool {
	return n > 0 && n < 10 && n != m.id
}

func (m *model) send(to int, body string) api.Errno {
	if !m.isHost(to) {
		return api.ErrStart
	}
	if len(m.sent[to])-m.acked[to] >= 16 {
		return api.ErrBound
	}
	m.sent[to] = append(m.sent[to], body)
	return api.OK
}

func (m *model) packets() (l []api.Packet) {
	for to := 1; to <= 9; to++ {
		for i, body := range m.sent[to] {
			if i >= m.acked[to] {
				l = append(l, packet(m.id, to, i+1, body))
			}
		}
	}
	return l
}

func (m *model) receive(x api.Packet) (come []api.Parcel, acks []api.Packet) {
	switch {
	case x.To != m.id || !m.isHost(x.From) || x.Number <= 0:
		return nil, nil
	case x.Ack && x.Number <= len(m.sent[x.From]):
		m.acked[x.From] = max(m.acked[x.From], x.Number)
		return nil, nil
	case x.Ack:
		return nil, nil
	}
	if x.Number == 1+len(m.came[x.From]) {
		m.came[x.From] = append(m.came[x.From], x.Body)
		come = []api.Parcel{{From: x.From, Body: x.Body}}
	}
	if n := len(m.came[x.From]); n > 0 {
		acks = []api.Packet{ack(m.id, x.From, n)}
	}
	return come, acks
}

// somePacket: often one that means something.
func somePacket(r *rand.Rand, m *model) api.Packet {
	x := api.Packet{From: r.Intn(11), To: m.id, Ack: r.Intn(2) > 0, Body: fmt.Sprint(r.Intn(100))}
	if r.Intn(3) > 0 {
		x.From = 1 + m.id%3
	}
	x.Number = len(m.came[x.From]) + r.Intn(4) - 1
	if x.Ack {
		x.Number = m.acked[x.From] + r.Intn(6) - 2
	}
	if r.Intn(20) == 0 {
		x.To = r.Intn(11)
	}
	return x
}

func TestP18_3ChanceSteps(t *testing.T) {
	r := rand.New(rand.NewSource(18))
	full, came, acked := 0, 0, 0
	for k := range 200 {
		id := 1 + r.Intn(9)
		x, m := begin(t, id), newModel(id)
		for i := range 300 {
			got, want := "", ""
			if r.Intn(2) > 0 {
				to, body := []int{r.Intn(11), 1 + id%3}[r.Intn(2)], fmt.Sprint(i)
				e := m.send(to, body)
				got, want = tell(x.Send(to, body)), tell(e)
				if e == api.ErrBound {
					full++
				}
			} else {
				p := somePacket(r, m)
				a, b := x.Receive(p)
				c, d := m.receive(p)
				got, want = tell([]any{a, b}), tell([]any{c, d})
				came += len(c)
			}
			if got != want || !slices.Equal(x.Packets(), m.packets()) {
				t.Fatalf("P18: relay %d, step %d: %s, %+v; want %s, %+v", k, i, got, x.Packets(), want, m.packets())
			}
		}
		acked += m.acked[1+id%3]
	}
	if full < 100 || came < 1000 || acked < 1000 {
		t.Errorf("P18: too little: %d sends were refused, %d bodies came, %d were acknowledged", full, came, acked)
	}
}

// net: relays, what is on its way between them, what each has sent each, and what has come.
type net struct {
	hosts []*relay.Relay
	way   []api.Packet
	sent  map[[2]int][]string
	came  map[[2]int][]string
}

func newNet(t *testing.T, hosts int) *net {
	t.Helper()
	n := &net{sent: map[[2]int][]string{}, came: map[[2]int][]string{}}
	for id := 1; id <= hosts; id++ {
		n.hosts = append(n.hosts, begin(t, id))
	}
	return n
}

func (n *net) send(from, to int, body string) {
	if n.hosts[from-1].Send(to, body) == api.OK {
		n.sent[[2]int{from, to}] = append(n.sent[[2]int{from, to}], body)
	}
}

// arrive: the packet at a place comes to its host.
func (n *net) arrive(t *testing.T, at int) {
	t.Helper()
	x := n.way[at]
	come, acks := n.hosts[x.To-1].Receive(x)
	n.way = append(n.way, acks...)
	for _, p := range come {
		pair := [2]int{p.From, x.To}
		n.came[pair] = append(n.came[pair], p.Body)
		if a, b := n.came[pair], n.sent[pair]; len(a) > len(b) || !slices.Equal(a, b[:len(a)]) {
			t.Fatalf("P18.3: from %d to %d came %q; sent was %q", p.From, x.To, a, b)
		}
	}
}

// step: one that is drawn.
func (n *net) step(t *testing.T, r *rand.Rand, body string) {
	t.Helper()
	from, to := 1+r.Intn(len(n.hosts)), 1+r.Intn(len(n.hosts))
	at := r.Intn(max(1, len(n.way)))
	switch k := r.Intn(8); {
	case k < 2:
		n.send(from, to, body)
	case k < 3 && len(n.way) < 200:
		n.way = append(n.way, n.hosts[from-1].Packets()...)
	case len(n.way) == 0:
	case k < 4:
		n.way = slices.Delete(n.way, at, at+1)
	case k < 5:
		n.arrive(t, at) // and it stays on its way
	default:
		n.arrive(t, at)
		n.way = slices.Delete(n.way, at, at+1)
	}
}

// heal: all that waits is sent, and comes.
func (n *net) heal(t *testing.T) {
	t.Helper()
	for _, x := range n.hosts {
		n.way = append(n.way, x.Packets()...)
	}
	for at := 0; at < len(n.way); at++ {
		n.arrive(t, at)
	}
	n.way = nil
}

// What comes of it: whatever is lost, doubled or turned round, a beginning of what was sent comes; all of it, once packets come.
func TestP18_3WhatComesOfIt(t *testing.T) {
	r := rand.New(rand.NewSource(19))
	bodies := 0
	for k := range 60 {
		n := newNet(t, 2+r.Intn(4))
		for i := range 600 {
			n.step(t, r, fmt.Sprintf("%d of %d", i, k))
		}
		n.heal(t)
		for pair, l := range n.sent {
			if !slices.Equal(n.came[pair], l) {
				t.Fatalf("P18.3: net %d: of %d to %d %d bodies came; %d were sent", k, pair[0], pair[1], len(n.came[pair]), len(l))
			}
			bodies += len(l)
		}
		for _, x := range n.hosts {
			waits(t, x)
		}
	}
	if bodies < 3000 {
		t.Errorf("P18: too little was sent: %d bodies", bodies)
	}
}
