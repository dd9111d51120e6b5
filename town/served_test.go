package town_test

import (
	"math/rand"
	"strings"
	"testing"

	"quorate/api"
	"quorate/history"
	"quorate/town"
)

// The document's example of the whole, 8.
func TestP15TheExampleOfTheWhole(t *testing.T) {
	a := begin(t, of(3), 2, 3)
	wants(t, a, 1, add("a"), api.OK)
	wants(t, a, 2, add("b"), api.OK)
	a.Heal(12, nil)
	for i, c := range a.Wants() {
		if c.Client != i+1 || c.To == 0 || tell(c.Result) != tell(api.Result{Kind: api.Done, Version: i + 1}) {
			t.Errorf("8: both have Done: %s", wanted(a))
		}
	}
}

// letters: clients who each want a letter more behind k's value, or to see it; 16 things at most.
type letters struct {
	*chance
	x     *town.Town
	count int
}

func (l *letters) want() {
	c := get("k")
	if l.Intn(3) > 0 {
		c = add(string(rune('a' + l.count)))
	}
	if l.count < api.MaxCalls && l.x.Do(api.TownStep{Want: true, Client: 1 + l.Intn(l.clients), Command: c}) == api.OK {
		l.count++
	}
}

// mishap: something that nodes and messages may come to.
func (l *letters) mishap() api.Step {
	s := api.Step{Node: 1 + l.Intn(l.nodes), N: l.Intn(4)}
	switch k := l.Intn(12); {
	case k < 3:
		s.Kind = api.DropOne
	case k < 5:
		s.Kind = api.Twice
	case k < 6:
		s.Kind = api.Stop
	case k < 8:
		s.Kind, s.Part = api.Break, l.Intn(40)
	default:
		s.Kind = api.Begin
	}
	return s
}

// play: a script of chance, and then all goes well.
func (l *letters) play(nodes []int) {
	for range 300 {
		switch k := l.Intn(40); {
		case k < 8:
			l.x.Do(api.TownStep{Step: tickAll()})
		case k < 12:
			l.x.Do(api.TownStep{Step: l.mishap()})
		case k < 14:
			l.want()
		default:
			l.x.Do(api.TownStep{Step: api.Step{Kind: api.Deliver, N: l.Intn(3)}})
		}
	}
	l.x.Heal(60, nodes)
}

// seen: what clients saw, as a history: an answer may come at the step of its question, so each step has two places. Of what was asked in a session that is no more nobody knows whether it was done.
func seen(l []api.Call) (out []api.Call) {
	for _, c := range l {
		x := api.Call{From: 2 * c.From, Command: c.Command}
		if c.Result.Kind != api.Lost {
			x.To, x.Result = 2*c.To+1, c.Result
		}
		out = append(out, x)
	}
	return out
}

// Served: all that clients want is done, once each, and what they saw could have happened one after the other.
func TestP15Served(t *testing.T) {
	r := &chance{Rand: rand.New(rand.NewSource(152))}
	done, late := 0, 0
	for seed := range 120 {
		w := of(1 + r.Intn(5))
		w.Election, w.Keep, w.Lease = 3+r.Intn(5), 1+r.Intn(9), r.Intn(2) == 0
		r.nodes, r.clients = len(w.Nodes), 1+r.Intn(api.MaxClients)
		x := &letters{chance: r, x: begin(t, w, r.clients, 1+r.Intn(9))}
		x.x.Heal(r.Intn(20), nil)
		x.play(w.Nodes)
		value := ""
		if _, table, _ := x.x.Look(1); len(table.Pairs) > 0 {
			value = table.Pairs[0].Value
		}
		l := x.x.Wants()
		for _, c := range l {
			if c.To == 0 {
				t.Fatalf("served: town %d: it is not done: %+v", seed, c)
			}
			if n := strings.Count(value, c.Command.Value); c.Result.Kind == api.Done && c.Command.Kind == api.Append && n != 1 {
				t.Fatalf("once: town %d: %+v is done %d times: %s", seed, c, n, value)
			}
			if done++; c.To > c.From+20 {
				late++
			}
		}
		if order, ok, e := history.Check(seen(l)); !ok || e != api.OK {
			t.Fatalf("one after the other: town %d: %s: %v, %v, %d", seed, brief(l), order, ok, e)
		}
	}
	if done < 500 || late < 100 {
		t.Errorf("served: %d things were wanted, %d of them came late: the test shows too little", done, late)
	}
}

// Whoever leads: as long as enough nodes are up all is done.
func TestP15ServedWithoutAMinority(t *testing.T) {
	for down := range 4 {
		a := led(t, 3, 2, 3)
		for i := range 8 {
			wants(t, a, 1+i%2, add(string(rune('a'+i))), api.OK)
			if i == 3 {
				do(t, a, stop(down))
			}
			a.Heal(40, nil)
		}
		for i, c := range a.Wants() {
			if c.To == 0 || c.Number != 1+i/2 || tell(c.Result) != tell(api.Result{Kind: api.Done, Version: i + 1}) {
				t.Errorf("served: without node %d: %s", down, wanted(a))
			}
		}
	}
}
