package grid_test

import (
	"math/rand"
	"testing"

	"quorate/api"
	"quorate/cell"
	"quorate/grid"
	"quorate/history"
)

// played: a grid in which jobs are begun while nodes and messages come to all that they may come to.
type played struct {
	*chance
	t     *testing.T
	g     *grid.Grid
	w     api.World
	calls int // commands that were begun: a history has no more than MaxCalls
}

// begin: a worker's job, if it has none: a letter more, a look at a key, another value, or the key is handed over.
func (p *played) begin() {
	key := []string{"a", "a", "b"}[p.Intn(3)]
	j := hands(key, 1+p.Intn(p.groups))
	if p.Intn(5) > 1 {
		if p.calls == api.MaxCalls-2 {
			return
		}
		j = api.Job{Command: []api.Command{
			{Kind: api.Append, Key: key, Value: string(rune('a' + p.calls))},
			{Kind: api.Append, Key: key, Value: string(rune('a' + p.calls))},
			{Kind: api.Get, Key: key},
			{Kind: api.Put, Key: key, Value: string(rune('A' + p.calls))},
			{Kind: api.Delete, Key: key},
			{Kind: api.Swap, Key: key, Value: "s", If: p.Intn(4)},
		}[p.Intn(6)]}
	}
	if p.g.Do(api.GridStep{Want: true, Worker: 1 + p.Intn(p.workers), At: 1 + p.Intn(p.groups), Job: j}) == api.OK && j.To == 0 {
		p.calls++
	}
}

// strangers: they open so many sessions in a group that all others are no more, if the node that they ask leads.
func (p *played) strangers(group int) {
	node := 1 + p.Intn(p.nodes)
	for range api.MaxSessions {
		do(p.t, p.g, group, api.Step{Kind: api.AskNode, Node: node})
	}
}

// mishap: something that nodes and messages may come to.
func (p *played) mishap() api.Step {
	s := api.Step{Node: 1 + p.Intn(p.nodes), N: p.Intn(4)}
	switch k := p.Intn(12); {
	case k < 3:
		s.Kind = api.DropOne
	case k < 5:
		s.Kind = api.Twice
	case k < 6:
		s.Kind = api.Stop
	case k < 8:
		s.Kind, s.Part = api.Break, p.Intn(40)
	default:
		s.Kind = api.Begin
	}
	return s
}

// play: a script of chance.
func (p *played) play() {
	for range 400 {
		s := api.Step{Kind: api.Deliver, N: p.Intn(3)}
		switch k := p.Intn(40); {
		case k < 8:
			s = tickAll()
		case k < 12:
			s = p.mishap()
		case k < 15:
			p.begin()
			continue
		case k < 16:
			p.strangers(1 + p.Intn(p.groups))
			continue
		}
		do(p.t, p.g, 1+p.Intn(p.groups), s)
	}
}

// maps: of all groups; their nodes have the same.
func (p *played) maps() (l [][]api.Pair) {
	p.t.Helper()
	for k := 1; k <= p.groups; k++ {
		_, x, _ := p.g.Look(k, 1)
		for id := 1; id <= p.nodes; id++ {
			if _, y, up := p.g.Look(k, id); !up || tell(y.Pairs) != tell(x.Pairs) {
				p.t.Fatalf("one state: node %d of group %d has %+v; node 1 has %+v", id, k, y.Pairs, x.Pairs)
			}
		}
		l = append(l, x.Pairs)
	}
	return l
}

// ends: all goes well, and each job comes to its end.
func (p *played) ends() {
	p.t.Helper()
	p.g.Heal(120, p.w.Nodes)
	for _, x := range p.g.Works() {
		if x.To == 0 || x.Status.State == api.Working {
			p.t.Fatalf("each job comes to its end: %s", works(p.g))
		}
	}
}

// handed: a key is where it was handed to, with what it had; and who looks for it from any group finds it.
func (p *played) handed(key string) {
	p.t.Helper()
	from, was, there := cell.Find(p.maps(), key)
	if from == 0 {
		p.t.Fatalf("each key is in one group: %s: %s", key, cells(p.g, p.groups))
	}
	to := 1 + p.Intn(p.groups)
	wants(p.t, p.g, 1+p.Intn(p.workers), 1+p.Intn(p.groups), hands(key, to), api.OK)
	p.ends()
	if at, now, is := cell.Find(p.maps(), key); at != to || now != was || is != there {
		p.t.Fatalf("a key is where it was handed to: %s: from %d (%+v) to %d: it is at %d (%+v): %s", key, from, was, to, at, now, cells(p.g, p.groups))
	}
	wants(p.t, p.g, 1+p.Intn(p.workers), 1+p.Intn(p.groups), api.Job{Command: api.Command{Kind: api.Get, Key: key}}, api.OK)
	p.ends()
	l := p.g.Works()
	last := l[len(l)-1].Status
	if last.Group != to || (last.Result.Kind == api.Done) != there || last.Result.Value != was.Value || last.Result.Version != was.Version {
		p.t.Fatalf("a key is found: %s has %+v, at %d: %s", key, was, to, works(p.g))
	}
}

// seen: what workers saw, as a history: a job may end at the step at which another begins, so each step has two places. Of some jobs nobody knows whether they were done.
func seen(l []api.Work) (out []api.Call) {
	for _, x := range l {
		c := api.Call{From: 2 * x.From, Command: x.Job.Command}
		if x.Status.State == api.Ended {
			c.To, c.Result = 2*x.To+1, x.Status.Result
		}
		if x.Job.To == 0 {
			out = append(out, c)
		}
	}
	return out
}

// One map: what all workers saw could have happened one after the other, whatever stops and is lost; once all goes well each job ends, and a key is where it was handed to.
func TestP21OneMap(t *testing.T) {
	r := &chance{Rand: rand.New(rand.NewSource(212))}
	ended, unknown, late, moved := 0, 0, 0, 0
	for seed := range 120 {
		w := of([]int{1, 2, 3, 3, 5}[r.Intn(5)])
		w.Election, w.Keep, w.Lease = 3+r.Intn(5), 1+r.Intn(9), r.Intn(2) == 0
		r.nodes, r.groups, r.workers = len(w.Nodes), 1+r.Intn(api.MaxGroups), 1+r.Intn(api.MaxClients)
		p := &played{chance: r, t: t, w: w, g: build(t, w, r.groups, r.workers, 1+r.Intn(9))}
		p.g.Heal(r.Intn(20), nil)
		p.play()
		p.ends()
		p.handed("a")
		p.handed("b")
		l := p.g.Works()
		if order, ok, e := history.Check(seen(l)); !ok || e != api.OK {
			t.Fatalf("one map: grid %d: what was seen could not have happened: %s: %v, %d", seed, works(p.g), order, e)
		}
		for _, x := range l {
			if x.Status.State == api.Unknown {
				unknown++
			} else {
				ended++
			}
			if x.To > x.From+30 {
				late++
			}
			if x.Job.To > 0 && x.Status.Result.Kind == api.Done && x.Job.To != x.Status.Group {
				moved++
			}
		}
	}
	t.Logf("%d jobs have ended, %d are unknown, %d came late, %d handed a key over", ended, unknown, late, moved)
	if ended < 1000 || unknown < 5 || late < 300 || moved < 200 {
		t.Errorf("one map: the test shows too little: %d jobs have ended, %d are unknown, %d came late, %d handed a key over", ended, unknown, late, moved)
	}
}
