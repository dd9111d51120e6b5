package world_test

import (
	"fmt"
	"math/rand"
	"slices"
	"strings"
	"testing"

	"quorate/api"
	"quorate/config"
	"quorate/rlog"
	"quorate/session"
	"quorate/wire"
	"quorate/world"
)

// play: a world, a script of chance, and all that was ever seen of it.
type play struct {
	t         *testing.T
	r         *rand.Rand
	s         api.World
	w         *world.World
	leaders   map[int]int          // by term
	votes     map[[2]int]int       // by node and term
	entries   map[[2]int]api.Entry // by index and term
	ahead     map[[2]int]int       // the term ahead of such an entry
	logs      map[int]api.Log      // by node, as they were behind the last step
	committed []api.Entry          // by index, from 1 on
	tables    []api.Table          // what the committed entries make
	asked     []asking             // by calls
	numbers   [3]int               // by clients: the number of what they ask now
	slow      int                  // how slowly messages come
	seen      map[string]int
}

// asking: whom a call was asked of, and in which term.
type asking struct {
	node, term int
	read       bool
}

// clients: their sessions, which are opened first of all.
var clients = [3]int{2, 3, 4}

func newPlay(t *testing.T, seed int64, seen map[string]int) *play {
	r := rand.New(rand.NewSource(seed))
	s := api.World{Election: 3 + r.Intn(5), Beat: 1 + r.Intn(2), Keep: 1 + r.Intn(8), Lease: r.Intn(3) == 0}
	voting := []int{1, 2, 3, 3, 4, 5}[r.Intn(6)]
	for id := 1; id <= voting+r.Intn(3); id++ {
		s.Nodes = append(s.Nodes, id)
		if id <= voting {
			s.Voters = append(s.Voters, id)
		}
	}
	p := &play{t: t, r: r, s: s, w: begin(t, s), slow: 1 + 9*r.Intn(2), seen: seen, tables: []api.Table{{}}, numbers: [3]int{1, 1, 1},
		leaders: map[int]int{}, votes: map[[2]int]int{}, entries: map[[2]int]api.Entry{}, ahead: map[[2]int]int{}, logs: map[int]api.Log{}}
	p.heal(4 * s.Election)
	for range clients {
		p.do(opens(p.leader()))
		p.comes()
	}
	for i, c := range p.w.History() {
		if c.To == 0 || c.Err != api.OK || c.Result.Version != clients[i] {
			t.Fatalf("answered: sessions: %s", calls(p.w))
		}
	}
	return p
}

// heal: as Heal does, step by step, with a look behind each.
func (p *play) heal(times int) {
	p.w.Heal(0)
	for _, id := range p.s.Nodes {
		p.lookAt(id)
	}
	for range times {
		p.do(api.Step{Kind: api.TickAll})
		p.comes()
	}
}

func (p *play) comes() {
	for range 2000 {
		if p.w.Way() == 0 {
			return
		}
		p.do(api.Step{Kind: api.Deliver})
	}
	p.t.Fatal("answered: messages without an end")
}

// leader: the node that leads in the greatest term; 0: none does.
func (p *play) leader() (id int) {
	term := 0
	for _, n := range p.s.Nodes {
		if s, _, up := p.w.Look(n); up && s.Role == api.Leader && s.Hard.Term > term {
			id, term = n, s.Hard.Term
		}
	}
	return id
}

// do: a step, and all that must hold behind it.
func (p *play) do(s api.Step) {
	was, _, up := p.w.Look(s.Node)
	before := len(p.w.History())
	events := p.w.Do(s)
	h := p.w.History()
	if len(h) > before {
		p.asked = append(p.asked, asking{s.Node, was.Hard.Term, s.Kind == api.ReadNode})
	}
	isCall := s.Kind == api.AskNode || s.Kind == api.ReadNode
	if isCall != (len(h) > before) && (up || len(h) > before) {
		p.t.Fatalf("P10.3: %+v of %+v: the calls are %s", s, was, calls(p.w))
	}
	p.look(events)
	p.count(s, events)
	for _, e := range events {
		for _, a := range e.Answers {
			p.answered(e.Node, a, len(h) > before && a.Token == len(h), was)
		}
	}
}

// count: what came about.
func (p *play) count(s api.Step, events []api.Event) {
	for _, e := range events {
		if _, _, up := p.w.Look(e.Node); !up && s.Kind != api.Stop && e.Err == api.OK {
			p.seen["broken"]++
		}
		for _, x := range e.Sends {
			p.seen["sent "+kindOf(x.Frame)]++
		}
		if len(e.Acts) > 3 {
			p.seen["cut short"]++
		}
	}
	p.seen[fmt.Sprintf("steps %d", s.Kind)]++
}

// answered: refused for a reason.
func (p *play) answered(node int, a api.Answer, atOnce bool, was api.Status) {
	if a.Token == 0 {
		return
	}
	x := p.asked[a.Token-1]
	now, _, _ := p.w.Look(node)
	switch {
	case node != x.node:
		p.t.Fatalf("P10.3: %+v is answered by node %d", x, node)
	case a.Err == api.OK:
		p.seen["answered"]++
	case atOnce:
		early := was.Role == api.Leader && a.Err == api.ErrEarly && x.read
		if was.Role == api.Leader && !early || was.Role != api.Leader && a.Err != api.ErrLeader {
			p.t.Fatalf("refused for a reason: %+v: %+v", was, a)
		}
	default:
		if a.Err != api.ErrLeader || now.Hard.Term <= x.term && !(x.read && now.Role != api.Leader) {
			p.t.Fatalf("refused for a reason: asked %+v, now %+v: %+v", x, now, a)
		}
		p.seen["refused later"]++
	}
}

// look: at the nodes of a step's events.
func (p *play) look(events []api.Event) {
	for _, e := range events {
		p.written(e)
		p.lookAt(e.Node)
	}
}

// lookAt: a node, and its files.
func (p *play) lookAt(id int) {
	k, e := p.w.Kept(id)
	if e != api.OK {
		p.t.Fatalf("P10.6: the files of node %d: %v", id, e)
	}
	p.log(k.Log)
	p.logs[id] = k.Log
	if k.Hard.Vote > 0 {
		p.vote(id, k.Hard)
	}
	s, x, up := p.w.Look(id)
	if !up {
		return
	}
	if k.Hard != s.Hard || tell(k.Log) != tell(s.Log) {
		p.t.Fatalf("nothing is said that is not kept: %+v; its files say %+v", s, k)
	}
	p.stands(s, x)
}

// stands: a node that is up, with its table.
func (p *play) stands(s api.Status, x api.Table) {
	if other, led := p.leaders[s.Hard.Term]; s.Role == api.Leader {
		if led && other != s.ID {
			p.t.Fatalf("one leader a term: %d and %d in term %d", other, s.ID, s.Hard.Term)
		}
		p.leaders[s.Hard.Term] = s.ID
	}
	p.commit(s.Log.Base, s.Log.BaseTerm)
	if term, _ := rlog.TermAt(s.Log, s.Hard.Commit); s.Hard.Commit > s.Log.Base {
		p.commit(s.Hard.Commit, term)
	}
	if s.Applied != s.Hard.Commit || tell(x) != tell(p.tables[s.Applied]) {
		p.t.Fatalf("one state: %+v has the table %+v; the committed entries make %+v", s, x, p.tables[s.Applied])
	}
}

func (p *play) vote(id int, h api.Hard) {
	at := [2]int{id, h.Term}
	if other := p.votes[at]; other > 0 && other != h.Vote {
		p.t.Fatalf("nothing is said that is not kept: node %d has voted for %d and %d in term %d", id, other, h.Vote, h.Term)
	}
	p.votes[at] = h.Vote
}

// written: entries that a node has put into its log; some may be in no log any more when the step is done.
func (p *play) written(e api.Event) {
	if len(e.Acts) == 0 || e.Acts[0].What != api.AppendFile {
		return
	}
	var l []api.Entry
	for rest := e.Acts[0].Data; rest != ""; {
		body, behind, err := wire.Unframe(rest)
		if err != api.OK {
			p.t.Fatalf("P8.2: %q", e.Acts[0].Data)
		}
		if rest = behind; body[0] == 2 {
			x, _ := wire.GetEntry(body[1:])
			l = append(l, x)
		}
	}
	if len(l) == 0 {
		return
	}
	base := l[0].Index - 1
	if term, err := rlog.TermAt(p.logs[e.Node], base); err == api.OK {
		p.log(api.Log{Base: base, BaseTerm: term, Entries: l})
	}
}

// log: logs match.
func (p *play) log(l api.Log) {
	term := l.BaseTerm
	for _, e := range l.Entries {
		at := [2]int{e.Index, e.Term}
		if other, is := p.entries[at]; is && (other != e || p.ahead[at] != term) {
			p.t.Fatalf("logs match: %+v behind term %d, and %+v behind term %d", e, term, other, p.ahead[at])
		}
		p.entries[at], p.ahead[at], term = e, term, e.Term
	}
}

// commit: an index, with an entry of that term, and all ahead of it, for good.
func (p *play) commit(index, term int) {
	if index == 0 {
		return
	}
	at := [2]int{index, term}
	e, is := p.entries[at]
	if !is {
		p.t.Fatalf("one state: an entry of index %d, term %d, that nobody wrote, is committed", index, term)
	}
	if index <= len(p.committed) {
		if p.committed[index-1] != e {
			p.t.Fatalf("one state: %+v and %+v are committed", e, p.committed[index-1])
		}
		return
	}
	p.commit(index-1, p.ahead[at])
	now := p.tables[index-1]
	if e.Kind == api.Ask {
		q, _ := wire.GetRequest(e.Data)
		now, _ = session.Run(now, q, index)
	}
	p.committed, p.tables = append(p.committed, e), append(p.tables, now)
}

// next: a client goes on to its next request, once it has an answer; some ask again and again.
func (p *play) next(c int) api.Request {
	for _, x := range p.w.History() {
		if x.Client == clients[c] && x.Number == p.numbers[c] && x.To > 0 && x.Err == api.OK {
			if x.Result.Kind != api.Done {
				p.t.Fatalf("once: %+v", x)
			}
			p.numbers[c]++
			break
		}
	}
	return appends(clients[c], p.numbers[c], letter(c, p.numbers[c]))
}

// letter: one for each request of each client.
func letter(c, number int) string {
	return string(rune('!' + most*c + number))
}

// most: requests of a client, so that all have room in one value.
const most = 20

// chance: a step.
func (p *play) chance() api.Step {
	node := p.s.Nodes[p.r.Intn(len(p.s.Nodes))]
	if id := p.leader(); id > 0 && p.r.Intn(3) > 0 {
		node = id
	}
	switch k := p.r.Intn(60); {
	case k < 14:
		return api.Step{Kind: api.TickAll}
	case k < 17:
		return tick(p.s.Nodes[p.r.Intn(len(p.s.Nodes))])
	case k < 19:
		return api.Step{Kind: api.DropOne, N: p.r.Intn(9)}
	case k < 21:
		return api.Step{Kind: api.Twice, N: p.r.Intn(9)}
	case k < 22:
		return stop(node)
	case k < 23:
		p.do(breaks(node, p.r.Intn(7)-1, p.r.Intn(40)-1))
		return ask(node, p.next(p.r.Intn(3)))
	case k < 27:
		return up(p.down())
	case k < 32:
		return ask(node, p.next(p.r.Intn(3)))
	case k < 36:
		return read(node, get("k"))
	case k < 37:
		return change(node, api.Op{Kind: 1 + p.r.Intn(3), Node: p.s.Nodes[p.r.Intn(len(p.s.Nodes))]})
	}
	for range p.r.Intn(p.w.Way()+1) / p.slow {
		p.do(api.Step{Kind: api.Deliver, N: p.r.Intn(3) * p.r.Intn(4)})
	}
	return api.Step{Kind: api.Deliver}
}

// down: a node that is, or else any.
func (p *play) down() int {
	at := slices.IndexFunc(p.s.Nodes, func(id int) bool {
		_, _, up := p.w.Look(id)
		return !up
	})
	return p.s.Nodes[max(at, 0)]
}

// act: what a client did, or saw: at which steps, and how many things had been done by then, with that.
type act struct {
	from, to, at int
	read         bool
}

// acts: of all clients: of what was asked several times the first question, and the first answer.
func (p *play) acts(value string) (l []act) {
	first := map[[2]int]int{}
	for _, c := range p.w.History() {
		switch {
		case c.Client == 0 && c.Command.Kind == api.Get && c.To > 0 && c.Err == api.OK:
			if !strings.HasPrefix(value, c.Result.Value) || c.Result.Version != len(c.Result.Value) {
				p.t.Fatalf("linearizable: %+v, of %q", c, value)
			}
			l = append(l, act{c.From, c.To, c.Result.Version, true})
			p.seen["reads"]++
		case c.Client > 0:
			at := [2]int{c.Client, c.Number}
			i, is := first[at]
			if !is {
				i, first[at] = len(l), len(l)
				l = append(l, act{from: c.From})
			}
			if c.To == 0 || c.Err != api.OK || c.Result.Kind != api.Done {
				continue
			}
			if x := l[i]; x.to == 0 || c.To < x.to {
				l[i].to, l[i].at = c.To, c.Result.Version
			}
			if n := c.Result.Version; n > len(value) || value[n-1:n] != c.Command.Value {
				p.t.Fatalf("linearizable: %+v, of %q", c, value)
			}
		}
	}
	return slices.DeleteFunc(l, func(x act) bool { return x.to == 0 })
}

// linear: what was answered ahead of a question stands ahead of it.
func (p *play) linear(value string) {
	l := p.acts(value)
	for _, a := range l {
		for _, b := range l {
			if a.to < b.from && (a.at > b.at || a.at == b.at && !b.read) {
				p.t.Fatalf("linearizable: %+v ahead of %+v, in %s", a, b, calls(p.w))
			}
		}
	}
	for i := range value {
		if strings.Contains(value[i+1:], value[i:i+1]) {
			p.t.Fatalf("once: %q", value)
		}
	}
}

// ends: all nodes are up, and messages come: there is a leader, what it is asked is answered, and who votes can be changed.
func (p *play) ends() {
	p.heal(8 * p.s.Election)
	if p.leader() == 0 {
		p.t.Fatal("answered: there is no leader")
	}
	for c := range clients {
		q := p.next(c)
		p.do(ask(p.leader(), q))
		p.comes()
		if l := p.w.History(); l[len(l)-1].To == 0 || l[len(l)-1].Result.Kind != api.Done {
			p.t.Fatalf("answered: %+v", l[len(l)-1])
		}
	}
	p.do(read(p.leader(), get("k")))
	p.comes()
	l := p.w.History()
	if l[len(l)-1].To == 0 || l[len(l)-1].Err != api.OK {
		p.t.Fatalf("answered: %+v", l[len(l)-1])
	}
	p.linear(l[len(l)-1].Result.Value)
	p.changes()
}

// changes: who votes is changed, to whoever it may be.
func (p *play) changes() {
	s, _, _ := p.w.Look(p.leader())
	if config.Joint(s.Config) {
		p.t.Fatalf("changed: a change has no end: %+v", s)
	}
	var to []int
	var ops []api.Op
	for _, id := range p.s.Nodes {
		votes, stays := slices.Contains(s.Config.Voters, id), p.r.Intn(2) > 0
		if stays && votes || !votes && p.r.Intn(3) > 0 {
			to = append(to, id)
		}
		switch among := slices.Contains(to, id); {
		case among && !votes:
			ops = append(ops, api.Op{Kind: api.AddVoter, Node: id})
		case votes && !among:
			ops = append(ops, api.Op{Kind: api.RemoveNode, Node: id})
		}
	}
	if len(to) == 0 || len(ops) == 0 || len(ops) > config.MaxOps {
		return
	}
	p.do(change(s.ID, ops...))
	p.heal(8 * p.s.Election)
	id := p.leader()
	if id == 0 {
		p.t.Fatalf("changed: to %v: there is no leader", to)
	}
	if s, _, _ := p.w.Look(id); tell(s.Config.Voters, s.Config.Next) != tell(to, []int{}) || !slices.Contains(to, id) {
		p.t.Fatalf("changed: to %v: %+v", to, s)
	}
	p.seen["changed"]++
}

func TestP10WhatComesOfIt(t *testing.T) {
	seen := map[string]int{}
	for seed := range int64(100) {
		p := newPlay(t, seed, seen)
		for k := 0; k < 300 && max(p.numbers[0], p.numbers[1], p.numbers[2]) < most; k++ {
			p.do(p.chance())
		}
		seen["terms"] += len(p.leaders)
		p.ends()
	}
	for _, x := range []struct {
		what string
		want int
	}{{"answered", 1500}, {"reads", 500}, {"refused later", 30}, {"broken", 50}, {"cut short", 500}, {"sent install", 200}, {"changed", 50}, {"terms", 250}} {
		if seen[x.what] < x.want {
			t.Errorf("the test shows too little: %s: %v", x.what, seen)
		}
	}
	t.Log(seen)
}
