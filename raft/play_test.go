package raft_test

import (
	"fmt"
	"math/rand"
	"slices"
	"testing"

	"quorate/api"
	"quorate/raft"
	"quorate/rlog"
	"quorate/wire"
)

// play: nodes that keep what they are told to keep, messages on their way, and all that was ever said of it.
type play struct {
	t         *testing.T
	r         *rand.Rand
	starts    []api.Start
	nodes     []*raft.Node // nil: it is down
	disks     []api.Kept
	way       []api.Message
	leaders   map[int]int          // by term
	votes     map[[2]int]int       // by node and term
	entries   map[[2]int]api.Entry // by index and term
	ahead     map[[2]int]int       // the term ahead of such an entry
	committed map[int]api.Entry    // by index
	top       int                  // the greatest index that was ever committed anywhere
	asked     map[int]int          // reads that wait: what was committed when they came
	told      []int                // by node, the last index that was told as committed
	apart     [2]int               // nodes to and from which nothing comes (0: none)
	seen      map[string]int       // how often something came about
}

func newPlay(t *testing.T, seed int64, voting, others int, lease bool) *play {
	p := &play{
		t: t, r: rand.New(rand.NewSource(seed)),
		leaders: map[int]int{}, votes: map[[2]int]int{}, entries: map[[2]int]api.Entry{}, ahead: map[[2]int]int{},
		committed: map[int]api.Entry{}, asked: map[int]int{}, seen: map[string]int{},
	}
	election := 3 + p.r.Intn(4)
	for id := 1; id <= voting+others; id++ {
		s := api.Start{ID: id, Election: election, Beat: 1 + p.r.Intn(2), Lease: lease}
		for v := 1; v <= voting && id <= voting; v++ {
			s.Config.Voters = append(s.Config.Voters, v)
		}
		p.starts = append(p.starts, s)
		p.disks = append(p.disks, api.Kept{Config: s.Config})
		p.nodes, p.told = append(p.nodes, nil), append(p.told, 0)
		p.up(id - 1)
	}
	return p
}

// up: a node begins, with what it has kept.
func (p *play) up(i int) {
	s := p.starts[i]
	k := p.disks[i]
	s.Hard, s.Log, s.Snapshot, s.Config = k.Hard, k.Log, k.Snapshot, k.Config
	n, e := raft.New(s)
	if e != api.OK {
		p.t.Fatalf("P7.2: with what it has kept: %+v: %v", s, e)
	}
	p.nodes[i], p.told[i] = n, k.Log.Base
	p.after(i)
}

// after: what a node wants is done, and all that must hold is looked at.
func (p *play) after(i int) {
	n := p.nodes[i]
	was := p.disks[i].Hard
	r := n.Ready()
	p.keep(i, r)
	k, s := n.Kept(), n.Look()
	if tell(k) != tell(p.disks[i]) {
		p.t.Fatalf("P7.16: it has told to keep %+v; it has %+v", p.disks[i], k)
	}
	if s.Hard.Term < was.Term || s.Hard.Commit < was.Commit || r.Kept != (s.Hard != was) || r.Hard != s.Hard {
		p.t.Fatalf("P7.16: the hard state was %+v, is %+v, told %+v", was, s.Hard, r)
	}
	p.lookAtVotes(s)
	p.lookAtLog(s)
	p.lookAtCommitted(i, r, s)
	p.lookAtReads(r)
	for _, m := range r.Messages {
		if !wire.IsMessage(m) || m.From != s.ID {
			p.t.Fatalf("P7.3: no message: %+v", m)
		}
		if m.Kind == api.Install {
			p.seen["install"]++
		}
	}
	p.way = append(p.way, r.Messages...)
}

func (p *play) keep(i int, r api.Ready) {
	d := &p.disks[i]
	if r.Snapshot.Index > 0 {
		d.Snapshot, d.Config = r.Snapshot, r.Snapshot.Config
		d.Log = api.Log{Base: r.Snapshot.Index, BaseTerm: r.Snapshot.Term}
		p.told[i] = r.Snapshot.Index
		p.seen["installed"]++
	}
	if r.Kept {
		d.Hard = r.Hard
	}
	if len(r.Entries) > 0 {
		from := r.Entries[0].Index - d.Log.Base - 1
		if from < len(d.Log.Entries) {
			p.seen["put anew"]++
		}
		d.Log.Entries = append(slices.Clone(d.Log.Entries[:from]), r.Entries...)
	}
}

func (p *play) lookAtVotes(s api.Status) {
	if at := [2]int{s.ID, s.Hard.Term}; s.Hard.Vote != 0 {
		if had := p.votes[at]; had != 0 && had != s.Hard.Vote {
			p.t.Fatalf("P7: node %d votes for %d and %d in term %d", s.ID, had, s.Hard.Vote, s.Hard.Term)
		}
		p.votes[at] = s.Hard.Vote
	}
	if s.Role == api.Leader {
		if had := p.leaders[s.Hard.Term]; had != 0 && had != s.ID {
			p.t.Fatalf("P7: %d and %d lead in term %d", had, s.ID, s.Hard.Term)
		}
		if p.leaders[s.Hard.Term] == 0 {
			p.seen["leader"]++
		}
		p.leaders[s.Hard.Term] = s.ID
	}
	if (s.Role == api.Leader) != (len(s.Progress) > 0) || (s.Role == api.Leader) != (s.Leader == s.ID) {
		p.t.Fatalf("P7.15: %+v", s)
	}
}

func (p *play) lookAtLog(s api.Status) {
	if _, term := rlog.Last(s.Log); !rlog.Valid(s.Log) || term > s.Hard.Term {
		p.t.Fatalf("P7: a log that may not be: %+v", s)
	}
	ahead := s.Log.BaseTerm
	for _, e := range s.Log.Entries {
		at := [2]int{e.Index, e.Term}
		had, there := p.entries[at]
		if there && (had != e || p.ahead[at] != ahead) {
			p.t.Fatalf("P7: two entries of one index and term: %+v, %+v", had, e)
		}
		p.entries[at], p.ahead[at] = e, ahead
		ahead = e.Term
	}
}

func (p *play) lookAtCommitted(i int, r api.Ready, s api.Status) {
	for _, e := range r.Committed {
		p.told[i]++
		if had, there := p.committed[e.Index]; e.Index != p.told[i] || there && had != e {
			p.t.Fatalf("P7: node %d has committed %+v; it was %+v; told up to %d", s.ID, e, had, p.told[i])
		}
		p.committed[e.Index] = e
		p.top = max(p.top, e.Index)
		if e.Kind == api.Change {
			p.seen["change"]++
		}
	}
	if s.Applied != s.Hard.Commit || p.told[i] != s.Applied {
		p.t.Fatalf("P7.16: told as committed up to %d: %+v", p.told[i], s)
	}
}

func (p *play) lookAtReads(r api.Ready) {
	for _, x := range r.Reads {
		top, there := p.asked[x.ID]
		if !there || x.Index < top || x.Index > p.top {
			p.t.Fatalf("P7.13: %+v, when %d was committed as it came (%v), %d is now", x, top, there, p.top)
		}
		delete(p.asked, x.ID)
		p.seen["read"]++
	}
	for _, id := range r.Refused {
		if _, there := p.asked[id]; !there {
			p.t.Fatalf("P7.16: %d is refused, and was not asked", id)
		}
		delete(p.asked, id)
		p.seen["refused"]++
	}
}

func (p *play) tickAll() {
	for i, n := range p.nodes {
		if n != nil {
			n.Tick()
			p.after(i)
		}
	}
}

// comes: a message.
func (p *play) comes(m api.Message) {
	if m.To > len(p.nodes) || p.nodes[m.To-1] == nil || slices.Contains(p.apart[:], m.From) || slices.Contains(p.apart[:], m.To) {
		return
	}
	p.nodes[m.To-1].Receive(m)
	p.after(m.To - 1)
}

// deliver: some message of the first few comes, is lost, or comes and stays.
func (p *play) deliver() {
	if len(p.way) == 0 {
		return
	}
	at := p.r.Intn(min(len(p.way), 6))
	m := p.way[at]
	if p.r.Intn(12) > 0 {
		p.way = slices.Delete(p.way, at, at+1)
	}
	if p.r.Intn(12) > 0 {
		p.comes(m)
	}
}

// some: a node that is up, most often one that leads; below 0: none.
func (p *play) some() int {
	for i, n := range p.nodes {
		if n != nil && n.Look().Role == api.Leader && p.r.Intn(4) > 0 {
			return i
		}
	}
	if i := p.r.Intn(len(p.nodes)); p.nodes[i] != nil {
		return i
	}
	return -1
}

// step: something happens. With leases all clocks go alike.
func (p *play) step(lease bool) {
	i := p.some()
	switch k := p.r.Intn(40); {
	case k < 26:
		p.deliver()
	case k < 29:
		p.tickAll()
	case k < 30 && !lease && i >= 0:
		p.nodes[i].Tick()
		p.after(i)
	case k < 32 && i >= 0:
		p.nodes[i].Propose(fmt.Sprint(p.r.Intn(1000)))
		p.after(i)
	case k < 33 && i >= 0:
		p.nodes[i].Change([]api.Op{{Kind: 1 + p.r.Intn(3), Node: 1 + p.r.Intn(len(p.nodes))}})
		p.after(i)
	case k < 36 && i >= 0:
		p.read(i)
	case k < 37 && i >= 0:
		p.compact(i)
	case k < 38:
		p.stop()
	case k < 39:
		p.begin()
	case p.r.Intn(3) == 0:
		p.apart = [2]int{p.r.Intn(len(p.nodes) + 1), p.r.Intn(len(p.nodes) + 1)}
	}
}

func (p *play) read(i int) {
	id := len(p.asked) + 1000*p.seen["asked"]
	top := p.top
	if e := p.nodes[i].Read(id); e == api.OK {
		p.seen["asked"]++
		p.asked[id] = top
	}
	p.after(i)
}

func (p *play) compact(i int) {
	n := p.nodes[i]
	if e := n.Compact(n.Look().Applied, fmt.Sprint(n.Look().Applied)); e == api.OK {
		p.disks[i] = n.Kept()
		p.seen["compact"]++
	}
	p.after(i)
}

func (p *play) stop() {
	if i := p.r.Intn(len(p.nodes)); p.nodes[i] != nil && p.r.Intn(3) == 0 {
		p.nodes[i] = nil
		p.seen["stop"]++
	}
}

func (p *play) begin() {
	if i := p.r.Intn(len(p.nodes)); p.nodes[i] == nil {
		p.up(i)
	}
}

// heal: all are up, and all comes; so many ticks.
func (p *play) heal(count int) {
	p.apart = [2]int{}
	for i, n := range p.nodes {
		if n == nil {
			p.up(i)
		}
	}
	for range count {
		p.tickAll()
		for k := 0; len(p.way) > 0; k++ {
			if k > 20000 {
				p.t.Fatal("P7: messages without end")
			}
			m := p.way[0]
			p.way = p.way[1:]
			p.comes(m)
		}
	}
}

// served: there is one leader, and what it is asked is done by all members.
func (p *play) served() {
	lead := slices.IndexFunc(p.nodes, func(n *raft.Node) bool {
		s := n.Look()
		return s.Role == api.Leader && slices.IndexFunc(p.nodes, func(m *raft.Node) bool { return m.Look().Hard.Term > s.Hard.Term && m.Look().Role == api.Leader }) < 0
	})
	if lead < 0 {
		p.t.Fatal("P7: nobody leads, though all are up and all comes")
	}
	n := p.nodes[lead]
	index, _, e := n.Propose("last")
	if e != api.OK {
		p.t.Fatalf("P7.11: %v", e)
	}
	p.read(lead)
	p.heal(3)
	s := n.Look()
	for _, m := range slices.Concat(s.Config.Voters, s.Config.Next, s.Config.Learners) {
		if c := p.nodes[m-1].Look().Hard.Commit; c < index {
			p.t.Fatalf("P7: node %d has not committed %d: %+v", m, index, p.nodes[m-1].Look())
		}
	}
	if len(s.Config.Next) > 0 {
		p.t.Fatalf("P7.9: a change has no end: %+v", s.Config)
	}
}

func TestP7WhateverHappens(t *testing.T) {
	sum := map[string]int{}
	for seed := range 300 {
		lease := seed%3 == 0
		p := newPlay(t, int64(seed), 1+seed%5, 2, lease)
		for range 800 {
			p.step(lease)
		}
		p.heal(40)
		p.served()
		for what, count := range p.seen {
			sum[what] += count
		}
	}
	for what, least := range map[string]int{"leader": 300, "change": 500, "read": 500, "refused": 100, "compact": 300, "stop": 300, "install": 100, "installed": 50, "put anew": 20} {
		if sum[what] < least {
			t.Errorf("P7: %s came about just %d times: the test shows too little", what, sum[what])
		}
	}
}

func TestP7ThreeNodesHaveALeaderBehindThreeElections(t *testing.T) {
	for election := 2; election <= 20; election++ {
		p := newPlay(t, 1, 3, 0, false)
		for i := range p.starts {
			p.starts[i].Election, p.starts[i].Beat = election, 1
			p.disks[i] = api.Kept{Config: voters(1, 2, 3)}
			p.up(i)
		}
		p.heal(3 * election)
		s := p.nodes[0].Look()
		if s.Role != api.Leader || s.Hard != (api.Hard{Term: 1, Vote: 1, Commit: 1}) {
			t.Errorf("P7: an election of %d ticks: %+v", election, s)
		}
		for _, n := range p.nodes[1:] {
			if l := n.Look(); l.Role != api.Follower || l.Leader != 1 || l.Hard.Commit != 1 {
				t.Errorf("P7: an election of %d ticks: %+v", election, l)
			}
		}
	}
}
