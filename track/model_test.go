package track_test

import (
	"math/rand"
	"slices"
	"testing"

	"quorate/api"
	"quorate/config"
	"quorate/rlog"
	"quorate/track"
)

// drawConfig: some configuration that may be.
func drawConfig(r *rand.Rand) api.Config {
	var c api.Config
	for n := 1; n <= 6; n++ {
		switch r.Intn(5) {
		case 0, 1:
			c.Voters = append(c.Voters, n)
		case 2:
			c.Learners = append(c.Learners, n)
		case 3:
			c.Voters, c.Next = append(c.Voters, n), append(c.Next, n)
		}
	}
	if len(c.Voters) == 0 {
		return voters(1 + r.Intn(6))
	}
	return c
}

// drawLog: some log that may be.
func drawLog(r *rand.Rand) api.Log {
	base := r.Intn(4)
	l := api.Log{Base: base, BaseTerm: min(base, 1)}
	for term := 1; len(l.Entries) < 12 && r.Intn(8) > 0; term += r.Intn(3) / 2 {
		l.Entries = append(l.Entries, api.Entry{Index: base + 1 + len(l.Entries), Term: term})
	}
	return l
}

// drawKnown: progress of some nodes.
func drawKnown(r *rand.Rand, last int) (l []api.Progress) {
	for n := 1; n <= 7; n++ {
		if r.Intn(4) > 0 {
			m := r.Intn(last + 1)
			l = append(l, api.Progress{Node: n, Match: m, Next: m + 1 + r.Intn(last-m+1), State: 1 + r.Intn(3), Active: r.Intn(2) == 0, Heard: r.Intn(5)})
		}
	}
	return l
}

// most: of a list more than half are such, or there is none.
func most(l []int, such func(int) bool) bool {
	yes := 0
	for _, n := range l {
		if such(n) {
			yes++
		}
	}
	return len(l) == 0 || yes > len(l)-yes
}

// commit: told once more, in another way: by what each voter has.
func commit(c api.Config, has map[int]api.Progress, l api.Log, term, was int) int {
	best := was
	for _, e := range l.Entries {
		enough := func(n int) bool {
			p, known := has[n]
			return known && p.Match >= e.Index
		}
		if e.Index > best && e.Term == term && most(c.Voters, enough) && most(c.Next, enough) {
			best = e.Index
		}
	}
	return best
}

// round: likewise, by trying all.
func round(c api.Config, has map[int]api.Progress, self, now int) int {
	best := 0
	for try := range 10 {
		among := try == now
		for _, p := range has {
			among = among || p.Heard == try
		}
		enough := func(n int) bool {
			p, known := has[n]
			return known && (p.Heard >= try || n == self)
		}
		if among && most(c.Voters, enough) && most(c.Next, enough) {
			best = try
		}
	}
	return best
}

func TestP6_4AsTheModel(t *testing.T) {
	r := rand.New(rand.NewSource(6))
	news := 0
	for range 20000 {
		c, l := drawConfig(r), drawLog(r)
		last, term := rlog.Last(l)
		p := drawKnown(r, last)
		has := map[int]api.Progress{}
		for _, x := range p {
			has[x.Node] = x
		}
		term, was, self, now := term-r.Intn(2), l.Base+r.Intn(3), 1+r.Intn(8), r.Intn(8)
		got, want := track.Commit(c, p, l, term, was), commit(c, has, l, term, was)
		if got != want {
			t.Fatalf("P6.4: Commit(%+v, %+v, %+v, %d, %d): %d, want %d", c, p, l, term, was, got, want)
		}
		if got > was {
			news++
		}
		if got, want := track.Round(c, p, self, now), round(c, has, self, now); got != want {
			t.Fatalf("P6.4: Round(%+v, %+v, %d, %d): %d, want %d", c, p, self, now, got, want)
		}
		up := func(n int) bool { return has[n].Active || has[n].Node > 0 && n == self }
		if got, want := track.Alive(c, p, self), most(c.Voters, up) && most(c.Next, up); got != want {
			t.Fatalf("P6.4: Alive(%+v, %+v, %d): %v", c, p, self, got)
		}
		if got, want := len(track.Begin(c, p, self, last)), len(config.Members(c)); got != want {
			t.Fatalf("P6.1: Begin(%+v, %+v, %d, %d): of %d, want %d", c, p, self, last, got, want)
		}
	}
	if news < 1000 {
		t.Errorf("P6.4: just %d commits were news: the test shows too little", news)
	}
}

// leads: a leader brings a follower its whole log, by plans, acks and refusals; how often was it sent to?
func leads(t *testing.T, leader, follower api.Log) int {
	last, _ := rlog.Last(leader)
	p := track.Begin(voters(1, 2), nil, 1, last)[1]
	for sent := 1; sent < 100; sent++ {
		q, prev, count, snapshot := track.Plan(p, leader)
		if snapshot {
			follower = api.Log{Base: leader.Base, BaseTerm: leader.BaseTerm}
			p = track.Ack(q, leader.Base)
			continue
		}
		term, _ := rlog.TermAt(leader, prev)
		entries, _ := rlog.Slice(leader, prev+1, count)
		out, match, _, look := rlog.Extend(follower, prev, term, entries)
		if look > 0 {
			r, news := track.Refuse(q, prev, look)
			if !news || r.Next >= p.Next {
				t.Fatalf("P6.2: %+v refused at %d, look %d: %+v, %v", q, prev, look, r, news)
			}
			p = r
			continue
		}
		p, follower = track.Ack(q, match), out
		if p.Match == last {
			want, _ := rlog.Slice(leader, max(leader.Base, follower.Base)+1, last)
			got, _ := rlog.Slice(follower, max(leader.Base, follower.Base)+1, len(want))
			if tell(got) != tell(want) {
				t.Fatalf("P6: a follower has %+v, its leader %+v", follower, leader)
			}
			return sent
		}
	}
	t.Fatalf("P6: a leader does not come to an end: %+v, %+v", leader, follower)
	return 0
}

func TestP6ALeaderBringsItsLog(t *testing.T) {
	r := rand.New(rand.NewSource(8))
	for range 3000 {
		var shared, own []int
		for range r.Intn(30) {
			shared = append(shared, 1+len(shared)/9)
		}
		for range r.Intn(20) {
			own = append(own, 5+len(own)/7)
		}
		leader := log(0, 0, append(slices.Clone(shared), 9, 9, 9, 10, 10)...)
		follower := log(0, 0, append(slices.Clone(shared[:r.Intn(len(shared)+1)]), own...)...)
		if r.Intn(2) == 0 {
			leader, _ = rlog.Compact(leader, r.Intn(len(shared)+1))
		}
		if sent := leads(t, leader, follower); sent > 20 {
			t.Fatalf("P6: sent to %d times: %+v, %+v", sent, leader, follower)
		}
	}
}

func TestP6Memory(t *testing.T) {
	c := api.Config{Voters: []int{1, 2, 3, 7}[:3], Next: []int{2, 4, 7}[:2], Learners: []int{5, 7}[:1]}
	known := []api.Progress{{Node: 2, Match: 3, Next: 4, State: api.Stream}, {Node: 4, Next: 1, State: api.Probe, Heard: 2}, {Node: 77}}
	l := log(0, 0, 1, 1, 1, 1, 9)
	entries := l.Entries
	l.Entries = entries[:4]
	look := func() string {
		return tell(c.Voters[:4], c.Next[:3], c.Learners[:2], known, entries)
	}
	before := look()
	got := track.Begin(c, known[:2], 1, 4)
	again := track.Begin(c, known[:2], 1, 4)
	want := tell(again)
	track.Commit(c, known[:2], l, 1, 0)
	track.Alive(c, known[:2], 1)
	track.Round(c, known[:2], 1, 3)
	track.Plan(known[0], l)
	got = got[:cap(got)]
	for i := range got {
		got[i] = api.Progress{Node: 99}
	}
	if look() != before {
		t.Errorf("P6: what was handed in has changed, or its spare room: %s, it was %s", look(), before)
	}
	if tell(again) != want {
		t.Error("P6.1: what Begin gives out is not new memory")
	}
}

// Of what may not be nothing is promised, but that every call ends and none panics.
func TestP6NoPanic(t *testing.T) {
	numbers := append([]int{0, 1, 2, 9}, extreme...)
	configs := []api.Config{{}, voters(0), voters(1, 1, 1), {Next: []int{3}}, {Voters: numbers, Next: numbers, Learners: numbers}, voters(1, 2, 3)}
	for _, n := range numbers {
		for _, m := range numbers {
			some := []api.Progress{{Node: n, Match: m, Next: n, State: m, Heard: n}, {Node: 1, Match: n, Next: m, State: api.Stream, Heard: m}, {}}
			for _, c := range configs {
				track.Begin(c, some, n, m)
				track.Alive(c, some, n)
				track.Round(c, some, n, m)
				track.Commit(c, some, log(n, m, 1, m, 3), m, n)
				track.Commit(c, some, log(0, 0, 1, 1), n, m)
			}
			for _, p := range some {
				track.Ack(p, m)
				track.Refuse(p, n, m)
				track.Plan(p, log(n, m, 1, n, 3))
				if _, _, count, _ := track.Plan(p, log(4, 1, 1, 1)); count < 0 || count > api.MaxEntries {
					t.Errorf("P6.3: Plan(%+v): count %d", p, count)
				}
			}
		}
	}
}
