package town_test

import (
	"math"
	"testing"

	"quorate/api"
)

func TestP15_4HowOften(t *testing.T) {
	for _, x := range []struct{ times, steps int }{{0, 0}, {1, 1}, {3, 3}, {499, 499}, {500, 500}, {501, 500}, {math.MaxInt, 500}, {-1, 0}, {math.MinInt, 0}} {
		a := begin(t, of(1), 1, 1) // it sends nothing
		a.Heal(x.times, nil)
		if n := stepNow(t, a, 1); n != x.steps+1 {
			t.Errorf("P15.4: Heal(%d): %d steps; want %d", x.times, n-1, x.steps)
		}
	}
}

func TestP15_4NodesOfAllKinds(t *testing.T) {
	for _, x := range []struct {
		nodes []int
		steps int
	}{{nil, 0}, {[]int{}, 0}, {[]int{1}, 2}, {[]int{2, 1, 2}, 6}, {[]int{0, 3, -1, math.MaxInt, math.MinInt}, 10}} {
		a := begin(t, of(2), 1, 1)
		a.Heal(0, x.nodes)
		if n := stepNow(t, a, 1); n != x.steps+1 {
			t.Errorf("P15.4: Heal of %v: %d steps; want %d", x.nodes, n-1, x.steps)
		}
		if l := a.Wants(); len(l) != 0 || state(a, 1) == "down" || state(a, 2) == "down" {
			t.Errorf("P15.4: Heal of %v: %v; %s; %s", x.nodes, l, state(a, 1), state(a, 2))
		}
	}
}

func TestP15_4WhoBegins(t *testing.T) {
	a := led(t, 3, 1, 3)
	for id := 1; id <= 3; id++ {
		do(t, a, stop(id))
	}
	a.Heal(0, nil)
	is(t, "P15.4: of no nodes", state(a, 1)+state(a, 2)+state(a, 3), "downdowndown")
	a.Heal(-1, []int{3, 1})
	follows := "follower of 0, term 1, commit 1, []"
	is(t, "P15.4: of nodes 3 and 1", state(a, 1)+"; "+state(a, 2)+"; "+state(a, 3), follows+"; down; "+follows)
	a.Heal(8, []int{1, 2, 3})
	is(t, "P15.4: of all", state(a, 1)+"; "+state(a, 2), "leader of 1, term 2, commit 2, []; follower of 1, term 2, commit 2, []")
}

func TestP15_4WhoBreaks(t *testing.T) {
	for _, x := range []struct {
		what  string
		nodes []int
		want  string
	}{
		{"of no nodes", nil, "down"},
		{"of another", []int{2, 3, 4}, "down"},
		{"of that one", []int{1}, "leader of 1, term 1, commit 2, []"},
		{"of all", []int{1, 2, 3}, "leader of 1, term 1, commit 2, []"},
	} {
		a := led(t, 3, 1, 3)
		do(t, a, breaks(1, 0))
		a.Heal(0, x.nodes)
		wants(t, a, 1, add("a"), api.OK)
		do(t, a, deliver())
		do(t, a, deliver())
		do(t, a, deliver())
		is(t, "P15.4: Heal "+x.what, state(a, 1), x.want)
	}
}

func TestP15_4AllThatIsOnItsWayComes(t *testing.T) {
	a := begin(t, of(2), 1, 100)
	for range 3 {
		do(t, a, tickAll())
	}
	a.Heal(1, nil)
	// A tick; PreVote, its answer, Vote, its answer; an entry, its answer; what is committed, its answer.
	if n := stepNow(t, a, 1); n != 13 {
		t.Errorf("P15.4: the next step is %d", n)
	}
	is(t, "P15.4: node 1 leads", state(a, 1)+"; "+state(a, 2), "leader of 1, term 1, commit 1, []; follower of 1, term 1, commit 1, []")
}

func TestP15_4TheFirstFirst(t *testing.T) {
	one, two := led(t, 4, 2, 3), led(t, 4, 2, 3)
	wants(t, one, 1, add("a"), api.OK)
	wants(t, two, 1, add("a"), api.OK)
	for range 5 {
		one.Heal(1, nil)
		do(t, two, tickAll())
		for two.Way() > 0 {
			do(t, two, api.Step{Kind: api.Deliver, N: 0})
		}
	}
	is(t, "P15.4: what was wanted", wanted(one), wanted(two))
	for id := 1; id <= 4; id++ {
		is(t, "P15.4: the files", tell(one.Files(id)), tell(two.Files(id)))
	}
}

func TestP15_4NoMoreThan200(t *testing.T) {
	for _, x := range []struct{ extra, steps, left int }{{0, 1 + 200, 0}, {1, 1 + 200, 1}, {50, 1 + 200, 50}, {-1, 1 + 199, 0}} {
		a := led(t, 1, 1, 3)
		do(t, a, api.Step{Kind: api.ChangeAt, Node: 1, Ops: []api.Op{{Kind: api.AddLearner, Node: 7}}}) // which is none of the world: to it goes a message at each tick
		for a.Way() < 199+x.extra {
			do(t, a, api.Step{Kind: api.Twice})
		}
		from := stepNow(t, a, 1) // with that one message more is sent
		do(t, a, api.Step{Kind: api.DropOne})
		a.Heal(1, nil)
		if a.Way() != x.left {
			t.Errorf("P15.4: of %d messages %d are left; want %d", 200+x.extra, a.Way(), x.left)
		}
		if n := stepNow(t, a, 1); n != from+2+x.steps {
			t.Errorf("P15.4: of %d messages: %d steps; want %d", 200+x.extra, n-from-2, x.steps)
		}
	}
}

// Each of Heal's steps is one of the town: clients ask behind each, and tick with the others.
func TestP15_4ClientsGoOn(t *testing.T) {
	a := led(t, 1, 1, 3)
	from := stepNow(t, a, 1)
	do(t, a, stop(1))
	wants(t, a, 1, add("a"), api.OK) // step from + 2: in vain
	a.Heal(0, []int{1})
	// Break from + 3, and asked in vain; Begin from + 5, asked, not the leader yet.
	is(t, "P15.4: asked behind Begin", brief(a.History()[1:]), brief([]api.Call{{From: from + 6, To: from + 6, Err: api.ErrLeader}}))
	a.Heal(4, nil)
	// Ticks from + 7, + 9, + 11, each asked in vain; the fourth, + 13, at which it leads, and opens a session.
	stands(t, "P15.4: it has a session", a, 1, api.ClientStatus{Session: 3, Node: 1, Busy: true})
	a.Heal(1, nil)
	is(t, "P15.4: what was wanted", wanted(a), brief([]api.Call{{From: from + 2, To: from + 16, Client: 1, Number: 1, Command: add("a"), Result: api.Result{Kind: api.Done, Version: 1}}}))
}
