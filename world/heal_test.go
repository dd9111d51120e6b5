package world_test

import (
	"fmt"
	"math"
	"testing"

	"quorate/api"
)

func TestP10_7HowOften(t *testing.T) {
	for _, x := range []struct{ times, steps int }{{0, 0}, {1, 1}, {3, 3}, {499, 499}, {500, 500}, {501, 500}, {math.MaxInt, 500}, {-1, 0}, {math.MinInt, 0}} {
		w := begin(t, of(1)) // it sends nothing
		w.Heal(x.times)
		if n := stepNow(w, 1); n != x.steps+1 {
			t.Errorf("P10.7: Heal(%d): %d steps; want %d", x.times, n-1, x.steps)
		}
	}
}

func TestP10_7AllThatIsOnItsWayComes(t *testing.T) {
	w := begin(t, of(2))
	for range 3 {
		w.Do(api.Step{Kind: api.TickAll})
	}
	w.Heal(1)
	// A tick; PreVote, its answer, Vote, its answer; an entry, its answer; what is committed, its answer.
	if n := stepNow(w, 1); n != 13 || w.Way() != 0 {
		t.Errorf("P10.7: the next step is %d, %d are on their way", n, w.Way())
	}
	is(t, "P10.7: node 1 leads", state(w, 1)+state(w, 2), "leader of 1, term 1, vote 1, commit 1 of 1, [1 2] [] []follower of 1, term 1, vote 1, commit 1 of 1, [1 2] [] []")
}

func TestP10_7TheFirstFirst(t *testing.T) {
	one, two := mailed(t), mailed(t)
	one.Heal(1)
	two.Do(api.Step{Kind: api.TickAll})
	for two.Way() > 0 {
		two.Do(api.Step{Kind: api.Deliver})
	}
	for id := 1; id <= 4; id++ {
		is(t, fmt.Sprintf("P10.7: node %d", id), tell(one.Files(id))+state(one, id), tell(two.Files(id))+state(two, id))
	}
}

func TestP10_7NoMoreThan2000(t *testing.T) {
	for _, x := range []struct{ extra, steps, left int }{{0, 2 + 2000, 0}, {1, 2 + 2000, 1}, {500, 2 + 2000, 500}, {-1, 2 + 1999, 0}} {
		w := led(t, of(1))
		w.Do(change(1, api.Op{Kind: api.AddLearner, Node: 7})) // which is none of the world: to it goes a message at each tick
		for w.Way() < 1999+x.extra {
			w.Do(api.Step{Kind: api.Twice})
		}
		from := stepNow(w, 1)
		w.Heal(1)
		if n := stepNow(w, 1); n != from+x.steps || w.Way() != x.left {
			t.Errorf("P10.7: of %d messages %d are left, behind %d steps; want %d, %d", 2000+x.extra, w.Way(), n-from, x.left, x.steps)
		}
	}
}

func TestP10_7WhoIsDownBegins(t *testing.T) {
	w := led(t, of(3))
	w.Do(stop(2))
	w.Do(stop(3))
	from := stepNow(w, 1)
	w.Heal(0)
	if n := stepNow(w, 1); n != from+3 {
		t.Errorf("P10.7: each a step of its own: %d", n-from-1)
	}
	for id := 1; id <= 3; id++ {
		if _, _, up := w.Look(id); !up {
			t.Errorf("P10.7: node %d is down", id)
		}
	}
	for id := 1; id <= 3; id++ {
		w.Do(stop(id))
	}
	w.Heal(-1)
	for id := 1; id <= 3; id++ {
		if _, _, up := w.Look(id); !up {
			t.Errorf("P10.7: node %d is down, though no tick was asked for", id)
		}
	}
}

func TestP10_7NoEventIsToBreak(t *testing.T) {
	w := led(t, of(3))
	for id := 1; id <= 3; id++ {
		w.Do(breaks(id, 0, 0))
	}
	w.Heal(0)
	w.Do(opens(1))
	allComes(w)
	if l := w.History(); len(l) != 1 || l[0].To == 0 {
		t.Errorf("P10.7: %s", calls(w))
	}
	for id := 1; id <= 3; id++ {
		if _, _, up := w.Look(id); !up {
			t.Errorf("P10.7: node %d broke", id)
		}
	}
}
