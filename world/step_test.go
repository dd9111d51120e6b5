package world_test

import (
	"fmt"
	"math"
	"testing"

	"quorate/api"
	"quorate/world"
)

// stepNow: the number of a world's next step, which is a call that is refused at once, of a node that is up.
func stepNow(w *world.World, node int) int {
	w.Do(read(node, api.Command{}))
	l := w.History()
	return l[len(l)-1].From
}

func TestP10_3StepsAreCounted(t *testing.T) {
	w := begin(t, of(3))
	w.Do(opens(2))
	is(t, "P10.3: the first is 1", calls(w), "1-1: 0/0 0 : error 14")
	for i, s := range []api.Step{
		{Kind: api.TickAll}, tick(1), tick(9), {Kind: api.Deliver}, {Kind: api.DropOne}, {Kind: api.Twice}, stop(3), stop(3), stop(0), breaks(1, 9, 9), up(3), up(3),
		change(1), change(8), {}, {Kind: 12, Node: 1}, {Kind: -1, Node: -1},
	} {
		w.Do(s)
		if n := stepNow(w, 1); n != 2*i+3 {
			t.Fatalf("P10.3: behind %+v the next step is %d; want %d", s, n, 2*i+3)
		}
	}
}

func TestP10_3Ticks(t *testing.T) {
	w := begin(t, of(3))
	is(t, "P10.3: all tick", told(w.Do(api.Step{Kind: api.TickAll, Node: 2, N: 9})), "node 1; node 2; node 3")
	w.Do(stop(2))
	is(t, "P10.3: all that are up", told(w.Do(api.Step{Kind: api.TickAll, Node: 2})), "node 1; node 3")
	is(t, "P10.3: one", told(w.Do(tick(3))), "node 3")
	w.Do(api.Step{Kind: api.TickAll})
	is(t, "P10.3: the fourth, of node 1", told(w.Do(api.Step{Kind: api.TickAll})), "node 1, prevote>2, prevote>3; node 3")
	is(t, "P10.3: the sixth, of node 3", told(w.Do(tick(3))), "node 3, prevote>1, prevote>2")
	if w.Way() != 4 {
		t.Errorf("P10.3: all are on their way: %d", w.Way())
	}
	w.Do(stop(1))
	w.Do(stop(3))
	is(t, "P10.3: nobody is up", told(w.Do(api.Step{Kind: api.TickAll})), "")
}

// mailed: a world on whose way are three messages: to 2, to 3, to 4.
func mailed(t *testing.T) *world.World {
	t.Helper()
	w := begin(t, of(4))
	for range 4 {
		w.Do(tick(1))
	}
	if w.Way() != 3 {
		t.Fatalf("P10.3: on their way: %d", w.Way())
	}
	return w
}

// order: to whom what is on its way goes.
func order(w *world.World) (l []int) {
	for w.Way() > 0 {
		n := w.Way()
		e := w.Do(api.Step{Kind: api.Deliver})
		for _, x := range e {
			l = append(l, x.Node)
		}
		for w.Way() >= n { // its answer stands at the end
			w.Do(api.Step{Kind: api.DropOne, N: -1})
		}
	}
	return l
}

func TestP10_3WhichMessage(t *testing.T) {
	for _, x := range []struct{ n, want int }{{0, 2}, {1, 3}, {2, 4}, {3, 2}, {4, 3}, {302, 4}, {-1, 4}, {-2, 3}, {-3, 2}, {-4, 4}, {-300, 2}, {math.MaxInt, 2 + math.MaxInt%3}, {math.MinInt, 2 + (math.MinInt%3+3)%3}} {
		w := mailed(t)
		is(t, fmt.Sprintf("P10.3: Deliver %d", x.n), told(w.Do(api.Step{Kind: api.Deliver, N: x.n, Node: 9})), fmt.Sprintf("node %d, presaid>1", x.want))
		if w.Way() != 3 {
			t.Errorf("P10.3: it is off, its answer on its way: %d", w.Way())
		}
		rest := map[int]string{2: "[3 4]", 3: "[2 4]", 4: "[2 3]"}[x.want]
		w.Do(api.Step{Kind: api.DropOne, N: 2})
		is(t, fmt.Sprintf("P10.3: Deliver %d: the others", x.n), fmt.Sprint(order(w)), rest)

		w = mailed(t)
		is(t, fmt.Sprintf("P10.3: DropOne %d", x.n), told(w.Do(api.Step{Kind: api.DropOne, N: x.n, Node: 1})), "")
		is(t, fmt.Sprintf("P10.3: DropOne %d: the others", x.n), fmt.Sprint(order(w)), rest)

		w = mailed(t)
		is(t, fmt.Sprintf("P10.3: Twice %d", x.n), told(w.Do(api.Step{Kind: api.Twice, N: x.n, Node: 1})), "")
		is(t, fmt.Sprintf("P10.3: Twice %d: all, and one more", x.n), fmt.Sprint(order(w)), fmt.Sprintf("[2 3 4 %d]", x.want))
	}
}

func TestP10_3NothingIsOnItsWay(t *testing.T) {
	w := begin(t, of(2))
	for _, kind := range []int{api.Deliver, api.DropOne, api.Twice} {
		for _, n := range append([]int{0, 1}, extreme...) {
			is(t, "P10.3: nothing is on its way", told(w.Do(api.Step{Kind: kind, N: n, Node: 1})), "")
		}
	}
	if w.Way() != 0 {
		t.Errorf("P10.3: %d", w.Way())
	}
}

func TestP10_3AMessageIsLost(t *testing.T) {
	w := mailed(t)
	w.Do(stop(2))
	is(t, "P10.3: to a node that is down", told(w.Do(api.Step{Kind: api.Deliver})), "")
	if w.Way() != 2 {
		t.Errorf("P10.3: it is off all the same: %d", w.Way())
	}
	w.Do(up(2))
	is(t, "P10.3: it does not come later", fmt.Sprint(order(w)), "[3 4]")

	w = led(t, of(2))
	w.Do(change(1, api.Op{Kind: api.AddLearner, Node: 7}))
	w.Do(api.Step{Kind: api.Deliver})
	is(t, "P10.3: to a node that is none of the world", told(w.Do(api.Step{Kind: api.Deliver})), "")
}

func TestP10_3OneNode(t *testing.T) {
	add := api.Op{Kind: api.AddLearner, Node: 3}
	steps := map[string]func(int) api.Step{
		"TickOne": tick, "Stop": stop, "AskNode": opens,
		"Break":       func(n int) api.Step { return breaks(n, 50, 0) },
		"ReadNode":    func(n int) api.Step { return read(n, get("k")) },
		"ChangeAt":    func(n int) api.Step { return change(n, add) },
		"no kind":     func(n int) api.Step { return api.Step{Node: n} },
		"a high kind": func(n int) api.Step { return api.Step{Kind: 12, Node: n} },
		"a low kind":  func(n int) api.Step { return api.Step{Kind: -1, Node: n} },
	}
	leader := map[string]string{
		"TickOne": "node 1, entries>2", "AskNode": "node 1, 2 acts, entries>2",
		"ReadNode": "node 1, entries>2", "ChangeAt": "node 1, 2 acts, entries>2, entries>3, answer 0: 0 \"\" 0 []",
	}
	for name, of1 := range steps {
		w := led(t, of(2))
		want, is1 := leader[name]
		if !is1 {
			want = "node 1"
		}
		is(t, "P10.3: "+name, told(w.Do(of1(1))), want)
		w.Do(stop(1)) // again, after Stop itself
		before := len(w.History())
		is(t, "P10.3: of a node that is down: "+name, tell(w.Do(of1(1))), tell([]api.Event{{Node: 1, Err: api.ErrDown}}))
		for _, none := range append([]int{0, 3, 10}, extreme...) {
			is(t, "P10.3: of no node: "+name, told(w.Do(of1(none))), "")
		}
		if len(w.History()) != before {
			t.Errorf("P10.3: %s: no call is made: %s", name, calls(w))
		}
	}
}

func TestP10_3StopAndBegin(t *testing.T) {
	w := led(t, of(3))
	w.Do(opens(1))
	allComes(w)
	w.Do(api.Step{Kind: api.TickAll}) // now all know what is committed
	allComes(w)
	_, was, _ := w.Look(2)
	files := tell(w.Files(2))
	is(t, "P10.3: Begin of a node that is up", tell(w.Do(up(2))), tell([]api.Event{{Node: 2, Err: api.ErrDown}}))
	for _, none := range append([]int{0, 4}, extreme...) {
		is(t, "P10.3: Begin of none", told(w.Do(up(none))), "")
	}
	is(t, "P10.3: Stop", told(w.Do(stop(2))), "node 2")
	is(t, "P10.3: it is down", state(w, 2), "down")
	is(t, "P10.3: its files stay", tell(w.Files(2)), files)
	is(t, "P10.3: Begin", told(w.Do(up(2))), "node 2")
	is(t, "P10.3: it is up, from its files", state(w, 2), "follower of 0, term 1, vote 1, commit 2 of 2, [1 2 3] [] []")
	_, now, _ := w.Look(2)
	is(t, "P10.3: with its table", tell(now), tell(was))
	w.Do(opens(1))
	w.Do(stop(1))
	w.Do(up(1))
	for range 20 {
		w.Do(api.Step{Kind: api.TickAll})
		allComes(w)
	}
	l := w.History()
	if l[1].To != 0 {
		t.Errorf("P10.3: who was asked, and went down, answers no more: %s", calls(w))
	}
}

func TestP10_3Calls(t *testing.T) {
	w := led(t, of(2))
	is(t, "P10.3: the first call", told(w.Do(ask(2, appends(7, 3, "v")))), "node 2, answer 1: error 14")
	is(t, "P10.3: a read", told(w.Do(read(2, get("k")))), "node 2, answer 2: error 14")
	is(t, "P10.3: a change is no call", told(w.Do(change(2))), "node 2, answer 0: error 14")
	is(t, "P10.3: the third call", told(w.Do(read(2, get("k")))), "node 2, answer 3: error 14")
	is(t, "P10.3: a read looks for the request's command alone", told(w.Do(api.Step{Kind: api.ReadNode, Node: 1, Request: api.Request{Client: 4, Number: 5, Command: api.Command{Kind: api.Put, Key: "k"}}})), "node 1, answer 4: error 5")
	is(t, "P10.3: the fifth call", told(w.Do(opens(1))), "node 1, 2 acts, entries>2")
	is(t, "P10.3: the sixth call", told(w.Do(ask(1, appends(2, 1, "v")))), "node 1, 2 acts, entries>2")
	is(t, "P10.3: nothing yet", told(w.Do(api.Step{Kind: api.Deliver})), "node 2, 2 acts, reply>1")
	w.Do(api.Step{Kind: api.DropOne}) // the second request
	is(t, "P10.3: an answer", told(w.Do(api.Step{Kind: api.Deliver})), `node 1, 2 acts, entries>2, answer 5: 1 "" 2 []`)
}

func TestP10_3ChangeAt(t *testing.T) {
	w := led(t, of(2))
	ops, whole := roomy([]api.Op{{Kind: api.AddLearner, Node: 5}, {Kind: api.AddVoter, Node: 3}}, api.Op{Kind: 77})
	was := tell(whole)
	w.Do(change(1, ops...))
	is(t, "P10.3: the operations stay", tell(whole), was)
	is(t, "P10.3: it is under way", state(w, 1), "leader of 1, term 1, vote 1, commit 1 of 2, [1 2] [1 2 3] [5]")
	is(t, "P10.3: one more", told(w.Do(change(1, ops...))), "node 1, answer 0: error 9")
}

func TestP10_3NothingPanics(t *testing.T) {
	for _, n := range append([]int{0, 1, 2}, extreme...) {
		world.New(api.World{Nodes: []int{n}, Voters: []int{n}, Election: n, Beat: n, Keep: n})
		world.New(api.World{Nodes: []int{1, n}, Voters: []int{n}, Election: 4, Beat: 1, Keep: n})
		w := led(t, of(2))
		for kind := -1; kind < 14; kind++ {
			for _, node := range append([]int{1, 2, 3}, extreme...) {
				c := api.Command{Kind: n, Key: "k", Value: "v", If: n}
				w.Do(api.Step{Kind: kind, Node: node, N: n, Part: n, Request: api.Request{Client: n, Number: n, Command: c, Time: n}, Ops: []api.Op{{Kind: n, Node: n}}})
				w.Do(api.Step{Kind: kind, Node: node, N: n, Part: n})
				w.Do(api.Step{Kind: n, Node: n, N: n, Part: n})
				w.Look(n)
				w.Files(n)
				w.Kept(n)
			}
		}
		w.Heal(n)
		w.Heal(20)
		one, _, _ := w.Look(1)
		two, _, _ := w.Look(2)
		if one.Role != api.Leader && two.Role != api.Leader {
			t.Errorf("P10.3: behind all that nobody leads: %+v, %+v", one, two)
		}
	}
}
