package history_test

import (
	"math/rand"
	"testing"

	"quorate/api"
	"quorate/history"
	"quorate/world"
)

// seenBy: what clients of a world saw, as a history: what was asked several times is one call, from its first question to its first answer. An answer may come at the step of its question; so that one is ahead of the other each step has two places. What was refused may have been done all the same.
func seenBy(l []api.Call) (seen []api.Call) {
	first := map[[2]int]int{}
	for _, c := range l {
		if c.Client == 0 && c.Command.Kind != api.Get {
			continue
		}
		at := [2]int{c.Client, c.Number}
		i, again := first[at]
		if !again || c.Client == 0 {
			i, first[at] = len(seen), len(seen)
			seen = append(seen, api.Call{From: 2 * c.From, Command: c.Command})
		}
		if to := 2*c.To + 1; c.To > 0 && c.Err == api.OK && (seen[i].To == 0 || to < seen[i].To) {
			seen[i].To, seen[i].Result = to, c.Result
		}
	}
	return seen
}

// wanted: what clients ask for, by their numbers.
func wanted(client, number int) api.Command {
	value := string(rune('a' + 4*client + number))
	return []api.Command{put("k", value), add("k", value), add("j", value), swap("k", value, number), drop("j")}[(client*3+number)%5]
}

// play: a script of chance in a world of three nodes, with two clients and some that read; what they saw.
func play(t *testing.T, r *rand.Rand) []api.Call {
	w, e := world.New(api.World{Nodes: []int{1, 2, 3}, Voters: []int{1, 2, 3}, Election: 4, Beat: 1, Keep: 3, Lease: r.Intn(2) == 0})
	if e != api.OK {
		t.Fatal(e)
	}
	w.Heal(4)
	for range 2 {
		w.Do(api.Step{Kind: api.AskNode, Node: 1})
		w.Heal(1)
	}
	reads, number := 0, [2]int{1, 1}
	for range 250 {
		node := somebody(w, r)
		switch k := r.Intn(40); {
		case k < 10:
			w.Do(api.Step{Kind: api.TickAll})
		case k < 12:
			w.Do(api.Step{Kind: api.DropOne + r.Intn(2), N: r.Intn(5)})
		case k < 13:
			w.Do(api.Step{Kind: api.Break, Node: node, N: r.Intn(3), Part: r.Intn(30)})
		case k < 17:
			w.Do(api.Step{Kind: api.Begin, Node: node})
		case k < 18 && reads < 8:
			reads++
			w.Do(api.Step{Kind: api.ReadNode, Node: node, Request: api.Request{Command: get([]string{"k", "j"}[r.Intn(2)])}})
		case k < 26:
			c := r.Intn(2)
			if number[c] <= 4 {
				w.Do(api.Step{Kind: api.AskNode, Node: node, Request: api.Request{Client: 2 + c, Number: number[c], Command: wanted(c, number[c])}})
			}
			goOn(w.History(), &number)
		default:
			for range r.Intn(8) {
				w.Do(api.Step{Kind: api.Deliver, N: r.Intn(3)})
			}
		}
	}
	return w.History()
}

// somebody: a node; more often one that leads.
func somebody(w *world.World, r *rand.Rand) int {
	for id := 1; id <= 3; id++ {
		if s, _, up := w.Look(id); up && s.Role == api.Leader && r.Intn(2) == 0 {
			return id
		}
	}
	return 1 + r.Intn(3)
}

// goOn: a client whose request was answered goes on to the next.
func goOn(l []api.Call, number *[2]int) {
	for _, c := range l {
		if c.Client >= 2 && c.Number == number[c.Client-2] && c.To > 0 && c.Err == api.OK {
			number[c.Client-2]++
		}
	}
}

func TestP11LinearizableInAWorld(t *testing.T) {
	answered, open := 0, 0
	for seed := range 200 {
		l := seenBy(play(t, rand.New(rand.NewSource(int64(seed)))))
		order, ok, e := history.Check(l)
		if !ok || e != api.OK || !isOrder(l, order) {
			t.Fatalf("linearizable: seed %d: %+v: %v, %v, %v", seed, l, order, ok, e)
		}
		for _, c := range l {
			if c.To > 0 {
				answered++
			} else {
				open++
			}
		}
	}
	if answered < 500 || open < 500 {
		t.Errorf("linearizable: %d calls were answered, %d were not: the test shows too little", answered, open)
	}
}
