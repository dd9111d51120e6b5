package town

import (
	"testing"

	"quorate/api"
)

// No node answers one's call at another's question: so an answer is laid by by hand, as it would be then.
func TestP15_2AnothersCallIsToldBehindTheNextStep(t *testing.T) {
	x, e := New(api.World{Nodes: []int{1}, Voters: []int{1}, Election: 4, Beat: 1, Keep: 10}, 2, 9)
	if e != api.OK {
		t.Fatal(e)
	}
	x.Heal(4, nil)
	r := x.clients[1]
	c := api.Command{Kind: api.Get, Key: "k"}
	if e := x.want(2, c); e != api.OK {
		t.Fatal(e)
	}
	a, _ := r.Next()
	x.asked = append(x.asked, asked{token: 99, by: r, id: a.ID})
	x.layBy(api.Answer{Token: 98, Result: api.Result{Kind: api.Done, Version: 6}}) // nobody's
	x.layBy(api.Answer{Token: 99, Result: api.Result{Kind: api.Done, Version: 7}})
	for range 2 { // a session, and then what is wanted
		x.Do(api.TownStep{Want: true, Client: 1, Command: c})
		if s := r.Look(); s != (api.ClientStatus{Node: 1, Waits: true, Busy: true}) {
			t.Errorf("P15.2: it is told though no step was done but a question: %+v", s)
		}
	}
	if s := x.clients[0].Look(); s != (api.ClientStatus{Session: 2, Number: 1, Node: 1}) {
		t.Errorf("P15.2: who asked is told: %+v", s)
	}
	x.Do(api.TownStep{Step: api.Step{Kind: api.Twice}})
	l := x.History()
	if last := l[len(l)-1]; last.Client != 7 || last.Number != 1 {
		t.Errorf("P15.2: it is told behind the next step, and asks in that session: %+v", last)
	}
	if w := x.Wants()[0]; w.Client != 2 || w.Result.Kind != api.Lost || len(x.asked) != 0 {
		t.Errorf("P15.2: which there is not: %+v; %d calls wait", w, len(x.asked))
	}
}

// Nor does one answer a question at a tick.
func TestP15_2ToldAheadOfTheTick(t *testing.T) {
	x, e := New(api.World{Nodes: []int{1, 2}, Voters: []int{1, 2}, Election: 4, Beat: 1, Keep: 10}, 1, 1)
	if e != api.OK {
		t.Fatal(e)
	}
	x.Heal(4, nil)
	if e := x.want(1, api.Command{Kind: api.Get, Key: "k"}); e != api.OK {
		t.Fatal(e)
	}
	a, _ := x.clients[0].Next()
	x.asked = append(x.asked, asked{token: 99, by: x.clients[0], id: a.ID})
	x.layBy(api.Answer{Token: 99, Result: api.Result{Kind: api.Done, Version: 7}})
	x.Do(api.TownStep{Step: api.Step{Kind: api.TickAll}})
	if s := x.clients[0].Look(); s != (api.ClientStatus{Session: 7, Node: 1, Waits: true, Busy: true}) {
		t.Errorf("P15.2: who has an answer loses no patience: %+v", s)
	}
}

// What a client has asked for something is not kept once it wants something else.
func TestP15_2WhatIsOldIsNotKept(t *testing.T) {
	x, e := New(api.World{Nodes: []int{1, 2, 3}, Voters: []int{1, 2, 3}, Election: 4, Beat: 1, Keep: 10}, 2, 1)
	if e != api.OK {
		t.Fatal(e)
	}
	x.Heal(4, nil)
	for i := range 20 {
		for id := 1; id <= 3; id++ {
			x.Do(api.TownStep{Step: api.Step{Kind: api.Break, Node: id}})
		}
		x.Do(api.TownStep{Want: true, Client: 1, Command: api.Command{Kind: api.Get, Key: "k"}}) // who leads breaks at the question, which nobody answers
		x.Heal(20, []int{1, 2, 3})
		if x.wants[i].To == 0 {
			t.Fatalf("P15.2: %+v", x.wants[i])
		}
	}
	if len(x.asked) > 3 {
		t.Errorf("P15.2: %d calls wait", len(x.asked))
	}
}
