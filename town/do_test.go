package town_test

import (
	"testing"

	"quorate/api"
)

func TestP15_2NoSuchClient(t *testing.T) {
	a := led(t, 1, 2, 3)
	for _, k := range append([]int{0, 3, 7}, extreme...) {
		wants(t, a, k, add("a"), api.ErrWorld)
		wants(t, a, k, api.Command{}, api.ErrWorld) // ahead of what Want says
	}
	is(t, "P15.2: nothing is wanted", wanted(a)+asked(a), "")
}

func TestP15_2WhatWantSays(t *testing.T) {
	a := led(t, 3, 2, 3)
	bad := []api.Command{{}, {Kind: api.Get}, {Kind: 7, Key: "k"}, {Kind: api.Get, Key: "12345678901234567"}, {Kind: api.Swap, Key: "k", If: -1}}
	for _, c := range bad {
		wants(t, a, 1, c, api.ErrCommand)
	}
	wants(t, a, 1, add("a"), api.OK)
	wants(t, a, 1, add("b"), api.ErrBusy)
	for _, c := range bad {
		wants(t, a, 1, c, api.ErrCommand) // ahead of ErrBusy
	}
	wants(t, a, 2, get("k"), api.OK) // the other is not busy
	wants(t, a, 2, get("k"), api.ErrBusy)
	if l := a.Wants(); len(l) != 2 {
		t.Errorf("P15.2: what is refused is not wanted: %s", wanted(a))
	}
}

// A step of the world is refused to nobody, whatever comes of it.
func TestP15_2StepsOfAllKinds(t *testing.T) {
	a := led(t, 2, 1, 3)
	do(t, a, stop(2))
	for _, kind := range append([]int{0, 1, 2, 3, 4, 5, 6, 7, 8, 9, 10, 11, 12}, extreme...) {
		for _, n := range append([]int{0, 1, 2, 3, 10}, extreme...) {
			if kind != api.Stop || n != 1 {
				do(t, a, api.Step{Kind: kind, Node: n, N: n, Part: n, Request: api.Request{Client: n, Number: n}, Ops: []api.Op{{Kind: n, Node: n}}})
			}
		}
	}
}

// Of Want Step says nothing, of a step Client and Command.
func TestP15_2EitherWay(t *testing.T) {
	a := led(t, 1, 1, 3)
	if e := a.Do(api.TownStep{Want: true, Client: 1, Command: add("a"), Step: stop(1)}); e != api.OK || state(a, 1) == "down" {
		t.Errorf("P15.2: Want does a step: %d, %s", e, state(a, 1))
	}
	b := led(t, 1, 1, 3)
	if e := b.Do(api.TownStep{Client: 9, Command: add("a"), Step: stop(1)}); e != api.OK || state(b, 1) != "down" || len(b.Wants()) > 0 {
		t.Errorf("P15.2: a step wants something: %d, %s", e, wanted(b))
	}
}

// One node alone: each question is answered by its own step. A client asks once at most in each Do.
func TestP15_2AnsweredAtOnce(t *testing.T) {
	for _, x := range []struct {
		what string
		step api.TownStep
		from int // of the second question
		err  api.Errno
	}{
		{"a step", api.TownStep{Step: tick(1)}, 7, api.OK},
		{"a step that does nothing", api.TownStep{Step: up(1)}, 7, api.OK},
		{"a step of no kind", api.TownStep{}, 7, api.OK},
		{"a step of no node", api.TownStep{Step: stop(8)}, 7, api.OK},
		{"something that is wanted", api.TownStep{Want: true, Client: 2, Command: get("k")}, 6, api.OK},
		{"a want of nobody", api.TownStep{Want: true, Client: 3, Command: get("k")}, 6, api.ErrWorld},
		{"a want that may not be", api.TownStep{Want: true, Client: 2}, 6, api.ErrCommand},
		{"a want of its own, too early", api.TownStep{Want: true, Client: 1, Command: get("k")}, 6, api.ErrBusy},
	} {
		a := led(t, 1, 2, 3) // four steps
		wants(t, a, 1, add("a"), api.OK)
		is(t, "P15.2: a session is opened", asked(a), `5-5: 0/0 0 : 1 "" 2 []`)
		stands(t, "P15.2: and no more", a, 1, api.ClientStatus{Session: 2, Node: 1, Busy: true})
		is(t, "P15.2: it has no result", wanted(a), `5-0: 1/1 5 ka: 0 "" 0 []`)
		if e := a.Do(x.step); e != x.err {
			t.Errorf("P15.2: %s: %d; want %d", x.what, e, x.err)
		}
		stands(t, "P15.2: behind "+x.what, a, 1, api.ClientStatus{Session: 2, Number: 1, Node: 1})
		done := api.Call{From: x.from, To: x.from, Client: 2, Number: 1, Command: add("a"), Result: api.Result{Kind: api.Done, Version: 1}}
		is(t, "P15.2: asked behind "+x.what, brief(a.History()[1:2]), brief([]api.Call{done}))
		done.From, done.Client = 5, 1
		is(t, "P15.2: the result behind "+x.what, brief(a.Wants()[:1]), brief([]api.Call{done}))
		wants(t, a, 1, get("k"), api.OK) // the result was taken
	}
}

func TestP15_2ANodeThatIsDown(t *testing.T) {
	a := led(t, 3, 1, 3)
	do(t, a, stop(1))
	from := stepNow(t, a, 2)
	wants(t, a, 1, add("a"), api.OK) // step from + 1
	stands(t, "P15.2: ErrDown at once: the node behind is next", a, 1, api.ClientStatus{Node: 2, Busy: true})
	if l := a.History(); len(l) != 1 {
		t.Errorf("P15.2: a call came of it: %s", asked(a))
	}
	do(t, a, tick(3)) // from + 2
	stands(t, "P15.2: node 2 does not lead", a, 1, api.ClientStatus{Node: 3, Busy: true})
	is(t, "P15.2: it was asked", brief(a.History()[1:]), brief([]api.Call{{From: from + 3, To: from + 3, Err: api.ErrLeader}}))
	do(t, a, stop(3)) // from + 4
	stands(t, "P15.2: node 3 is down, and node 1 the next", a, 1, api.ClientStatus{Node: 1, Busy: true})
	if n := stepNow(t, a, 2); n != from+6 {
		t.Errorf("P15.2: to ask a node that is down is a step, too: this one is %d; want %d", n, from+6)
	}
}

// A node that goes down at the question: there is a call, and no answer.
func TestP15_2ANodeThatBreaks(t *testing.T) {
	a := led(t, 3, 1, 2)
	do(t, a, breaks(1, 0))
	wants(t, a, 1, add("a"), api.OK)
	is(t, "P15.2: node 1", state(a, 1), "down")
	if l := a.History(); len(l) != 1 || l[0].To != 0 {
		t.Errorf("P15.2: the call: %s", asked(a))
	}
	stands(t, "P15.2: it waits", a, 1, api.ClientStatus{Node: 1, Waits: true, Busy: true})
	do(t, a, up(1))
	do(t, a, tickAll())
	stands(t, "P15.2: it waits still", a, 1, api.ClientStatus{Node: 1, Waits: true, Busy: true})
	do(t, a, tickAll())
	stands(t, "P15.2: it asked node 2, which does not lead", a, 1, api.ClientStatus{Node: 3, Busy: true})
	a.Heal(20, nil)
	if l := a.Wants(); l[0].Result.Kind != api.Done || l[0].Result.Version != 1 {
		t.Errorf("P15.2: in the end: %s", wanted(a))
	}
}

// Just TickAll is a tick of clients, and behind it they ask at once.
func TestP15_2Ticks(t *testing.T) {
	waits := api.ClientStatus{Node: 1, Waits: true, Busy: true}
	for _, s := range []api.Step{tick(1), tick(2), {}, stop(2), stop(3), up(2), {Kind: api.DropOne}, {Kind: api.Twice}, breaks(2, 1), {Kind: api.AskNode, Node: 2}, {Kind: api.ReadNode, Node: 2}} {
		a := led(t, 3, 2, 2)
		wants(t, a, 1, add("a"), api.OK)
		wants(t, a, 2, add("b"), api.OK)
		do(t, a, s)
		wants(t, a, 3, add("c"), api.ErrWorld)
		do(t, a, s)
		do(t, a, tickAll())
		stands(t, "P15.2: it was one tick", a, 1, waits)
		stands(t, "P15.2: it was one tick", a, 2, waits)
	}
	a := led(t, 3, 2, 2)
	wants(t, a, 1, add("a"), api.OK)
	do(t, a, tickAll())
	wants(t, a, 2, add("b"), api.OK)
	do(t, a, tickAll()) // the second of client 1, which asks node 2; the first of client 2
	stands(t, "P15.2: it has asked node 2", a, 1, api.ClientStatus{Node: 3, Busy: true})
	stands(t, "P15.2: it waits", a, 2, waits)
	do(t, a, tickAll()) // node 3 does not lead either
	stands(t, "P15.2: it has asked node 3", a, 1, api.ClientStatus{Node: 1, Busy: true})
	stands(t, "P15.2: it has asked node 2", a, 2, api.ClientStatus{Node: 3, Busy: true})
}

// Who has just asked, at a TickAll, waits since 0 ticks.
func TestP15_2AskedBehindTheTick(t *testing.T) {
	a := led(t, 3, 1, 1)
	do(t, a, stop(2))
	do(t, a, stop(3))
	wants(t, a, 1, add("a"), api.OK)
	for range 2 {
		stands(t, "P15.2: it waits for node 1", a, 1, api.ClientStatus{Node: 1, Waits: true, Busy: true})
		do(t, a, tickAll())
		stands(t, "P15.2: node 2 is down", a, 1, api.ClientStatus{Node: 3, Busy: true})
		do(t, a, tickAll()) // it does not wait: no tick turns it to another
		stands(t, "P15.2: node 3 is down", a, 1, api.ClientStatus{Node: 1, Busy: true})
		do(t, a, tick(1))
	}
}

// Three nodes: answers come with messages, and are told behind that step.
func TestP15_2ToldBehindTheStep(t *testing.T) {
	a := led(t, 3, 1, 9)
	from := stepNow(t, a, 2)         // of a node that refuses: nothing is sent
	wants(t, a, 1, add("a"), api.OK) // asked at from + 1
	at := comes(t, a, 1, from+2)     // there the session is opened, and at + 1 it asks
	stands(t, "P15.2: a session, and the question behind it", a, 1, api.ClientStatus{Session: 2, Node: 1, Waits: true, Busy: true})
	last := comes(t, a, 1, at+2)
	stands(t, "P15.2: done", a, 1, api.ClientStatus{Session: 2, Number: 1, Node: 1})
	done := api.Result{Kind: api.Done, Version: 1}
	is(t, "P15.2: the calls", brief(a.History()[1:]), brief([]api.Call{
		{From: from + 1, To: at, Result: api.Result{Kind: api.Done, Version: 2}},
		{From: at + 1, To: last, Client: 2, Number: 1, Command: add("a"), Result: done},
	}))
	is(t, "P15.3: what was wanted", wanted(a), brief([]api.Call{{From: from + 1, To: last, Client: 1, Number: 1, Command: add("a"), Result: done}}))
}

func TestP15_2InOrder(t *testing.T) {
	a := seated(t, 4, 2)
	since := len(a.History())
	for _, k := range []int{4, 2, 3, 1} {
		wants(t, a, k, add(string(rune('a'+k))), api.OK)
	}
	asks(t, "P15.2: as they wanted", a, since, 5, 3, 4, 2)
	do(t, a, stop(1))
	do(t, a, tickAll())
	asks(t, "P15.2: nobody yet", a, since, 5, 3, 4, 2)
	since += 4
	do(t, a, tickAll())
	asks(t, "P15.2: node 2, in order", a, since, 2, 3, 4, 5)
	do(t, a, tick(3))
	asks(t, "P15.2: node 3, in order", a, since, 2, 3, 4, 5, 2, 3, 4, 5)
}

// Several clients' calls are answered by one step.
func TestP15_2AllThatWereAnswered(t *testing.T) {
	a := seated(t, 3, 9)
	for _, k := range []int{3, 1, 2} {
		wants(t, a, k, add(string(rune('a'+k))), api.OK)
	}
	do(t, a, api.Step{Kind: api.Stop, Node: 3})
	for a.Way() > 0 {
		do(t, a, api.Step{Kind: api.DropOne}) // the three questions' messages are lost
	}
	a.Heal(2, nil) // with the first beat node 2 has them all
	l := a.Wants()[3:]
	for i, c := range l {
		if c.Client != []int{3, 1, 2}[i] || c.Number != 2 || c.To == 0 || c.To != l[0].To || c.Result.Version != i+1 {
			t.Errorf("P15.2: all are told behind the same step: %s", brief(l))
		}
	}
}

// Calls that a script makes are nobody's.
func TestP15_2CallsOfAScript(t *testing.T) {
	script := []api.Step{
		{Kind: api.AskNode, Node: 1}, // a session, of nobody
		{Kind: api.ReadNode, Node: 1, Request: api.Request{Command: get("k")}},
		{Kind: api.AskNode, Node: 2},                      // it is refused
		{Kind: api.ReadNode, Node: 1},                     // no command
		{Kind: api.AskNode, Node: 4}, {Kind: api.AskNode}, // no node
		{Kind: api.ReadNode, Node: 4}, {Kind: api.ReadNode}, // no node
		{Kind: api.AskNode, Node: 3}, {Kind: api.ReadNode, Node: 3}, // down
		{Kind: api.ChangeAt, Node: 1, Ops: []api.Op{{Kind: api.AddLearner, Node: 5}}},
	}
	for i, s := range script {
		a := led(t, 3, 2, 9)
		do(t, a, stop(3))
		do(t, a, s)
		wants(t, a, 1, add("a"), api.OK)
		do(t, a, s)
		wants(t, a, 2, add("b"), api.OK)
		for range 60 {
			do(t, a, s)
			for range 4 {
				do(t, a, deliver())
			}
		}
		a.Heal(5, nil)
		l := a.Wants()
		if len(l) != 2 || l[0].Result.Kind != api.Done || l[0].Result.Version != 1 || l[1].Result.Kind != api.Done || l[1].Result.Version != 2 {
			t.Errorf("P15.2: script %d: %s\n%s", i, brief(l), asked(a))
		}
		if _, x, _ := a.Look(1); len(x.Pairs) != 1 || x.Pairs[0].Value != "ab" {
			t.Errorf("P15.2: script %d: %+v", i, x.Pairs)
		}
	}
}

// A result is one also where the session is no more; then another is opened.
func TestP15_2ASessionThatIsNoMore(t *testing.T) {
	a := seated(t, 1, 9)
	for range 9 {
		do(t, a, api.Step{Kind: api.AskNode, Node: 1}) // more sessions than there may be
	}
	a.Heal(1, nil)
	wants(t, a, 1, add("a"), api.OK)
	a.Heal(1, nil)
	is(t, "P15.2: Lost", tell(a.Wants()[1].Result), tell(api.Result{Kind: api.Lost}))
	stands(t, "P15.2: no session", a, 1, api.ClientStatus{Node: 1})
	wants(t, a, 1, add("b"), api.OK)
	a.Heal(2, nil)
	is(t, "P15.2: Done", tell(a.Wants()[2].Result), tell(api.Result{Kind: api.Done, Version: 1}))

	b := seated(t, 1, 9)
	do(t, b, api.Step{Kind: api.AskNode, Node: 1, Request: api.Request{Client: 2, Number: 2, Command: add("x")}}) // in its name
	b.Heal(1, nil)
	wants(t, b, 1, add("a"), api.OK)
	b.Heal(1, nil)
	is(t, "P15.2: the answer to that number", tell(b.Wants()[1].Result), tell(api.Result{Kind: api.Done, Version: 1}))
	do(t, b, api.Step{Kind: api.AskNode, Node: 1, Request: api.Request{Client: 2, Number: 3, Command: add("y")}})
	do(t, b, api.Step{Kind: api.AskNode, Node: 1, Request: api.Request{Client: 2, Number: 4, Command: add("z")}})
	b.Heal(1, nil)
	wants(t, b, 1, add("a"), api.OK)
	b.Heal(1, nil)
	is(t, "P15.2: Stale", tell(b.Wants()[2].Result), tell(api.Result{Kind: api.Stale}))
	stands(t, "P15.2: no session", b, 1, api.ClientStatus{Node: 1})
}
