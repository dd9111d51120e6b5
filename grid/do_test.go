package grid_test

import (
	"strings"
	"testing"

	"quorate/api"
	"quorate/grid"
)

func TestP21_2NoSuchWorker(t *testing.T) {
	g := led(t, 1, 2, 2, 3)
	for _, k := range append([]int{0, 3, 6, 7}, extreme...) {
		wants(t, g, k, 1, does(t, "get a"), api.ErrWorld)
		wants(t, g, k, 3, does(t, "get a"), api.ErrWorld) // ahead of what New says
		wants(t, g, k, 1, api.Job{}, api.ErrWorld)
	}
	is(t, "P21.2: no job was begun", works(g)+logged(t, g, 1), "")
}

func TestP21_2WhatNewSays(t *testing.T) {
	long := strings.Repeat("k", api.MaxKey)
	jobs := []api.Job{
		{},
		{Command: api.Command{Kind: api.Get}},
		{Command: api.Command{Kind: 7, Key: "a"}},
		{Command: api.Command{Kind: api.List, If: 1}},
		does(t, "get "+long),
		does(t, "put a "+strings.Repeat("v", api.MaxText+1)),
		hands("a", -1), hands("a", 3), hands("a", 4), hands(long, 2),
		{Command: does(t, "put a v").Command, To: 1},
		{Command: does(t, "del a").Command, To: 2},
	}
	g := led(t, 1, 2, 2, 3)
	for _, j := range jobs {
		wants(t, g, 1, 1, j, api.ErrJob)
		wants(t, g, 2, 2, j, api.ErrJob)
		wants(t, g, 1, 3, j, api.ErrBound)
	}
	for _, at := range append([]int{0, 3, 4}, extreme...) {
		wants(t, g, 1, at, does(t, "get a"), api.ErrBound)
	}
	is(t, "P21.2: no job was begun", works(g)+logged(t, g, 1)+logged(t, g, 2), "")
	wants(t, g, 1, 2, hands(long[1:], 2), api.OK) // and the worker has none
	for _, j := range append(jobs, does(t, "get a")) {
		wants(t, g, 1, 1, j, api.ErrBusy) // ahead of what New says
		wants(t, g, 1, 3, j, api.ErrBusy)
	}
	wants(t, g, 2, 1, does(t, "put a "+strings.Repeat("v", api.MaxText)), api.OK) // the other is not busy
	if l := g.Works(); len(l) != 2 {
		t.Errorf("P21.2: what is refused is not begun: %s", works(g))
	}
}

func TestP21_2NoSuchGroup(t *testing.T) {
	for _, groups := range []int{1, 3, 4} {
		g := led(t, 1, groups, 1, 3)
		for _, k := range append([]int{0, groups + 1, 5, 7}, extreme...) {
			if e := g.Do(api.GridStep{Group: k, Step: stop(1)}); e != api.ErrWorld {
				t.Errorf("P21.2: %d groups, a step of group %d: %d", groups, k, e)
			}
		}
		for k := 1; k <= groups; k++ {
			if _, _, up := g.Look(k, 1); !up {
				t.Errorf("P21.2: %d groups: a step of a group that is not there was done by %d", groups, k)
			}
		}
	}
}

// A step of a world is refused to nobody, whatever comes of it.
func TestP21_2StepsOfAllKinds(t *testing.T) {
	g := led(t, 2, 2, 2, 3)
	do(t, g, 2, stop(2))
	wants(t, g, 1, 1, does(t, "app a v"), api.OK)
	for _, kind := range append([]int{0, 1, 2, 3, 4, 5, 6, 7, 8, 9, 10, 11, 12}, extreme...) {
		for _, n := range append([]int{0, 1, 2, 3, 10}, extreme...) {
			s := api.Step{Kind: kind, Node: n, N: n, Part: n, Request: api.Request{Client: n, Number: n}, Ops: []api.Op{{Kind: n, Node: n}}}
			do(t, g, 1, s)
			do(t, g, 2, s)
		}
	}
}

// Of Want Group and Step say nothing, of a step Worker, At and Job.
func TestP21_2EitherWay(t *testing.T) {
	for _, group := range []int{1, 2, 9} {
		g := led(t, 1, 2, 1, 3)
		e := g.Do(api.GridStep{Want: true, Worker: 1, At: 1, Job: does(t, "get a"), Group: group, Step: stop(1)})
		if _, _, up := g.Look(1, 1); e != api.OK || !up {
			t.Errorf("P21.2: Want does a step: %d", e)
		}
		if _, _, up := g.Look(2, 1); !up {
			t.Error("P21.2: Want does a step of group 2")
		}
	}
	for _, k := range []int{0, 1, 9} {
		g := led(t, 1, 2, 1, 3)
		e := g.Do(api.GridStep{Worker: k, At: k, Job: does(t, "get a"), Group: 2, Step: stop(1)})
		if _, _, up := g.Look(2, 1); e != api.OK || up || len(g.Works()) > 0 {
			t.Errorf("P21.2: a step begins something: %d, %s", e, works(g))
		}
	}
}

// One node alone: each question is answered by its own step. A worker goes on by one command in each step.
func TestP21_2OneCommandAStep(t *testing.T) {
	g := led(t, 1, 2, 1, 3)                       // four steps
	wants(t, g, 1, 1, does(t, "put a v"), api.OK) // 5: a session
	is(t, "P21.2: it has asked", logged(t, g, 1), "0/0")
	do(t, g, 1, idle()) // 6: READ, of which it is told; WRITE
	is(t, "P21.2: it has asked", logged(t, g, 1), "0/0 2/1 2/2")
	is(t, "P21.2: it is written", cells(g, 2), "1.ca=here 0 1 =v (1)")
	is(t, "P21.3: it was not told yet", works(g), "1 5-0 put a v: working at 1")
	do(t, g, 2, idle()) // 7
	is(t, "P21.2: it was told", works(g), `1 5-7 put a v: ended at 1: done 1 ""`)
	is(t, "P21.2: it asks no more", logged(t, g, 1)+logged(t, g, 2), "0/0 2/1 2/2")

	wants(t, g, 1, 1, hands("a", 2), api.OK) // 8: READ
	is(t, "P21.2: it has asked", logged(t, g, 1), "0/0 2/1 2/2 2/3")
	is(t, "P21.2: nothing of group 2", logged(t, g, 2), "")
	do(t, g, 1, idle()) // 9: told; PREPARE: a session in group 2
	is(t, "P21.2: nothing of group 1", logged(t, g, 1), "0/0 2/1 2/2 2/3")
	is(t, "P21.2: it has asked", logged(t, g, 2), "0/0")
	do(t, g, 1, idle()) // 10: which is not the group that is asked
	is(t, "P21.2: it waits for group 2", logged(t, g, 2), "0/0")
	do(t, g, 2, idle()) // 11: PREPARE, told, ROOM
	for i, want := range []string{
		"2.ca=gone 0 1 (1)",
		"2.ca=gone 0 1 (1)",                               // 12: READ
		"2.ca=gone 0 1 (1)",                               // 13: PREPARE
		"1.ca=moving 1 2 1 =v (2), 2.ca=gone 0 1 (1)",     // 14: WRITE
		"1.ca=moving 1 2 1 =v (2), 2.ca=gone 0 1 (1)",     // 15: LOOK
		"1.ca=moving 1 2 1 =v (2), 2.ca=here 1 1 =v (2)",  // 16: PUT
		"1.ca=gone 1 2 (3), 2.ca=here 1 1 =v (2)",         // 17: SEAL
		"1.ca=gone 1 2 (3), 2.ca=here 1 1 =v (2), ended.", // 18
	} {
		if i > 0 {
			do(t, g, 1+i%2, idle())
		}
		if i < 3 {
			want = "1.ca=here 0 1 =v (1), " + want
		}
		got := cells(g, 2)
		if g.Works()[1].To > 0 {
			got += ", ended."
		}
		is(t, "P21.2: as chapter 20's example", got, want)
	}
	is(t, "P21.2: handed over", work(t, g, 1), `1 8-18 a to 2: ended at 1: done 0 ""`)
	wants(t, g, 1, 1, does(t, "get a"), api.OK) // 19: READ of group 1
	do(t, g, 2, idle())                         // 20: READ of group 2
	is(t, "P21.2: it is at group 2", work(t, g, 2), "1 19-0 get a: working at 2")
	do(t, g, 1, idle()) // 21
	is(t, "P21.2: got", work(t, g, 2), "1 19-21 get a: ended at 2: done 1 v")
}

// In any case all workers go on, whatever the step, and whether it is refused or not.
func TestP21_2InAnyCase(t *testing.T) {
	for _, x := range []struct {
		what string
		step api.GridStep
		err  api.Errno
	}{
		{"a step of its group", api.GridStep{Group: 1, Step: tickAll()}, api.OK},
		{"a step of another group", api.GridStep{Group: 2, Step: tickAll()}, api.OK},
		{"a step that does nothing", api.GridStep{Group: 2, Step: idle()}, api.OK},
		{"a step of no kind", api.GridStep{Group: 1}, api.OK},
		{"its group's node stops", api.GridStep{Group: 1, Step: stop(1)}, api.OK},
		{"a step of no group", api.GridStep{Group: 3}, api.ErrWorld},
		{"a step of nothing", api.GridStep{}, api.ErrWorld},
		{"a job of another", api.GridStep{Want: true, Worker: 2, At: 2, Job: does(t, "get b")}, api.OK},
		{"a job of nobody", api.GridStep{Want: true, Worker: 3, At: 1, Job: does(t, "get b")}, api.ErrWorld},
		{"a job of its own, too early", api.GridStep{Want: true, Worker: 1, At: 1, Job: does(t, "get b")}, api.ErrBusy},
		{"a job that may not be", api.GridStep{Want: true, Worker: 2, At: 2}, api.ErrJob},
		{"a job at no group", api.GridStep{Want: true, Worker: 2, At: 3, Job: does(t, "get b")}, api.ErrBound},
	} {
		g := led(t, 1, 2, 2, 3)
		wants(t, g, 1, 1, does(t, "app a v"), api.OK) // 5
		do(t, g, 1, idle())                           // 6: it is written
		if e := g.Do(x.step); e != x.err {
			t.Errorf("P21.2: %s: %d; want %d", x.what, e, x.err)
		}
		is(t, "P21.2: behind "+x.what, work(t, g, 0), `1 5-7 app a v: ended at 1: done 1 ""`)
		wants(t, g, 1, 2, does(t, "get b"), api.OK) // it has no job any more
		l := g.Works()
		if last := l[len(l)-1]; last.Worker != 1 || last.From != 8 {
			t.Errorf("P21.2: behind %s the next step is the eighth: %s", x.what, works(g))
		}
	}
}

// Workers go on in order, whoever began first; who went on already is told of what comes then in the next step.
func TestP21_2InOrder(t *testing.T) {
	g := led(t, 1, 1, 3, 3)
	wants(t, g, 3, 1, does(t, "app c 3"), api.OK) // 5
	is(t, "P21.2: a session", logged(t, g, 1), "0/0")
	wants(t, g, 2, 1, does(t, "app b 2"), api.OK) // 6: client 2's session 3, client 3's READ; then worker 3 is told, WRITE: client 2's READ, too
	is(t, "P21.2: worker 2, then 3", logged(t, g, 1), "0/0 0/0 2/1 3/1 2/2")
	is(t, "P21.2: neither was told", works(g), "3 5-0 app c 3: working at 1; 2 6-0 app b 2: working at 1")
	if e := g.Do(api.GridStep{}); e != api.ErrWorld { // 7: worker 2's WRITE
		t.Error(e)
	}
	is(t, "P21.2: worker 2 was told of its READ", logged(t, g, 1), "0/0 0/0 2/1 3/1 2/2 3/2")
	is(t, "P21.2: worker 3 has ended", works(g), `3 5-7 app c 3: ended at 1: done 1 ""; 2 6-0 app b 2: working at 1`)
	wants(t, g, 3, 1, does(t, "get c"), api.OK) // 8
	is(t, "P21.2: worker 2 has ended", works(g), `3 5-7 app c 3: ended at 1: done 1 ""; 2 6-8 app b 2: ended at 1: done 1 ""; 3 8-0 get c: working at 1`)
}

// The client of a worker's number wants, in each group: so one that has no session there opens one.
func TestP21_2TheClientOfTheWorkersNumber(t *testing.T) {
	g := led(t, 1, 2, 6, 3)
	for _, x := range []struct {
		worker, at   int
		first, other string
	}{
		{4, 1, "0/0 2/1", ""},
		{2, 1, "0/0 2/1 0/0 4/1", ""},
		{4, 1, "0/0 2/1 0/0 4/1 2/2", ""},
		{2, 1, "0/0 2/1 0/0 4/1 2/2 4/2", ""},
		{4, 2, "0/0 2/1 0/0 4/1 2/2 4/2 2/3", "0/0 2/1"}, // group 2 knows nothing of the key, so it is looked for in group 1
	} {
		wants(t, g, x.worker, x.at, does(t, "get a"), api.OK)
		for range 4 {
			do(t, g, x.at, idle())
		}
		is(t, "P21.2: asked of group 1", logged(t, g, 1), x.first)
		is(t, "P21.2: asked of group 2", logged(t, g, 2), x.other)
	}
}

// A job goes on where it was told to begin, and waits while that group is down; another's does not.
func TestP21_2AGroupThatIsDown(t *testing.T) {
	g := led(t, 3, 2, 2, 3)
	for id := 1; id <= 3; id++ {
		do(t, g, 2, stop(id))
	}
	wants(t, g, 1, 2, does(t, "put a v"), api.OK)
	wants(t, g, 2, 1, does(t, "put b v"), api.OK)
	g.Heal(20, nil)
	is(t, "P21.2: who waits for group 2", work(t, g, 0), "1 8-0 put a v: working at 2")
	is(t, "P21.2: who does not", work(t, g, 1), `2 9-11 put b v: ended at 1: done 1 ""`)
	wants(t, g, 1, 1, does(t, "put a v"), api.ErrBusy)
	g.Heal(40, []int{2, 3})
	if x := g.Works()[0]; x.Status.State != api.Ended || x.Status.Group != 1 || x.Status.Result.Version != 1 {
		t.Errorf("P21.2: a majority is up: %s", shown(x))
	}
}

// sessions: so many are opened in group 1, in a script's name, so that there are as many as there may be, and the oldest is a client's.
func sessions(t *testing.T, g *grid.Grid, count int) {
	t.Helper()
	for range count {
		do(t, g, 1, ask(api.Request{}))
	}
}

// A session is no more when the job writes: nobody knows whether that was done; the worker is free.
func TestP21_2Unknown(t *testing.T) {
	g := led(t, 1, 1, 1, 3)
	wants(t, g, 1, 1, does(t, "get a"), api.OK)
	sessions(t, g, 7)                             // 6 to 12; with the client's they are eight
	wants(t, g, 1, 1, does(t, "app a v"), api.OK) // 13: READ
	sessions(t, g, 1)                             // 14: the client's is no more; then WRITE
	is(t, "P21.2: it was not told yet", work(t, g, 1), "1 13-0 app a v: working at 1")
	wants(t, g, 1, 1, does(t, "get b"), api.ErrBusy) // 15
	is(t, "P21.2: nobody knows", work(t, g, 1), "1 13-15 app a v: unknown at 1")
	wants(t, g, 1, 1, does(t, "get a"), api.OK) // 16: the worker is free; a session
	do(t, g, 1, idle())
	do(t, g, 1, idle())
	is(t, "P21.2: the next job", work(t, g, 2), `1 16-17 get a: ended at 1: missing 0 ""`)
	is(t, "P21.2: it stays so", work(t, g, 1), "1 13-15 app a v: unknown at 1")
}

// What is lost of a job that has written nothing is asked again.
func TestP21_2AskedAgain(t *testing.T) {
	g := led(t, 1, 1, 1, 3)
	wants(t, g, 1, 1, does(t, "get a"), api.OK)   // 5
	sessions(t, g, 8)                             // 6 to 13: the client's is no more
	wants(t, g, 1, 1, does(t, "app a v"), api.OK) // 14: READ, lost
	do(t, g, 1, idle())                           // 15: told; READ: a session
	is(t, "P21.2: READ again", work(t, g, 1)+cells(g, 1), "1 14-0 app a v: working at 1")
	do(t, g, 1, idle()) // 16: READ, told; WRITE
	do(t, g, 1, idle()) // 17
	is(t, "P21.2: it has ended", work(t, g, 1), `1 14-17 app a v: ended at 1: done 1 ""`)
}

// A stranger's cell names a group that is not there: the job can't go on, and nothing else comes of it.
func TestP21_2AGroupThatIsNotThere(t *testing.T) {
	for _, x := range []struct{ cell, want string }{
		{"gone 1 3", "1 7-0 app a w: working at 3"},
		{"gone 0 4", "1 7-0 app a w: working at 4"},
		{"moving 1 4 1 =v", "1 7-0 app a w: working at 1"},
	} {
		g := led(t, 1, 2, 2, 3)
		do(t, g, 1, ask(api.Request{}))
		do(t, g, 1, ask(api.Request{Client: 2, Number: 1, Command: api.Command{Kind: api.Put, Key: "ca", Value: x.cell}}))
		wants(t, g, 1, 1, does(t, "app a w"), api.OK)
		g.Heal(20, []int{1})
		is(t, "P21.2: the job can't go on", works(g), x.want)
		wants(t, g, 1, 1, does(t, "get b"), api.ErrBusy)
		wants(t, g, 2, 2, does(t, "put b v"), api.OK)
		g.Heal(20, []int{1})
		is(t, "P21.2: the job can't go on", work(t, g, 0), x.want)
		is(t, "P21.2: another's can", work(t, g, 1), `2 29-32 put b v: ended at 1: done 1 ""`)
		is(t, "P21.2: nothing came of it", cells(g, 2), "1.ca="+x.cell+" (1), 1.cb=here 0 1 =v (1)")
	}
}
