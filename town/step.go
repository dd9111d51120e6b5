package town

import (
	"slices"

	"quorate/api"
)

// asked: a call of the world, which a client made under a number of its own.
type asked struct {
	token  int
	by     *resident
	id     int
	answer *api.Answer // nil: there is none yet
}

func (a asked) isAnswered() bool {
	return a.answer != nil
}

// Do: a step: somebody wants something; or the world's step, with which, if it is TickAll, clients tick, too. Then who has something to ask asks.
func (t *Town) Do(s api.TownStep) (e api.Errno) {
	if s.Want {
		e = t.want(s.Client, s.Command)
	} else {
		t.pass(s.Step)
	}
	for _, r := range t.clients {
		t.ask(r)
	}
	return e
}

// want: a client is to have something done. Nothing that it has asked till now is of use any more.
func (t *Town) want(k int, x api.Command) api.Errno {
	r := t.find(k)
	if r == nil {
		return api.ErrWorld
	}
	if e := r.Want(x); e != api.OK {
		return e
	}
	t.asked = slices.DeleteFunc(t.asked, func(a asked) bool { return a.by == r })
	r.wanted++
	r.last = len(t.wants)
	t.wants = append(t.wants, api.Call{From: t.steps + 1, Client: k, Number: r.wanted, Command: x})
	return api.OK
}

// pass: a step of the world that no client asked for.
func (t *Town) pass(s api.Step) {
	t.stepWorld(s)
	for _, a := range t.asked {
		t.tell(a)
	}
	t.asked = slices.DeleteFunc(t.asked, asked.isAnswered)
	if s.Kind == api.TickAll {
		for _, r := range t.clients {
			r.Tick()
		}
	}
}

// ask: a client does, if it has something to ask, and is told of an answer that is there at once.
func (t *Town) ask(r *resident) {
	x, is := r.Next()
	if !is {
		return
	}
	at := len(t.asked)
	t.asked = append(t.asked, asked{token: t.calls + 1, by: r, id: x.ID})
	if !t.stepWorld(api.Step{Kind: api.AskNode, Node: x.Node, Request: x.Request}) {
		t.asked[at].answer = &api.Answer{Err: api.ErrDown}
	}
	if t.asked[at].isAnswered() {
		t.tell(t.asked[at])
		t.asked = t.asked[:at]
	}
}

// tell: a client of the answer to its call, if there is one; a result that comes of it is taken at once.
func (t *Town) tell(a asked) {
	if !a.isAnswered() {
		return
	}
	a.by.Answer(a.id, a.answer.Err, a.answer.Result)
	if r, is := a.by.Done(); is {
		c := &t.wants[a.by.last]
		c.To, c.Result = t.steps, r
	}
}

// stepWorld: a step of the world; answers to clients' calls are laid by. Did a call come of it?
func (t *Town) stepWorld(s api.Step) bool {
	t.steps++
	events := t.World.Do(s)
	called := isCall(s, events)
	if called {
		t.calls++
	}
	for _, e := range events {
		for _, a := range e.Answers {
			t.layBy(a)
		}
	}
	return called
}

// isCall: a node that is down, or none, is asked in vain.
func isCall(s api.Step, events []api.Event) bool {
	asks := s.Kind == api.AskNode || s.Kind == api.ReadNode
	return asks && len(events) > 0 && events[0].Err == api.OK
}

func (t *Town) layBy(x api.Answer) {
	at := slices.IndexFunc(t.asked, func(a asked) bool { return a.token == x.Token })
	if at >= 0 {
		t.asked[at].answer = &x
	}
}
