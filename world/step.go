package world

import (
	"slices"

	"quorate/api"
	"quorate/own"
)

// Do: a step: what comes of it, of each node that something happens to.
func (w *World) Do(s api.Step) []api.Event {
	w.step++
	switch s.Kind {
	case api.TickAll:
		return w.tickAll()
	case api.Deliver:
		return w.deliver(s.N)
	case api.DropOne:
		w.takeOff(s.N)
		return nil
	case api.Twice:
		w.double(s.N)
		return nil
	}
	n := w.find(s.Node)
	if n == nil {
		return nil
	}
	return []api.Event{w.doAt(n, s)}
}

func (w *World) tickAll() (l []api.Event) {
	for _, n := range w.nodes {
		if n.host != nil {
			l = append(l, w.happen(n, n.host.Tick()))
		}
	}
	return l
}

// deliver: a message comes; it is lost, if nobody is there.
func (w *World) deliver(number int) []api.Event {
	x, is := w.takeOff(number)
	if !is {
		return nil
	}
	n := w.find(x.To)
	if n == nil || n.host == nil {
		return nil
	}
	return []api.Event{w.happen(n, n.host.Receive(x.Frame))}
}

// takeOff: a message, of those on their way; false: none is.
func (w *World) takeOff(number int) (api.Send, bool) {
	if len(w.way) == 0 {
		return api.Send{}, false
	}
	at := round(number, len(w.way))
	x := w.way[at]
	w.way = slices.Delete(w.way, at, at+1)
	return x, true
}

func (w *World) double(number int) {
	if len(w.way) > 0 {
		w.way = append(w.way, w.way[round(number, len(w.way))])
	}
}

// round: a number, round and round, from 0 on.
func round(number, count int) int {
	return (number%count + count) % count
}

// doAt: a step of one node.
func (w *World) doAt(n *node, s api.Step) api.Event {
	if (n.host == nil) != (s.Kind == api.Begin) {
		return api.Event{Node: n.setup.ID, Err: api.ErrDown}
	}
	switch s.Kind {
	case api.Begin:
		return w.begin(n)
	case api.TickOne:
		return w.happen(n, n.host.Tick())
	case api.AskNode:
		q := s.Request
		token := w.call(api.Call{Client: q.Client, Number: q.Number, Command: q.Command})
		return w.happen(n, n.host.Ask(token, q))
	case api.ReadNode:
		token := w.call(api.Call{Command: s.Request.Command})
		return w.happen(n, n.host.Look(token, s.Request.Command))
	case api.ChangeAt:
		return w.happen(n, n.host.Reconfigure(0, s.Ops))
	case api.Stop:
		n.host, n.flaw = nil, nil
	case api.Break:
		n.flaw = &flaw{max(s.N, 0), max(s.Part, 0)}
	}
	return api.Event{Node: n.setup.ID}
}

// call: one is made at this step: its token.
func (w *World) call(c api.Call) int {
	c.From = w.step
	w.calls = append(w.calls, c)
	return len(w.calls)
}

// answer: a call is answered at this step. (A token that is none's is that of a change.)
func (w *World) answer(a api.Answer) {
	if a.Token > 0 {
		c := &w.calls[a.Token-1]
		c.To, c.Err, c.Result = w.step, a.Err, own.Result(a.Result)
	}
}
