package host

import (
	"slices"

	"quorate/api"
	"quorate/kv"
	"quorate/session"
	"quorate/wal"
	"quorate/wire"
)

// wants: what is to be done behind a call, beside what is already.
func (h *Host) wants(out api.Out) api.Out {
	r := h.Ready()
	out.Acts = append(out.Acts, wal.Save(r)...)
	if r.Snapshot.Index > 0 {
		out.Answers = append(out.Answers, h.install(r.Snapshot)...)
	}
	for _, e := range r.Committed {
		out.Answers = append(out.Answers, h.commit(e)...)
	}
	for _, x := range r.Reads {
		out.Answers = append(out.Answers, h.see(x.ID)...)
	}
	for _, number := range r.Refused {
		out.Answers = append(out.Answers, h.refuse(number)...)
	}
	out.Acts = append(out.Acts, h.shorten()...)
	out.Sends = sends(r.Messages)
	return out
}

// install: a snapshot's table. Which of the entries in it were those that were asked, nobody knows.
func (h *Host) install(x api.Snapshot) (l []api.Answer) {
	h.table, _ = wire.GetTable(x.Data)
	for _, a := range h.waited(x.Index) {
		l = append(l, api.Answer{Token: a.token, Err: api.ErrLeader})
	}
	return l
}

// commit: an entry is run; who waits for it has the result, unless another entry took the place of the one that was asked.
func (h *Host) commit(e api.Entry) (l []api.Answer) {
	r := h.run(e)
	for _, a := range h.waited(e.Index) {
		answer := api.Answer{Token: a.token, Result: r}
		if a.term != e.Term {
			answer = api.Answer{Token: a.token, Err: api.ErrLeader}
		}
		l = append(l, answer)
	}
	return l
}

// run: an entry on the table: the result, which is zero of an entry that asks nothing.
func (h *Host) run(e api.Entry) (r api.Result) {
	if e.Kind == api.Ask {
		q, _ := wire.GetRequest(e.Data)
		h.table, r = session.Run(h.table, q, e.Index)
	}
	return r
}

// waited: who waits for entries up to an index; they wait no more.
func (h *Host) waited(index int) []asked {
	return takeOff(&h.asked, func(a asked) bool { return a.index <= index })
}

// see: a read that may be answered.
func (h *Host) see(number int) (l []api.Answer) {
	for _, x := range h.looked(number) {
		_, r := kv.Apply(h.table.Pairs, x.command)
		l = append(l, api.Answer{Token: x.token, Result: r})
	}
	return l
}

// refuse: a read that can't be answered.
func (h *Host) refuse(number int) (l []api.Answer) {
	for _, x := range h.looked(number) {
		l = append(l, api.Answer{Token: x.token, Err: api.ErrLeader})
	}
	return l
}

// looked: who waits for the read of a number; it waits no more.
func (h *Host) looked(number int) []look {
	return takeOff(&h.looks, func(x look) bool { return x.number == number })
}

// takeOff: those that wait for something are taken off, in order.
func takeOff[T any](l *[]T, waits func(T) bool) (off []T) {
	*l = slices.DeleteFunc(*l, func(x T) bool {
		if !waits(x) {
			return false
		}
		off = append(off, x)
		return true
	})
	return off
}

// shorten: the log, once so much of it is applied that a snapshot takes its place. (Who waits to be taken in keeps all: Compact says so.)
func (h *Host) shorten() []api.Act {
	s := h.Node.Look()
	if s.Applied-s.Log.Base < h.keep {
		return nil
	}
	data, e := wire.PutTable(h.table)
	if e != api.OK || h.Compact(s.Applied, data) != api.OK {
		return nil
	}
	return wal.Cut(h.Kept())
}

// sends: messages in frames.
func sends(l []api.Message) (out []api.Send) {
	for _, m := range l {
		body, _ := wire.PutMessage(m)
		frame, _ := wire.Frame(body)
		out = append(out, api.Send{To: m.To, Frame: frame})
	}
	return out
}
