package host_test

import (
	"math/rand"
	"slices"
	"strings"
	"testing"

	"quorate/api"
	"quorate/host"
)

// roomy: a list with spare room behind it, and all of that, to look at.
func roomy[T any](l []T, spare T) (short, whole []T) {
	whole = append(slices.Clone(l), spare, spare, spare)
	return whole[:len(l)], whole
}

// spoil: a list, and its spare room.
func spoil[T any](l []T, with T) {
	l = l[:cap(l)]
	for i := range l {
		l[i] = with
	}
}

func spoilOut(out api.Out) {
	for _, a := range out.Answers {
		spoil(a.Result.Keys, "over")
	}
	spoil(out.Acts, api.Act{What: 88, Name: "over"})
	spoil(out.Sends, api.Send{To: 88, Frame: "over"})
	spoil(out.Answers, api.Answer{Token: 88, Err: 88})
}

func spoilStatus(s api.Status, x api.Table) {
	spoil(s.Config.Voters, 88)
	spoil(s.Config.Next, 88)
	spoil(s.Config.Learners, 88)
	spoil(s.Log.Entries, api.Entry{Index: 88, Data: "over"})
	spoil(s.Progress, api.Progress{Node: 88})
	for _, a := range x.Sessions {
		spoil(a.Answer.Keys, "over")
	}
	spoil(x.Pairs, api.Pair{Key: "over"})
	spoil(x.Sessions, api.Session{Client: 88})
}

// next: the number that a host's first client asks under next.
func next(h *host.Host) int {
	_, x := h.Status()
	if len(x.Sessions) == 0 {
		return 1
	}
	return x.Sessions[0].Last + 1
}

// call: of a host, some call.
func call(r *rand.Rand, step, number int) func(h *host.Host) api.Out {
	command := api.Command{Kind: []int{api.Put, api.Append, api.List, api.Get}[r.Intn(4)], Key: []string{"a", "ab", "b"}[r.Intn(3)]}
	switch k := r.Intn(20); {
	case k < 9:
		return func(h *host.Host) api.Out { return h.Tick() }
	case k < 13:
		return func(h *host.Host) api.Out { return h.Ask(step, request(number, command)) }
	case k < 14:
		return func(h *host.Host) api.Out { return h.Ask(step, api.Request{}) }
	case k < 17:
		command := api.Command{Kind: api.List, Key: "a"}
		return func(h *host.Host) api.Out { return h.Look(step, command) }
	case k < 18:
		f := entries(2, 1, 1+step/20, 0, 0, 1, nothing(1, 1), asks(2, 1, api.Request{}))
		return func(h *host.Host) api.Out { return h.Receive(f) }
	}
	return func(h *host.Host) api.Out {
		return h.Reconfigure(step, []api.Op{{Kind: api.AddLearner, Node: 2 + step%5}})
	}
}

func TestP9MemoryOfItsOwn(t *testing.T) {
	listed := 0
	for seed := range int64(40) {
		r := rand.New(rand.NewSource(seed))
		s := keeping(setup(1, 1), 5)
		one, two := alone(t, s), alone(t, s)
		one.Ask(0, api.Request{})
		two.Ask(0, api.Request{})
		for step := range 200 {
			do := call(r, step, next(two))
			a, b := do(one), do(two)
			if tell(a) != tell(b) {
				t.Fatalf("P9: two hosts, of which the same is asked: %+v, %+v", a, b)
			}
			for _, x := range a.Answers {
				listed += len(x.Result.Keys)
			}
			spoilOut(a)
			spoilStatus(one.Status())
			now, x := one.Status()
			was, y := two.Status()
			if tell(now, x) != tell(was, y) {
				t.Fatalf("P9: what came out was changed, and so was the host: %+v, %+v; it was %+v, %+v", now, x, was, y)
			}
		}
	}
	if listed < 100 {
		t.Errorf("the test shows too little: %d", listed)
	}
}

func TestP9WhatIsHandedInStays(t *testing.T) {
	s := setup(1)
	var all, allLearners []int
	s.Config.Voters, all = roomy([]int{1, 2, 3}, 77)
	s.Config.Learners, allLearners = roomy([]int{4}, 77)
	files, wholeFiles := roomy([]api.File{plain(1, nothing(1, 1))}, api.File{Name: "spare"})
	was := tell(all, allLearners, wholeFiles)
	h, _, e := host.New(s, files)
	if e != api.OK || tell(all, allLearners, wholeFiles) != was {
		t.Fatalf("P9.1: %v: what was handed in: %+v, %+v, %+v", e, all, allLearners, wholeFiles)
	}
	now, _ := h.Status()
	spoil(all, 88)
	spoil(allLearners, 88)
	spoil(wholeFiles, api.File{Name: "over"})
	then, _ := h.Status()
	is(t, "P9.1: nothing of that was kept", tell(then), tell(now))

	one := alone(t, setup(1, 1))
	ops, wholeOps := roomy([]api.Op{{Kind: api.AddVoter, Node: 3}, {Kind: api.AddLearner, Node: 2}}, api.Op{Kind: 77})
	was = tell(wholeOps)
	one.Reconfigure(1, ops)
	is(t, "P9.4: the operations", tell(wholeOps), was)
	now, _ = one.Status()
	spoil(wholeOps, api.Op{Kind: 88})
	then, _ = one.Status()
	is(t, "P9.4: nothing of them was kept", tell(then), tell(now))
}

func TestP9NothingPanics(t *testing.T) {
	long := strings.Repeat("x", 1<<17)
	for _, n := range append([]int{0, 1}, extreme...) {
		s := setup(1, 1, 2, 3)
		s.ID, s.Election, s.Beat, s.Keep = n, n, n, n
		host.New(s, nil)
		host.New(keeping(setup(n, n), 5), []api.File{{Name: long, Data: long}})
		host.New(keeping(setup(1, n, n), 5), []api.File{log(long)})
		for _, h := range []*host.Host{alone(t, setup(1, 1)), settled(t, setup(1, 1, 2, 3))} {
			for _, text := range []string{"", "k", long} {
				c := api.Command{Kind: n, Key: text, Value: text, If: n}
				h.Ask(n, api.Request{Client: n, Number: n, Command: c, Time: n})
				h.Look(n, c)
				c.Kind = api.Get
				h.Look(n, c)
				h.Receive(text)
				h.Receive(framed(text))
				h.Reconfigure(n, []api.Op{{Kind: n, Node: n}, {Kind: api.AddVoter, Node: n}})
				h.Reconfigure(n, nil)
				h.Tick()
			}
		}
	}
}
