package host_test

import (
	"fmt"
	"strings"
	"testing"

	"quorate/api"
	"quorate/host"
	"quorate/raft"
	"quorate/wal"
	"quorate/wire"
)

func TestP9_2Tick(t *testing.T) {
	h, _ := begin(t, setup(2, 1, 2, 3))
	for range raft.Timeout(2, 10) - 1 {
		is(t, "P9.2: not yet", tell(h.Tick()), tell(api.Out{}))
	}
	is(t, "P9.2: it campaigns", mail(h.Tick()), "prevote>1 t1; prevote>3 t1")
}

func TestP9_2Receive(t *testing.T) {
	vote := api.Message{Kind: api.Vote, From: 2, To: 1, Term: 3}
	good := frame(vote)
	body, _ := wire.PutMessage(vote)
	turned := []byte(good)
	turned[3] ^= 1
	elsewhere := vote
	elsewhere.To = 3
	for _, x := range []struct {
		what, frame string
		is          bool
	}{
		{"a message", good, true},
		{"nothing", "", false},
		{"a message without a frame", body, false},
		{"a frame that is cut", good[:len(good)-1], false},
		{"a frame with a byte behind it", good + "\x00", false},
		{"two frames", good + good, false},
		{"a frame whose bytes were turned", string(turned), false},
		{"a frame of no message", framed("x"), false},
		{"a frame without bytes", framed(""), false},
		{"a message with bytes behind it", framed(body + "\x00"), false},
		{"a frame in a frame", framed(good), false},
		{"a message to another node", frame(elsewhere), false},
	} {
		h, _ := begin(t, setup(1, 1, 2, 3))
		out := h.Receive(x.frame)
		want := api.Out{}
		if x.is {
			want.Acts = wal.Save(api.Ready{Kept: true, Hard: api.Hard{Term: 3, Vote: 2}})
			want.Sends = []api.Send{{To: 2, Frame: frame(api.Message{Kind: api.VoteReply, From: 1, To: 2, Term: 3})}}
		}
		is(t, "P9.2: "+x.what, tell(out), tell(want))
	}
}

// times: the times of all requests in a host's log.
func times(h *host.Host) (l []int) {
	s, _ := h.Status()
	for _, e := range s.Log.Entries {
		if q, err := wire.GetRequest(e.Data); e.Kind == api.Ask && err == api.OK {
			l = append(l, q.Time)
		}
	}
	return l
}

func TestP9_3TheTimeOfARequest(t *testing.T) {
	h := settled(t, setup(1, 1, 2, 3))
	for _, time := range append([]int{0, 7, 10, 500}, extreme...) {
		h.Ask(1, api.Request{Time: time})
	}
	h.Tick()
	h.Ask(1, api.Request{})
	is(t, "P9.3: the clock, whatever the request says", fmt.Sprint(times(h)), "[10 10 10 10 10 10 10 10 11]")

	h = lead(t, setup(1, 1, 2, 3), kept(based(table(some)))) // of a table of time 70
	h.Ask(1, api.Request{})
	for range 60 {
		h.Tick()
		ack(h, 2, 5)
	}
	h.Ask(2, api.Request{})
	h.Tick()
	h.Ask(3, api.Request{})
	is(t, "P9.3: the table's time, till the clock's is later", fmt.Sprint(times(h)), "[70 70 71]")

	h = alone(t, setup(1, 1))
	h.Ask(1, api.Request{})
	h.Tick()
	h.Ask(2, request(1, put("k", "v")))
	_, now := h.Status()
	is(t, "P9.3: the request as it was, but for its time", tell(now),
		"[{Pairs:[{Key:k Value:v Version:1}] Sessions:[{Client:2 Last:1 Answer:{Kind:1 Value: Version:1 Keys:[]} Seen:11}] Time:11}]")
}

func TestP9_3WhatIsRefused(t *testing.T) {
	follower, _ := begin(t, setup(1, 1, 2, 3))
	leader := settled(t, setup(1, 1, 2, 3))
	for i, x := range []struct {
		what string
		h    *host.Host
		q    api.Request
		want string
	}{
		{"not a leader", follower, api.Request{}, "error 14"},
		{"no request, asked of no leader", follower, api.Request{Client: -1}, "error 5"},
		{"a command without a client", leader, api.Request{Command: put("k", "v")}, "error 5"},
		{"a client without a command", leader, api.Request{Client: 2, Number: 1}, "error 5"},
		{"no command", leader, request(1, put("", "v")), "error 5"},
		{"a number that is none", leader, api.Request{Number: -1}, "error 5"},
		{"a client that is none", leader, api.Request{Client: api.MaxNumber + 1, Command: put("k", "v")}, "error 5"},
	} {
		out := x.h.Ask(40+i, x.q)
		is(t, "P9.3: "+x.what, tell(out), tell(api.Out{Answers: []api.Answer{{Token: 40 + i, Err: errno(x.want)}}}))
	}
	if s, _ := leader.Status(); len(s.Log.Entries) != 1 {
		t.Errorf("P9.3: what is refused is in no log: %+v", s.Log)
	}
	for i := range api.MaxLog - 1 {
		if out := leader.Ask(i, api.Request{}); len(out.Answers) > 0 {
			t.Fatalf("P9.3: it waits: %+v", out.Answers)
		}
	}
	is(t, "P9.3: a log that is full", tell(leader.Ask(9, api.Request{})), tell(api.Out{Answers: []api.Answer{{Token: 9, Err: api.ErrBound}}}))
	is(t, "P9.3: no request, with a log that is full", told(leader.Ask(9, api.Request{Number: -1})), "9: error 5")
}

// errno: of what brief tells.
func errno(s string) (e api.Errno) {
	fmt.Sscanf(s, "error %d", &e)
	return e
}

func TestP9_3ItWaitsForThatEntry(t *testing.T) {
	h := settled(t, setup(1, 1, 2, 3))
	for i, token := range []int{7, -3, 7} { // a token is whatever it is called
		is(t, "P9.3: nothing at once", told(h.Ask(token, api.Request{Number: i})), "")
	}
	is(t, "P9.3: the first", told(ack(h, 2, 2)), `7: 1 "" 2 []`)
	is(t, "P9.3: it is answered once", told(ack(h, 3, 2)), "")
	is(t, "P9.3: the others, in order", told(ack(h, 3, 4)), `-3: 1 "" 3 []; 7: 1 "" 4 []`)
}

func TestP9_4WhatNobodyMayLookFor(t *testing.T) {
	follower, _ := begin(t, setup(1, 1, 2, 3))
	early := lead(t, setup(1, 1, 2, 3))
	leader := settled(t, setup(1, 1, 2, 3))
	full := strings.Repeat("k", api.MaxKey)
	for i, x := range []struct {
		what string
		h    *host.Host
		c    api.Command
		want string
	}{
		{"nothing", leader, api.Command{}, "error 5"},
		{"a Put", leader, put("k", "v"), "error 5"},
		{"a Delete", leader, api.Command{Kind: api.Delete, Key: "k"}, "error 5"},
		{"a Swap", leader, api.Command{Kind: api.Swap, Key: "k", If: 1}, "error 5"},
		{"an Append", leader, api.Command{Kind: api.Append, Key: "k"}, "error 5"},
		{"a kind above all", leader, api.Command{Kind: 7, Key: "k"}, "error 5"},
		{"a Get without a key", leader, get(""), "error 5"},
		{"a key that is too long", leader, get(full + "k"), "error 5"},
		{"a Get with a value", leader, api.Command{Kind: api.Get, Key: "k", Value: "v"}, "error 5"},
		{"a Get with a version", leader, api.Command{Kind: api.Get, Key: "k", If: 1}, "error 5"},
		{"a List of less than none", leader, api.Command{Kind: api.List, If: -1}, "error 5"},
		{"no command, of no leader", follower, put("k", "v"), "error 5"},
		{"no command, of a leader that is new", early, put("k", "v"), "error 5"},
		{"a Get, of no leader", follower, get("k"), "error 14"},
		{"a Get, of a leader that is new", early, get("k"), "error 15"},
	} {
		out := x.h.Look(60+i, x.c)
		is(t, "P9.4: "+x.what, tell(out), tell(api.Out{Answers: []api.Answer{{Token: 60 + i, Err: errno(x.want)}}}))
	}
	for _, c := range []api.Command{get("k"), get(full), {Kind: api.List}, {Kind: api.List, Key: full, If: api.MaxNumber}} {
		is(t, "P9.4: it waits", told(leader.Look(1, c)), "")
	}
}

func TestP9_4ALookIsAnsweredBehindARound(t *testing.T) {
	h := settled(t, setup(1, 1, 2, 3))
	h.Ask(1, api.Request{})
	h.Ask(2, request(1, put("ab", "v")))
	h.Ask(3, request(2, put("ac", "w")))
	ack(h, 2, 4)
	for i, c := range []api.Command{get("ac"), {Kind: api.List, Key: "a"}, get("b"), {Kind: api.List, If: 1}, get("ab")} {
		out := h.Look(i, c)
		is(t, "P9.4: a round, and nothing else", told(out)+mail(out), "entries>2 t1; entries>3 t1")
	}
	is(t, "P9.4: each its own, in order", told(ack(h, 3, 4)), `0: 1 "w" 1 []; 1: 1 "" 0 [ab ac]; 2: 2 "" 0 []; 3: 1 "" 0 [ab]; 4: 1 "v" 1 []`)
	is(t, "P9.4: once", told(ack(h, 2, 4)), "")
	s, _ := h.Status()
	if len(s.Log.Entries) != 4 {
		t.Errorf("P9.4: no entry is in the log for it: %+v", s.Log)
	}
}

func TestP9_4ALookByALease(t *testing.T) {
	s := setup(1, 1, 2, 3)
	s.Lease = true
	h := settled(t, s)
	is(t, "P9.4: at once", told(h.Look(9, get("k"))), `9: 2 "" 0 []`)
	for range 9 {
		h.Tick()
	}
	is(t, "P9.4: at once, at the lease's last tick", told(h.Look(6, get("k"))), `6: 2 "" 0 []`)
	h.Tick()
	is(t, "P9.4: the lease is out", told(h.Look(8, get("k"))), "")
	is(t, "P9.4: a round later", told(ack(h, 2, 1)), `8: 2 "" 0 []`)
	for range 11 {
		h.Tick() // rounds are sent, and not answered
	}
	out := h.Look(5, get("k"))
	is(t, "P9.4: it waits", told(out), "")
	is(t, "P9.4: an earlier round is answered", told(reply(h, 2, 1, round(t, out)-1)), "")
	is(t, "P9.4: by that a later look is answered, at once", told(h.Look(4, get("k"))), `4: 2 "" 0 []`)
	is(t, "P9.4: the earlier one waits for its own", told(ack(h, 2, 1)), `5: 2 "" 0 []`)
	one := alone(t, setup(1, 1))
	is(t, "P9.4: alone, at once", told(one.Look(7, get("k"))), `7: 2 "" 0 []`)
}

func TestP9_4Reconfigure(t *testing.T) {
	follower, _ := begin(t, setup(1, 1, 2, 3))
	early := lead(t, setup(1, 1, 2, 3))
	leader := settled(t, setup(1, 1, 2, 3))
	add := []api.Op{{Kind: api.AddVoter, Node: 4}}
	for i, x := range []struct {
		what string
		h    *host.Host
		ops  []api.Op
		want api.Errno
	}{
		{"no leader", follower, add, api.ErrLeader},
		{"a leader that is new", early, add, api.ErrEarly},
		{"no operation that is one", leader, []api.Op{{Kind: 9, Node: 1}}, api.ErrConfig},
		{"no node", leader, []api.Op{{Kind: api.AddVoter, Node: 10}}, api.ErrConfig},
		{"nobody is left", leader, []api.Op{{Kind: api.RemoveNode, Node: 1}, {Kind: api.RemoveNode, Node: 2}, {Kind: api.RemoveNode, Node: 3}}, api.ErrConfig},
		{"one that is well", leader, add, api.OK},
		{"one more meanwhile", leader, add, api.ErrJoint},
	} {
		out := x.h.Reconfigure(80+i, x.ops)
		is(t, "P9.4: "+x.what, tell(out.Answers), tell([]api.Answer{{Token: 80 + i, Err: x.want}}))
		if x.want != api.OK {
			is(t, "P9.4: and nothing else: "+x.what, mail(out)+tell(out.Acts), tell([]api.Act{}))
		}
	}
	s, _ := leader.Status()
	is(t, "P9.4: it changes", tell(s.Config), tell(api.Config{Voters: []int{1, 2, 3}, Next: []int{1, 2, 3, 4}}))
	is(t, "P9.4: nobody waits for that", told(ack(leader, 2, 2)), "")
}

func TestP9_5Status(t *testing.T) {
	h, _ := begin(t, setup(3, 1, 2, 3), kept(based(table(some), nothing(6, 2))))
	s, now := h.Status()
	is(t, "P9.5: how it stands", tell(s), tell(api.Status{ID: 3, Role: api.Follower, Hard: api.Hard{Term: 2, Commit: 6}, Applied: 6,
		Config: api.Config{Voters: []int{1, 2, 3}}, Log: api.Log{Base: 5, BaseTerm: 2, Entries: []api.Entry{nothing(6, 2)}}}))
	is(t, "P9.5: its table", tell(now), tell(some))
	leader := settled(t, setup(1, 1, 2, 3))
	if s, _ := leader.Status(); s.Role != api.Leader || s.Leader != 1 || len(s.Progress) != 3 || s.Progress[1].Match != 1 {
		t.Errorf("P9.5: a leader, and what it knows: %+v", s)
	}
}
