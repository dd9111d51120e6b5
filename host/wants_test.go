package host_test

import (
	"testing"

	"quorate/api"
	"quorate/host"
	"quorate/raft"
	"quorate/wal"
	"quorate/wire"
)

// round: the number of the last round that was sent.
func round(t *testing.T, out api.Out) int {
	t.Helper()
	if len(out.Sends) == 0 {
		t.Fatal("P9.6: no round was sent")
	}
	body, _, _ := wire.Unframe(out.Sends[len(out.Sends)-1].Frame)
	m, _ := wire.GetMessage(body)
	return m.Context
}

// reply: a node tells a leader of term 1 that it has all up to an index, and answers a round.
func reply(h *host.Host, from, index, round int) api.Out {
	return h.Receive(frame(api.Message{Kind: api.AppendReply, From: from, To: 1, Term: 1, Index: index, Context: round}))
}

// install: a snapshot from node 2, in term 2.
func install(to, index, term int, data string) string {
	x := api.Snapshot{Index: index, Term: term, Config: api.Config{Voters: []int{1, 2, 3}}, Data: data}
	return frame(api.Message{Kind: api.Install, From: 2, To: to, Term: 2, Context: 1, Snapshot: x})
}

func TestP9_6WhatIsKeptAndSent(t *testing.T) {
	h, _ := begin(t, setup(1, 1, 2, 3))
	for range 9 {
		h.Tick()
	}
	out := h.Tick()
	is(t, "P9.6: nothing is new in what is kept", tell(out.Acts)+mail(out), tell([]api.Act{})+"prevote>2 t1; prevote>3 t1")
	out = h.Receive(frame(api.Message{Kind: api.PreVoteReply, From: 2, To: 1, Term: 1}))
	is(t, "P9.6: its vote", tell(out.Acts)+mail(out), tell(wal.Save(api.Ready{Kept: true, Hard: api.Hard{Term: 1, Vote: 1}}))+"vote>2 t1; vote>3 t1")
	out = h.Receive(frame(api.Message{Kind: api.VoteReply, From: 2, To: 1, Term: 1}))
	is(t, "P9.6: an entry", tell(out.Acts)+mail(out), tell(wal.Save(api.Ready{Entries: []api.Entry{nothing(1, 1)}}))+"entries>2 t1; entries>3 t1")
	want := []api.Send{
		{To: 2, Frame: frame(api.Message{Kind: api.AppendEntries, From: 1, To: 2, Term: 1, Context: 1, Entries: []api.Entry{nothing(1, 1)}})},
		{To: 3, Frame: frame(api.Message{Kind: api.AppendEntries, From: 1, To: 3, Term: 1, Context: 1, Entries: []api.Entry{nothing(1, 1)}})},
	}
	is(t, "P9.6: to whom what is sent", tell(out.Sends), tell(want))
	out = reply(h, 3, 1, 1)
	is(t, "P9.6: what is committed", tell(out.Acts)+mail(out), tell(wal.Save(api.Ready{Kept: true, Hard: api.Hard{Term: 1, Vote: 1, Commit: 1}}))+"entries>2 t1; entries>3 t1")
	is(t, "P9.6: it is told once", tell(h.Tick()), tell(api.Out{}))
}

func TestP9_6AnInstalledSnapshot(t *testing.T) {
	h := settled(t, setup(1, 1, 2, 3))
	for i := range 4 {
		h.Ask(20+i, api.Request{}) // they wait for 2 to 5
	}
	h.Look(30, get("a"))
	out := h.Receive(install(1, 4, 2, table(some)))
	is(t, "P9.6: up to its index nobody knows; the look is refused behind them", told(out), "20: error 14; 21: error 14; 22: error 14; 30: error 14")
	x := api.Snapshot{Index: 4, Term: 2, Config: api.Config{Voters: []int{1, 2, 3}}, Data: table(some)}
	is(t, "P9.6: it is kept", tell(out.Acts), tell(wal.Save(api.Ready{Kept: true, Hard: api.Hard{Term: 2, Commit: 4}, Snapshot: x})))
	is(t, "P9.6: it is answered", mail(out), "reply>2 t2")
	s, now := h.Status()
	is(t, "P9.6: its data is the table", tell(now, s.Applied), tell(some, 4))
	out = h.Receive(entries(2, 1, 2, 4, 2, 5, nothing(5, 2)))
	is(t, "P9.6: behind its index one waits on", told(out), "23: error 14")
}

func TestP9_6ASnapshotOfWhatThereIs(t *testing.T) {
	h := settled(t, setup(1, 1, 2, 3))
	h.Ask(20, api.Request{})
	out := h.Receive(install(1, 2, 1, table(some)))
	is(t, "P9.6: the log has it: that is committed", told(out), `20: 1 "" 2 []`)
	is(t, "P9.6: no table was installed", pairs(h), "[]")
}

func TestP9_6ASnapshotOfNoTable(t *testing.T) {
	h, _ := begin(t, setup(1, 1, 2, 3), kept(based(table(some))))
	h.Receive(install(1, 9, 2, "state"))
	s, now := h.Status()
	is(t, "P9.6: there is no table then", tell(now, s.Applied), tell(api.Table{}, 9))
}

func TestP9_6WhatIsCommitted(t *testing.T) {
	other, _ := wire.PutConfig(api.Config{Voters: []int{1, 2}})
	for _, x := range []struct {
		what         string
		index        int // of what a leader in term 2 sends, behind node 1's entries 1 to 3
		l            []api.Entry
		commit       int
		answers, now string
	}{
		{"nothing is", 3, nil, 1, "", "[]"},
		{"as it was asked", 3, nil, 3, `20: 1 "" 2 []; 21: 1 "" 3 []`, "[2 3]"},
		{"one of them", 3, nil, 2, `20: 1 "" 2 []`, "[2]"},
		{"another entry", 1, []api.Entry{asks(2, 2, api.Request{Time: 8})}, 2, "20: error 14", "[2]"},
		{"one that says nothing", 1, []api.Entry{nothing(2, 2)}, 2, "20: error 14", "[]"},
		{"a change", 1, []api.Entry{{Index: 2, Term: 2, Kind: api.Change, Data: other}}, 2, "20: error 14", "[]"},
		{"the second is another", 2, []api.Entry{nothing(3, 2)}, 3, `20: 1 "" 2 []; 21: error 14`, "[2]"},
		{"another, not committed yet", 2, []api.Entry{nothing(3, 2)}, 2, `20: 1 "" 2 []`, "[2]"},
		{"what is no request", 1, []api.Entry{entry(2, 2, "no request")}, 2, "20: error 14", "[2]"},
		{"what has no bytes", 1, []api.Entry{entry(2, 2, "")}, 2, "20: error 14", "[2]"},
		{"several", 1, []api.Entry{entry(2, 2, "\x00"), nothing(3, 2), asks(4, 2, api.Request{})}, 4, "20: error 14; 21: error 14", "[2 4]"},
	} {
		h := settled(t, setup(1, 1, 2, 3))
		h.Ask(20, api.Request{})
		h.Ask(21, api.Request{})
		out := h.Receive(entries(2, 1, 2, x.index, 1, x.commit, x.l...))
		_, now := h.Status()
		clients := []int{}
		for _, s := range now.Sessions {
			clients = append(clients, s.Client)
		}
		is(t, "P9.6: "+x.what, told(out)+tell(clients), x.answers+"["+x.now+"]")
	}
}

func TestP9_6WhatIsNoRequestIsOneOfNobody(t *testing.T) {
	h, _ := begin(t, setup(1, 1, 2, 3))
	h.Receive(entries(2, 1, 2, 0, 0, 2, asks(1, 2, api.Request{Time: 30}), entry(2, 2, "no request")))
	_, now := h.Status()
	is(t, "P9.6: it opens a session, at no time of its own", tell(now), "[{Pairs:[] Sessions:["+
		"{Client:1 Last:0 Answer:{Kind:0 Value: Version:0 Keys:[]} Seen:30} {Client:2 Last:0 Answer:{Kind:0 Value: Version:0 Keys:[]} Seen:30}] Time:30}]")
}

// again: a host that led in term 1, and was asked for the entries 2, 3, 4 (20, 21, 22), leads in term 3, with another entry 2.
func again(t *testing.T) *host.Host {
	t.Helper()
	h := settled(t, setup(1, 1, 2, 3))
	for i := range 3 {
		h.Ask(20+i, api.Request{})
	}
	is(t, "P9.6: nothing is committed yet", told(h.Receive(entries(2, 1, 2, 1, 1, 1, nothing(2, 2)))), "")
	for range raft.Timeout(1, 10) {
		h.Tick()
	}
	for _, kind := range []int{api.PreVoteReply, api.VoteReply} {
		h.Receive(frame(api.Message{Kind: kind, From: 2, To: 1, Term: 3}))
	}
	if s, _ := h.Status(); s.Role != api.Leader || len(s.Log.Entries) != 3 {
		t.Fatalf("P9.2: it leads again: %+v", s)
	}
	return h
}

func TestP9_6TwoWaitForOneIndex(t *testing.T) {
	h := again(t)
	is(t, "P9.3: it waits for 4", told(h.Ask(5, api.Request{})), "")
	is(t, "P9.6: the entry is that of the later one", told(ack(h, 2, 4)), `20: error 14; 21: error 14; 22: error 14; 5: 1 "" 4 []`)
}

func TestP9_6AnEntryOfAnEarlierTerm(t *testing.T) {
	h := again(t)
	h.Ask(5, api.Request{})
	out := h.Receive(entries(2, 1, 4, 1, 1, 4, nothing(2, 1), nothing(3, 2), asks(4, 2, api.Request{})))
	is(t, "P9.6: it has another term", told(out), "20: 0 \"\" 0 []; 21: error 14; 22: error 14; 5: error 14")
}

func TestP9_6ALookSeesAllThatIsCommittedThen(t *testing.T) {
	h := settled(t, setup(1, 1, 2, 3))
	h.Ask(1, api.Request{})
	ack(h, 2, 2)
	h.Ask(3, request(1, put("k", "v")))
	out := h.Look(4, get("k"))
	is(t, "P9.6: first what is committed, then what is seen", told(reply(h, 3, 3, round(t, out))), `3: 1 "" 1 []; 4: 1 "v" 1 []`)
}

func TestP9_6LooksAreRefused(t *testing.T) {
	h := settled(t, setup(1, 1, 2, 3))
	h.Ask(1, api.Request{})
	h.Look(2, get("k"))
	h.Look(3, get("k"))
	out := h.Receive(entries(2, 1, 2, 2, 1, 2))
	is(t, "P9.6: what is committed, then what is refused", told(out), `1: 1 "" 2 []; 2: error 14; 3: error 14`)
	is(t, "P9.6: once", told(h.Receive(entries(2, 1, 2, 2, 1, 2))), "")
}

func TestP9_6SomeAreSeenSomeRefused(t *testing.T) {
	h := settled(t, setup(1, 1, 2, 3))
	h.Ask(1, api.Request{})
	ack(h, 2, 2)
	ack(h, 3, 2)
	h.Reconfigure(2, []api.Op{{Kind: api.RemoveNode, Node: 1}}) // the entry 3; 4 ends it
	ack(h, 2, 3)
	ack(h, 3, 3)
	early := round(t, h.Look(8, get("k")))
	late := round(t, h.Look(9, get("k")))
	if early >= late {
		t.Fatalf("P7.13: each look has a round: %d, %d", early, late)
	}
	is(t, "P9.6: nothing is committed by that", told(reply(h, 3, 4, early)), "")
	is(t, "P9.6: it is out, and leads no more", told(reply(h, 2, 4, early)), `8: 2 "" 0 []; 9: error 14`)
	if s, _ := h.Status(); s.Role != api.Follower {
		t.Errorf("P7.9: %+v", s)
	}
}

// cut: the acts that cut a host's log short, to what it has now.
func cut(h *host.Host, term int) []api.Act {
	s, now := h.Status()
	x := api.Snapshot{Index: s.Log.Base, Term: term, Config: s.Config, Data: table(now)}
	return wal.Cut(api.Kept{Hard: s.Hard, Log: s.Log, Snapshot: x, Config: s.Config})
}

func TestP9_6TheLogIsCutShort(t *testing.T) {
	h := alone(t, keeping(setup(1, 1), 3))
	q := request(1, put("k", "v"))
	q.Time = 10
	out := h.Ask(1, api.Request{})
	if s, _ := h.Status(); s.Log.Base != 0 || len(s.Log.Entries) != 2 || len(out.Acts) != 2 {
		t.Errorf("P9.6: one less than Keep: %+v, %+v", s, out)
	}
	out = h.Ask(2, request(1, put("k", "v")))
	s, now := h.Status()
	if s.Log.Base != 3 || len(s.Log.Entries) != 0 {
		t.Errorf("P9.6: as many as Keep: %+v", s)
	}
	save := wal.Save(api.Ready{Kept: true, Hard: api.Hard{Term: 1, Vote: 1, Commit: 3}, Entries: []api.Entry{asks(3, 1, q)}})
	is(t, "P9.6: Save first, then Cut", tell(out), tell(api.Out{Acts: append(save, cut(h, 1)...), Answers: []api.Answer{{Token: 2, Result: api.Result{Kind: 1, Version: 1}}}}))
	is(t, "P9.6: the table is as it was", tell(now.Pairs), "[[{Key:k Value:v Version:1}]]")
	again, _ := begin(t, keeping(setup(1, 1), 3), log(out.Acts[2].Data))
	_, found := again.Status()
	is(t, "P9.6: and stands in the files", tell(found), tell(now))
	h.Ask(3, api.Request{})
	h.Ask(4, api.Request{})
	if s, _ := h.Status(); s.Log.Base != 3 || len(s.Log.Entries) != 2 {
		t.Errorf("P9.6: it is counted from the base on: %+v", s)
	}
	h.Ask(5, api.Request{})
	if s, _ := h.Status(); s.Log.Base != 6 {
		t.Errorf("P9.6: and again: %+v", s)
	}
}

func TestP9_6WhatIsNotCommittedStays(t *testing.T) {
	h := settled(t, keeping(setup(1, 1, 2, 3), 3))
	for i := range 5 {
		h.Ask(i, api.Request{}) // 2 to 6
	}
	out := reply(h, 2, 4, 1)
	s, _ := h.Status()
	if s.Log.Base != 4 || len(s.Log.Entries) != 2 {
		t.Errorf("P9.6: all that is applied is cut off: %+v", s)
	}
	save := wal.Save(api.Ready{Kept: true, Hard: api.Hard{Term: 1, Vote: 1, Commit: 4}})
	is(t, "P9.6: Save, and Cut of all that is kept", tell(out.Acts), tell(append(save, cut(h, 1)...)))
	is(t, "P9.6: what is sent then", mail(out), "entries>2 t1; entries>3 t1")
	is(t, "P9.6: who waits, waits on", told(ack(h, 3, 6)), `3: 1 "" 5 []; 4: 1 "" 6 []`)
}

func TestP9_6WhoWaitsToBeTakenInKeepsAll(t *testing.T) {
	taken, _ := wire.PutConfig(api.Config{Voters: []int{1, 2, 3}, Learners: []int{4}})
	h, _ := begin(t, keeping(setup(4), 2))
	out := h.Receive(entries(2, 4, 1, 0, 0, 3, nothing(1, 1), asks(2, 1, api.Request{}), nothing(3, 1)))
	s, _ := h.Status()
	if s.Log.Base != 0 || s.Applied != 3 || len(out.Acts) != 2 {
		t.Errorf("P9.6: no configuration is there: %+v, %+v", s, out)
	}
	out = h.Receive(entries(2, 4, 1, 3, 1, 4, api.Entry{Index: 4, Term: 1, Kind: api.Change, Data: taken}))
	s, now := h.Status()
	if s.Log.Base != 4 || len(out.Acts) != 6 || len(now.Sessions) != 1 {
		t.Errorf("P9.6: it was taken in: %+v, %+v, %+v", s, out, now)
	}
}
