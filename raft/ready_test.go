package raft_test

import (
	"strings"
	"testing"

	"quorate/api"
	"quorate/raft"
)

func TestP7_14Compact(t *testing.T) {
	l := append(run(1, 1, 1), change(3, 2, voters(1, 2)))
	n := begin(t, with(start(1, 1, 2, 3), 4, append(l, run(4, 2, 2, 3)...)...))
	for _, x := range []struct {
		index int
		data  string
		want  api.Errno
	}{
		{7, "", api.ErrBeyond},
		{6, "", api.ErrBeyond},
		{5, "", api.ErrBeyond},
		{5, strings.Repeat("x", 8193), api.ErrBeyond},
		{0, "", api.ErrCompacted},
		{0, strings.Repeat("x", 8193), api.ErrCompacted},
		{4, strings.Repeat("x", 8193), api.ErrBound},
	} {
		if e := n.Compact(x.index, x.data); e != x.want {
			t.Errorf("P7.14: Compact(%d, %d bytes): %v, want %v", x.index, len(x.data), e, x.want)
		}
	}
	for _, x := range extreme {
		if e := n.Compact(x, ""); e != api.ErrCompacted && e != api.ErrBeyond {
			t.Errorf("P7.14: Compact(%d): %v", x, e)
		}
	}
	if k := n.Kept(); k.Log.Base != 0 || tell(k.Snapshot) != tell(api.Snapshot{}) {
		t.Errorf("P7.14: nothing was cut: %+v", k)
	}
	big := strings.Repeat("x", 8192)
	for _, x := range []struct {
		index int
		data  string
		want  api.Snapshot
		log   string
	}{
		{2, "two", api.Snapshot{Index: 2, Term: 1, Config: voters(1, 2, 3), Data: "two"}, "[3/2c 4/2 5/2 6/3]"},
		{4, big, api.Snapshot{Index: 4, Term: 2, Config: voters(1, 2), Data: big}, "[5/2 6/3]"},
	} {
		if e := n.Compact(x.index, x.data); e != api.OK {
			t.Errorf("P7.14: Compact(%d): %v", x.index, e)
		}
		k := n.Kept()
		if tell(k.Snapshot, k.Config) != tell(x.want, x.want.Config) || k.Log.Base != x.want.Index || k.Log.BaseTerm != x.want.Term || terms(k.Log.Entries) != x.log {
			t.Errorf("P7.14: behind Compact(%d): %+v", x.index, k)
		}
		for _, again := range []int{x.index, x.index - 1} {
			if e := n.Compact(again, ""); e != api.ErrCompacted {
				t.Errorf("P7.14: Compact(%d) then: %v", again, e)
			}
		}
	}
	if r := n.Ready(); r.Snapshot.Index != 0 || r.Kept || len(r.Entries)+len(r.Committed) > 0 {
		t.Errorf("P7.16: what is cut is not told: %+v", r)
	}
	if c := n.Look(); lists(c.Config) != "[1 2] [] []" || c.Applied != 4 || c.Hard.Commit != 4 {
		t.Errorf("P7.14: it stands as it did: %+v", c)
	}
	if s, e := raft.New(api.Start{ID: 1, Hard: n.Kept().Hard, Log: n.Kept().Log, Snapshot: n.Kept().Snapshot, Config: n.Kept().Config, Election: 9, Beat: 1}); s == nil || e != api.OK {
		t.Errorf("P7.2: with what was kept: %v", e)
	}
}

func TestP7_14NotAheadOfReady(t *testing.T) {
	n, _ := raft.New(with(start(1, 1, 2, 3), 2, run(1, 1, 1)...))
	if e := n.Compact(1, ""); e != api.ErrBeyond {
		t.Errorf("P7.14: of what was not told as committed: %v", e)
	}
	n.Ready()
	if e := n.Compact(1, ""); e != api.OK {
		t.Errorf("P7.14: then: %v", e)
	}
}

func TestP7_14NoConfiguration(t *testing.T) {
	s := with(start(1), 3, run(1, 1)[0], change(2, 1, voters(2)), run(3, 1)[0])
	s.Config = api.Config{}
	n := begin(t, s)
	for _, data := range []string{"", strings.Repeat("x", 8193)} {
		if e := n.Compact(1, data); e != api.ErrConfig {
			t.Errorf("P7.14: who waits to be taken in: %v", e)
		}
	}
	if e := n.Compact(0, ""); e != api.ErrCompacted {
		t.Errorf("P7.14: at the base: %v", e)
	}
	if e := n.Compact(2, ""); e != api.OK {
		t.Errorf("P7.14: at a Change: %v", e)
	}
	if k := n.Kept(); lists(k.Config) != "[2] [] []" || lists(k.Snapshot.Config) != "[2] [] []" {
		t.Errorf("P7.14: the configuration there: %+v", k)
	}
}

func TestP7_14ALeaderGoesOn(t *testing.T) {
	n := settled(t, start(1, 1, 2, 3))
	proposes(t, n, 2, 1)
	n.Receive(ack(n, 2, 2, 3))
	n.Ready()
	if e := n.Compact(2, "state"); e != api.OK {
		t.Errorf("P7.14: %v", e)
	}
	ticks(n, 3)
	wants(t, "P7.8", n, "entries 1>2 t1 at 2/1 c2 r5 []", `install 1>3 t1 2/1 [1 2 3] [] [] "state" r5`)
	if e := n.Read(1); e != api.OK {
		t.Errorf("P7.13: the base has a term too: %v", e)
	}
}

func TestP7_15Look(t *testing.T) {
	s := from(start(2, 1, 2), 4, 1, "state")
	s = with(s, 5, run(5, 1, 2)...)
	s.Snapshot.Config.Learners, s.Config.Learners = []int{6}, []int{6}
	n := begin(t, s)
	want := api.Status{ID: 2, Role: api.Follower, Hard: s.Hard, Applied: 5, Config: s.Config, Log: s.Log}
	if got := n.Look(); tell(got) != tell(want) {
		t.Errorf("P7.15: Look: %+v, want %+v", got, want)
	}
	k := api.Kept{Hard: s.Hard, Log: s.Log, Snapshot: s.Snapshot, Config: s.Config}
	if got := n.Kept(); tell(got) != tell(k) {
		t.Errorf("P7.15: Kept: %+v, want %+v", got, k)
	}
	n = lead(t, s)
	if got := n.Look(); len(got.Progress) != 3 || got.Role != api.Leader {
		t.Errorf("P7.15: of a leader: %+v", got)
	}
}

func TestP7_16First(t *testing.T) {
	n, _ := raft.New(with(from(start(1, 1, 2, 3), 3, 1, "state"), 5, run(4, 1, 1, 1)...))
	r := n.Ready()
	if r.Kept || r.Hard != (api.Hard{Term: 1, Commit: 5}) || len(r.Entries)+len(r.Messages)+len(r.Reads)+len(r.Refused) > 0 || r.Snapshot.Index != 0 || terms(r.Committed) != "[4/1 5/1]" {
		t.Errorf("P7.16: at first what was committed ahead is told: %+v", r)
	}
	if n.Look().Applied != 5 {
		t.Errorf("P7.16: Applied is Commit then: %+v", n.Look())
	}
}

func TestP7_16Once(t *testing.T) {
	n := lead(t, start(1, 1, 2, 3))
	n.Receive(ack(n, 2, 1, 1))
	proposes(t, n, 2, 1)
	reads(t, n, 8)
	n.Receive(ack(n, 2, 1, 4))
	r := n.Ready()
	if !r.Kept || terms(r.Entries) != "[2/1a]" || terms(r.Committed) != "[1/1]" || tell(r.Reads) != "[[{ID:8 Index:1}]]" || len(r.Messages) != 6 {
		t.Errorf("P7.16: %+v", r)
	}
	r = n.Ready()
	if r.Kept || r.Hard != (api.Hard{Term: 1, Vote: 1, Commit: 1}) || len(r.Entries)+len(r.Messages)+len(r.Committed)+len(r.Reads)+len(r.Refused) > 0 {
		t.Errorf("P7.16: it is told once: %+v", r)
	}
}

func TestP7_16KeptIfAnyChanges(t *testing.T) {
	s := with(start(1, 1, 2, 3), 0, run(1, 1)...)
	for name, x := range map[string]struct {
		m    api.Message
		want api.Hard
	}{
		"Term":   {beat(2, 1, 2), api.Hard{Term: 2}},
		"Vote":   {vote(2, 1, 1, 1, 1), api.Hard{Term: 1, Vote: 2}},
		"Commit": {entries(2, 1, 1, 1, 1, 1, 0), api.Hard{Term: 1, Commit: 1}},
	} {
		n := begin(t, s)
		n.Receive(x.m)
		if r := n.Ready(); !r.Kept || r.Hard != x.want {
			t.Errorf("P7.16: %s changed: %+v", name, r)
		}
		if r := n.Ready(); r.Kept || r.Hard != x.want {
			t.Errorf("P7.16: then nothing: %+v", r)
		}
	}
}

func TestP7_16FromTheLeastIndexOn(t *testing.T) {
	n := begin(t, with(start(1, 1, 2, 3), 0, run(1, 1, 1, 1)...))
	n.Receive(entries(2, 1, 1, 3, 1, 0, 0, run(4, 1, 1)...))
	n.Receive(entries(2, 1, 1, 5, 1, 0, 0, run(6, 1)...))
	n.Receive(entries(2, 1, 1, 4, 1, 0, 0, run(5, 1)...))
	if r := n.Ready(); terms(r.Entries) != "[4/1 5/1 6/1]" {
		t.Errorf("P7.16: %s", terms(r.Entries))
	}
	n.Receive(entries(2, 1, 1, 6, 1, 0, 0, run(7, 1, 1, 1)...))
	n.Receive(entries(3, 1, 2, 1, 1, 0, 0, run(2, 2, 2)...))
	n.Receive(entries(3, 1, 2, 3, 2, 3, 0, run(4, 2)...))
	if r := n.Ready(); terms(r.Entries) != "[2/2 3/2 4/2]" || terms(r.Committed) != "[1/1 2/2 3/2]" {
		t.Errorf("P7.16: put anew: %s, committed %s", terms(r.Entries), terms(r.Committed))
	}
	n.Receive(beat(3, 1, 2))
	if r := n.Ready(); len(r.Entries) > 0 {
		t.Errorf("P7.16: %+v", r)
	}
}
