package host_test

import (
	"testing"

	"quorate/api"
	"quorate/host"
	"quorate/wal"
)

// some: a table with a pair, of a time.
var some = api.Table{Pairs: []api.Pair{{Key: "a", Value: "x", Version: 3}}, Time: 70}

// based: what is kept with a snapshot of index 5, with that data, and entries behind it, all committed.
func based(data string, l ...api.Entry) api.Kept {
	x := api.Snapshot{Index: 5, Term: 2, Config: api.Config{Voters: []int{1, 2, 3}}, Data: data}
	return api.Kept{Hard: api.Hard{Term: 2, Commit: 5 + len(l)}, Log: api.Log{Base: 5, BaseTerm: 2, Entries: l}, Snapshot: x, Config: x.Config}
}

// first: what is kept with a snapshot of the first entry alone.
func first(data string) api.Kept {
	k := based(data)
	k.Hard.Commit, k.Log.Base, k.Snapshot.Index = 1, 1, 1
	return k
}

func TestP9_1WhoCanNotBegin(t *testing.T) {
	good := setup(1, 1, 2, 3)
	id := func(s api.Setup, id int) api.Setup { s.ID = id; return s }
	ticks := func(s api.Setup, election, beat int) api.Setup { s.Election, s.Beat = election, beat; return s }
	for _, x := range []struct {
		what  string
		s     api.Setup
		files []api.File
		want  api.Errno
	}{
		{"all is well", good, nil, api.OK},
		{"one entry is kept", keeping(good, 1), nil, api.OK},
		{"half of a log is kept", keeping(good, 128), nil, api.OK},
		{"no entry is kept", keeping(good, 0), nil, api.ErrStart},
		{"less than none", keeping(good, -1), nil, api.ErrStart},
		{"more than half of a log", keeping(good, 129), nil, api.ErrStart},
		{"Keep ahead of files", keeping(good, 0), []api.File{{Name: "x"}}, api.ErrStart},
		{"a file of another name", good, []api.File{{Name: "x"}}, api.ErrFiles},
		{"a file that is there twice", good, []api.File{log(""), log("")}, api.ErrFiles},
		{"a record that is none", good, []api.File{log(framed("\x09"))}, api.ErrFiles},
		{"files ahead of the node", id(good, 0), []api.File{{Name: "x"}}, api.ErrFiles},
		{"no configuration", setup(1, 2, 1), nil, api.ErrFiles},
		{"an empty configuration", setup(1), nil, api.OK},
		{"no node", id(good, 0), nil, api.ErrStart},
		{"a node above all", id(good, api.MaxNode+1), nil, api.ErrStart},
		{"an election of one tick", ticks(good, 1, 1), nil, api.ErrStart},
		{"a round behind an election", ticks(good, 10, 10), nil, api.ErrStart},
		{"a snapshot's table", good, []api.File{kept(based(table(some)))}, api.OK},
		{"a snapshot of the first entry, of no table", good, []api.File{kept(first("state"))}, api.ErrFiles},
		{"a snapshot of no table", good, []api.File{kept(based("state"))}, api.ErrFiles},
		{"a snapshot without bytes", good, []api.File{kept(based(""))}, api.ErrFiles},
		{"a snapshot with bytes behind a table", good, []api.File{kept(based(table(some) + "\x00"))}, api.ErrFiles},
		{"the node ahead of the table", id(good, 10), []api.File{kept(based("state"))}, api.ErrStart},
		{"Keep ahead of all", keeping(id(good, 10), 129), []api.File{kept(based("state"))}, api.ErrStart},
	} {
		h, out, e := host.New(x.s, x.files)
		if e != x.want || (h == nil) != (e != api.OK) || e != api.OK && tell(out) != tell(api.Out{}) {
			t.Errorf("P9.1: %s: %v, %+v, %v; want %v", x.what, h != nil, out, e, x.want)
		}
	}
}

func TestP9_1ItsTable(t *testing.T) {
	long := func(key string, at int) api.Request {
		return api.Request{Client: 6, Number: at, Command: put(key, "v"), Time: 80}
	}
	for _, x := range []struct {
		what    string
		file    api.File
		applied int
		want    string
	}{
		{"of no files it is empty", log(""), 0, "{Pairs:[] Sessions:[] Time:0}"},
		{"of a log, committed in part", plain(2, nothing(1, 1), asks(2, 1, api.Request{}), asks(3, 1, api.Request{})), 2,
			"{Pairs:[] Sessions:[{Client:2 Last:0 Answer:{Kind:0 Value: Version:0 Keys:[]} Seen:0}] Time:0}"},
		{"of a snapshot of the first entry", kept(first(table(some))), 1, "{Pairs:[{Key:a Value:x Version:3}] Sessions:[] Time:70}"},
		{"of a snapshot", kept(based(table(some))), 5, "{Pairs:[{Key:a Value:x Version:3}] Sessions:[] Time:70}"},
		{"of a snapshot, and what is committed behind it", kept(based(table(some), asks(6, 2, api.Request{Time: 75}), asks(7, 2, long("a", 1)), asks(8, 2, long("b", 2)))), 8,
			"{Pairs:[{Key:a Value:v Version:4} {Key:b Value:v Version:1}] Sessions:[{Client:6 Last:2 Answer:{Kind:1 Value: Version:1 Keys:[]} Seen:80}] Time:80}"},
	} {
		h, out := begin(t, setup(1, 1, 2, 3), x.file)
		s, now := h.Status()
		is(t, "P9.1: "+x.what, tell(now, s.Applied), tell(x.want, x.applied))
		is(t, "P9.1: what it wants done: "+x.what, tell(out), tell(api.Out{}))
	}
}

func TestP9_1ItsClock(t *testing.T) {
	h := alone(t, setup(1, 1))
	h.Ask(1, api.Request{})
	if _, now := h.Status(); now.Time != 10 {
		t.Errorf("P9.1: the clock was 0 ten ticks ago: %+v", now)
	}
	h, _ = begin(t, setup(1, 1), plain(2, nothing(1, 1), asks(2, 1, api.Request{Time: 9})))
	for range 10 {
		h.Tick()
	}
	h.Ask(1, api.Request{})
	if _, now := h.Status(); now.Time != 10 {
		t.Errorf("P9.1: the clock is no table's time: %+v", now)
	}
}

func TestP9_1WhatItWantsDoneFirst(t *testing.T) {
	l := []api.Entry{nothing(1, 1), asks(2, 1, api.Request{}), asks(3, 1, api.Request{})}
	whole := plain(3, l...)
	torn := log(whole.Data[:len(whole.Data)-1])
	_, acts, _ := wal.Open([]api.File{torn}, api.Config{Voters: []int{1}})
	if len(acts) != 4 {
		t.Fatalf("P8.5: the log is cut, and commit put right: %+v", acts)
	}
	h, out := begin(t, setup(1, 1), torn)
	is(t, "P9.1: Open's acts", tell(out), tell(api.Out{Acts: acts}))
	if s, _ := h.Status(); s.Applied != 2 {
		t.Errorf("P9.1: %+v", s)
	}
	h, out = begin(t, keeping(setup(1, 1), 2), torn)
	s, now := h.Status()
	if s.Log.Base != 2 || len(s.Log.Entries) != 0 {
		t.Errorf("P9.1, P9.6: what is applied is cut off at once: %+v", s)
	}
	x := api.Snapshot{Index: 2, Term: 1, Config: api.Config{Voters: []int{1}}, Data: table(now)}
	cut := wal.Cut(api.Kept{Hard: s.Hard, Log: s.Log, Snapshot: x, Config: x.Config})
	is(t, "P9.1: Open's acts, and those of Cut", tell(out), tell(api.Out{Acts: append(acts, cut...)}))
	_, out = begin(t, keeping(setup(1, 1), 3), torn)
	is(t, "P9.1: Open's acts alone", tell(out), tell(api.Out{Acts: acts}))
}
