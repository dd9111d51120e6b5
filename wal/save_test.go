package wal_test

import (
	"encoding/hex"
	"strings"
	"testing"

	"quorate/api"
	"quorate/wal"
)

// The acts, and what records are, byte by byte.
func TestP8_1ActsByTheirNumbers(t *testing.T) {
	l := []int{api.WriteFile, api.AppendFile, api.SyncFile, api.Rename, api.SyncDir, api.Cut, api.RemoveFile}
	for i, what := range l {
		if what != i+1 {
			t.Errorf("P8.1: the act %d has the number %d", i+1, what)
		}
	}
	acts(t, "P8.1: Save", wal.Save(api.Ready{Entries: run(1, 1)}), appended(puts(run(1, 1)...)))
	acts(t, "P8.1: Cut", wal.Cut(based(api.Hard{Term: 1, Commit: 2}, state(2, 1))), anew(snap(state(2, 1))+hard(1, 0, 2)))
	files := []api.File{{Name: "new", Data: "x"}, {Name: "log", Data: hard(2, 1, 5) + "x"}}
	says(t, "P8.1", files, first, plain(api.Hard{Term: 2, Vote: 1}), append(append(removed[:1:1], shortened(9)...), appended(hard(2, 1, 0))...))
}

func TestP8_2BytesOfRecords(t *testing.T) {
	one := api.Config{Voters: []int{1}}
	for _, x := range []struct {
		ready  api.Ready
		digits string // without the sums
	}{
		{api.Ready{Kept: true, Hard: api.Hard{Term: 3, Vote: 2}}, "04 01 03 02 00 ...."},
		{api.Ready{Kept: true, Hard: api.Hard{Term: 300, Vote: 9, Commit: api.MaxNumber}}, "0A 01 AC02 09 FFFFFFFFFF1F ...."},
		{api.Ready{Entries: []api.Entry{{Index: 300, Term: 2, Kind: api.Ask, Data: "ab"}}}, "08 02 AC02 02 01 02 6162 ...."},
		{api.Ready{Kept: true, Entries: run(1, 1)}, "04 01 00 00 00 .... 05 02 01 01 00 00 ...."},
		{api.Ready{Hard: api.Hard{Term: 2}, Snapshot: api.Snapshot{Index: 5, Term: 2, Config: one, Data: "d"}}, "09 03 05 02 01 01 00 00 01 64 .... 04 01 02 00 00 ...."},
	} {
		a := wal.Save(x.ready)
		if len(a) == 0 {
			t.Errorf("P8.2: Save(%+v): no acts", x.ready)
			continue
		}
		got, want := strings.ToUpper(hex.EncodeToString([]byte(a[0].Data))), ""
		for _, w := range strings.Fields(x.digits) {
			if w == "...." {
				w = got[min(len(want), len(got)):min(len(want)+8, len(got))]
			}
			want += w
		}
		if got != want {
			t.Errorf("P8.2: Save(%+v): %s; want %s", x.ready, got, x.digits)
		}
	}
}

func TestP8_2Save(t *testing.T) {
	h := api.Hard{Term: 4, Vote: 2, Commit: 3}
	ask := api.Entry{Index: 5, Term: 4, Kind: api.Ask, Data: "data"}
	long := api.Entry{Index: 9, Term: 4, Kind: api.Change, Data: strings.Repeat("x", api.MaxData)}
	for _, x := range []struct {
		ready api.Ready
		bytes string
	}{
		{api.Ready{Kept: true, Hard: h}, hard(4, 2, 3)},
		{api.Ready{Kept: true}, hard(0, 0, 0)},
		{api.Ready{Kept: true, Hard: api.Hard{Term: api.MaxNumber, Vote: 9, Commit: api.MaxNumber}}, hard(api.MaxNumber, 9, api.MaxNumber)},
		{api.Ready{Hard: h, Entries: run(1, 4)}, puts(run(1, 4)...)},
		{api.Ready{Kept: true, Hard: h, Entries: run(1, 2, 3, 4)}, hard(4, 2, 3) + puts(run(1, 2, 3, 4)...)},
		{api.Ready{Entries: []api.Entry{ask, long}}, puts(ask, long)},
		{api.Ready{Entries: run(api.MaxNumber, api.MaxNumber)}, puts(run(api.MaxNumber, api.MaxNumber)...)},
		// An index of 0 is no snapshot, whatever else stands there.
		{api.Ready{Kept: true, Hard: h, Snapshot: api.Snapshot{Term: 4, Config: other, Data: "state"}}, hard(4, 2, 3)},
		{api.Ready{Kept: true, Hard: h, Snapshot: api.Snapshot{Index: -1, Term: 4, Config: other}}, hard(4, 2, 3)},
		// What is sent, committed and read is not kept.
		{api.Ready{Kept: true, Hard: h, Committed: run(1, 1), Messages: []api.Message{{Kind: api.Vote, Entries: run(1, 1)}}, Reads: []api.Read{{ID: 1}}, Refused: []int{2}}, hard(4, 2, 3)},
	} {
		acts(t, "P8.2: Save("+tell(x.ready)+")", wal.Save(x.ready), appended(x.bytes))
	}
}

func TestP8_2NothingToKeep(t *testing.T) {
	for _, r := range []api.Ready{
		{},
		{Hard: api.Hard{Term: 3, Vote: 1, Commit: 2}},
		{Entries: []api.Entry{}},
		{Committed: run(1, 1), Messages: []api.Message{{Kind: api.Vote}}, Reads: []api.Read{{ID: 1}}, Refused: []int{2}},
		{Snapshot: api.Snapshot{Term: 4, Config: other, Data: "state"}},
	} {
		acts(t, "P8.2: Save("+tell(r)+")", wal.Save(r), nil)
	}
}

// With a snapshot the hard state is written, whether or not it is another: all that was there goes.
func TestP8_2SaveOfASnapshot(t *testing.T) {
	h, x := api.Hard{Term: 4, Vote: 2, Commit: 7}, state(7, 3)
	for _, r := range []api.Ready{
		{Hard: h, Snapshot: x},
		{Hard: h, Snapshot: x, Kept: true},
		{Hard: h, Snapshot: x, Kept: true, Entries: run(8, 4, 4)},
		{Snapshot: state(1, 1)},
		{Snapshot: state(api.MaxNumber, api.MaxNumber)},
	} {
		h, x := r.Hard, r.Snapshot
		want := anew(snap(x) + hard(h.Term, h.Vote, h.Commit) + puts(r.Entries...))
		acts(t, "P8.2: Save("+tell(r)+")", wal.Save(r), want)
		acts(t, "P8.2: Cut of the same", wal.Cut(based(h, x, r.Entries...)), want)
	}
}

func TestP8_3Cut(t *testing.T) {
	h := api.Hard{Term: 4, Vote: 2, Commit: 8}
	great := state(5, 3)
	great.Data = strings.Repeat("s", api.MaxState)
	for _, k := range []api.Kept{
		based(h, state(7, 3)),
		based(h, state(7, 3), run(8, 3, 4)...),
		based(api.Hard{}, state(1, 1)),
		based(h, great, run(6, 3, 3, 3, 4)...),
		{Hard: h, Snapshot: state(7, 3)}, // the base and the configuration are the snapshot's
		{Hard: h, Snapshot: state(7, 3), Config: first, Log: api.Log{Base: 2, BaseTerm: 1}},
	} {
		want := snap(k.Snapshot) + hard(k.Hard.Term, k.Hard.Vote, k.Hard.Commit) + puts(k.Log.Entries...)
		acts(t, "P8.3: Cut("+tell(k)+")", wal.Cut(k), anew(want))
	}
}

// Where there is no snapshot none is written.
func TestP8_3CutWithoutASnapshot(t *testing.T) {
	acts(t, "P8.3: Cut of nothing", wal.Cut(api.Kept{}), anew(hard(0, 0, 0)))
	k := plain(api.Hard{Term: 2, Vote: 1, Commit: 1}, run(1, 1, 2)...)
	acts(t, "P8.3: Cut of a log alone", wal.Cut(k), anew(hard(2, 1, 1)+puts(run(1, 1, 2)...)))
}

// What may not be has no record: none is written that Open would refuse for its form.
func TestP8_2WhatMayNotBeIsNotWritten(t *testing.T) {
	entries := []api.Entry{{}, {Index: 1}, {Term: 1}, {Index: 1, Term: 1, Kind: 3}, {Index: 1, Term: 1, Data: "x"}, {Index: 1, Term: 1, Kind: api.Ask, Data: strings.Repeat("x", api.MaxData+1)}}
	snapshots := []api.Snapshot{{Index: 1, Config: other}, {Index: 1, Term: 1}, {Index: 1, Term: 1, Config: api.Config{Voters: []int{2, 1}}}, {Index: 1, Term: 1, Config: other, Data: strings.Repeat("x", api.MaxState+1)}}
	for _, n := range extreme {
		entries = append(entries, api.Entry{Index: n, Term: 1}, api.Entry{Index: 1, Term: n}, api.Entry{Index: 1, Term: 1, Kind: n})
		snapshots = append(snapshots, api.Snapshot{Index: 1, Term: n, Config: other}, api.Snapshot{Index: 1, Term: 1, Config: api.Config{Voters: []int{n}}})
		for _, h := range []api.Hard{{Term: n}, {Vote: n}, {Commit: n}} {
			acts(t, "P8.2: Save of "+tell(h), wal.Save(api.Ready{Kept: true, Hard: h}), nil)
			acts(t, "P8.2: Save of "+tell(h), wal.Save(api.Ready{Kept: true, Hard: h, Entries: run(1, 1)}), appended(puts(run(1, 1)...)))
			acts(t, "P8.3: Cut of "+tell(h), wal.Cut(based(h, state(2, 1), run(3, 1)...)), anew(snap(state(2, 1))+puts(run(3, 1)...)))
		}
	}
	for _, e := range entries {
		acts(t, "P8.2: Save of "+tell(e), wal.Save(api.Ready{Entries: []api.Entry{e}}), nil)
		acts(t, "P8.2: Save of "+tell(e), wal.Save(api.Ready{Kept: true, Entries: []api.Entry{run(1, 1)[0], e}}), appended(hard(0, 0, 0)+puts(run(1, 1)...)))
	}
	for _, x := range append(snapshots, state(api.MaxNumber+1, 1)) {
		acts(t, "P8.2: Save of "+tell(x), wal.Save(api.Ready{Snapshot: x}), anew(hard(0, 0, 0)))
	}
}
