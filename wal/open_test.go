package wal_test

import (
	"slices"
	"strings"
	"testing"

	"quorate/api"
	"quorate/wal"
)

func TestP8_4NoFiles(t *testing.T) {
	nothing := plain(api.Hard{})
	says(t, "P8.4", nil, first, nothing, nil)
	says(t, "P8.4", []api.File{}, first, nothing, nil)
	says(t, "P8.4", log(""), first, nothing, nil)
	says(t, "P8.5", []api.File{{Name: "new", Data: hard(3, 1, 0)}}, first, nothing, removed)
	says(t, "P8.5", []api.File{{Name: "new"}}, first, nothing, removed)
}

func TestP8_4Names(t *testing.T) {
	whole := hard(1, 0, 0)
	says(t, "P8.4", []api.File{{Name: "log", Data: whole}, {Name: "new"}}, first, plain(api.Hard{Term: 1}), removed)
	says(t, "P8.4", []api.File{{Name: "new"}, {Name: "log", Data: whole}}, first, plain(api.Hard{Term: 1}), removed)
	for _, names := range []string{"log log", "new new", "log new log", "new log new", "x", "log x", "x log", "log new x", "Log", "logs", "lo", "new1"} {
		var files []api.File
		for _, name := range strings.Fields(names) {
			files = append(files, api.File{Name: name, Data: whole})
		}
		refuses(t, "P8.4", files, first)
	}
	refuses(t, "P8.4", []api.File{{}}, first)
	refuses(t, "P8.4", []api.File{{Name: "log"}, {Name: ""}}, first)
	refuses(t, "P8.4", []api.File{{Name: "log\x00"}}, first)
}

func TestP8_4HardStates(t *testing.T) {
	for _, x := range []struct {
		log  string
		want api.Hard
	}{
		{hard(0, 0, 0), api.Hard{}},
		{hard(1, 9, 0), api.Hard{Term: 1, Vote: 9}},
		{hard(1, 1, 0) + hard(1, 2, 0), api.Hard{Term: 1, Vote: 2}},
		{hard(1, 1, 0) + hard(1, 0, 0), api.Hard{Term: 1}},
		{hard(1, 1, 0) + hard(7, 0, 0), api.Hard{Term: 7}},
		{hard(api.MaxNumber, 1, 0), api.Hard{Term: api.MaxNumber, Vote: 1}},
		{hard(0, 3, 0), api.Hard{Vote: 3}},
	} {
		says(t, "P8.4", log(x.log), first, plain(x.want), nil)
	}
	refuses(t, "P8.4", log(hard(1, 10, 0)), first)
	refuses(t, "P8.4", log(hard(1, api.MaxNumber, 0)), first)
	refuses(t, "P8.4", log(hard(1, 0, 0), hard(0, 0, 0)), first)
	refuses(t, "P8.4", log(hard(7, 1, 0), hard(7, 2, 0), hard(6, 1, 0), hard(8, 0, 0)), first)
}

// The term that must not fall is the one that a hard state had, not the log's.
func TestP8_4TheTermThatWas(t *testing.T) {
	says(t, "P8.4", log(puts(run(1, 5)...), hard(3, 2, 0)), first, plain(api.Hard{Term: 5}, run(1, 5)...), appended(hard(5, 0, 0)))
	says(t, "P8.4", log(snap(state(4, 6)), hard(6, 1, 4)), first, based(api.Hard{Term: 6, Vote: 1, Commit: 4}, state(4, 6)), nil)
	refuses(t, "P8.4", log(hard(3, 1, 0), snap(state(4, 2)), hard(2, 1, 4)), first)
}

func TestP8_4Entries(t *testing.T) {
	ask := api.Entry{Index: 2, Term: 1, Kind: api.Ask, Data: "data"}
	none := api.Entry{Index: 3, Term: 2, Kind: api.Change, Data: "no configuration"}
	h := hard(9, 1, 1)
	kept := api.Hard{Term: 9, Vote: 1, Commit: 1}
	for _, x := range []struct {
		records, want []api.Entry
	}{
		{run(1, 1), run(1, 1)},
		{append(run(1, 1), ask, none), append(run(1, 1), ask, none)},
		{run(1, 2, 2, 5, 9), run(1, 2, 2, 5, 9)},
		{append(run(1, 1, 1, 1), run(4, 2)...), run(1, 1, 1, 1, 2)},
		{append(run(1, 1, 1, 1), run(3, 2)...), run(1, 1, 1, 2)},
		{append(run(1, 1, 1, 1), run(2, 2)...), run(1, 1, 2)},
		{append(run(1, 1, 1, 1), run(1, 2)...), run(1, 2)},
		{append(run(1, 1, 3, 3), run(2, 2)...), run(1, 1, 2)},
		{append(run(1, 3, 3, 3), run(1, 1)...), run(1, 1)},
		// Also one of the same index and term cuts what stands behind it.
		{append(run(1, 1, 1, 1), run(2, 1)...), run(1, 1, 1)},
		{append(run(1, 1, 1, 1), ask), append(run(1, 1), ask)},
		{append(append(run(1, 1), ask, none), run(2, 1)...), run(1, 1, 1)},
		{append(append(run(1, 1, 1, 1), run(2, 2, 2)...), run(3, 3, 3)...), run(1, 1, 2, 3, 3)},
	} {
		says(t, "P8.4", log(h, puts(x.records...)), first, plain(kept, x.want...), nil)
	}
}

func TestP8_4EntriesThatDoNotFit(t *testing.T) {
	for _, l := range [][]api.Entry{
		run(2, 1),
		run(api.MaxNumber, 1),
		append(run(1, 1), run(3, 1)...),
		append(run(1, 1, 1), run(9, 1)...),
		append(run(1, 1, 1, 1), append(run(2, 1), run(4, 1)...)...), // what stood behind it has gone
		run(1, 2, 1),
		append(run(1, 1, 3, 3), run(3, 2)...),
		append(run(1, 2, 2, 2), run(2, 1)...),
	} {
		refuses(t, "P8.4", log(hard(9, 0, 0), puts(l...)), first)
	}
}

// A log has no greatest length.
func TestP8_4ALongLog(t *testing.T) {
	l := make([]api.Entry, 0, 3*api.MaxLog)
	for i := range 3 * api.MaxLog {
		l = append(l, api.Entry{Index: i + 1, Term: 1 + i/100, Kind: api.Ask, Data: "d"})
	}
	says(t, "P8.4", log(hard(99, 0, 700), puts(l...)), first, plain(api.Hard{Term: 99, Commit: 700}, l...), nil)
}

func TestP8_4Snapshots(t *testing.T) {
	x := state(5, 3)
	h := api.Hard{Term: 4, Vote: 2, Commit: 5}
	says(t, "P8.4", log(snap(x), hard(4, 2, 5)), first, based(h, x), nil)
	says(t, "P8.4", log(hard(4, 2, 5), snap(x)), first, based(h, x), nil)
	says(t, "P8.4", log(snap(x), hard(4, 2, 5)), api.Config{}, based(h, x), nil)
	says(t, "P8.4", log(snap(x), hard(4, 2, 5), puts(run(6, 3, 4)...)), first, based(h, x, run(6, 3, 4)...), nil)
	says(t, "P8.4", log(snap(x), hard(4, 2, 5), puts(run(6, 4, 4)...), puts(run(6, 3)...)), first, based(h, x, run(6, 3)...), nil)
	// All entries go, also those behind its index.
	says(t, "P8.4", log(hard(4, 2, 5), puts(run(1, 1, 1, 1, 1, 3, 3, 3)...), snap(x)), first, based(h, x), nil)
	// The last one counts, also if it is an earlier one.
	says(t, "P8.4", log(snap(state(9, 4)), hard(4, 2, 5), snap(x)), first, based(h, x), nil)
	empty := api.Snapshot{Index: 1, Term: 1, Config: api.Config{Voters: []int{9}}}
	says(t, "P8.4", log(snap(empty), hard(1, 0, 1)), first, based(api.Hard{Term: 1, Commit: 1}, empty), nil)
}

func TestP8_4EntriesThatDoNotFitASnapshot(t *testing.T) {
	x := snap(state(5, 3))
	for _, l := range [][]api.Entry{run(5, 3), run(4, 3), run(1, 3), run(7, 3), run(6, 2), run(6, 4, 3)} {
		refuses(t, "P8.4", log(x, hard(4, 0, 5), puts(l...)), first)
	}
	refuses(t, "P8.4", log(puts(run(1, 1, 1)...), x, puts(run(3, 3)...)), first)
	refuses(t, "P8.4", log(snap(state(api.MaxNumber, 1)), puts(run(1, 1)...)), first)
}

// Bodies of whole frames that are no records.
func TestP8_4NoRecords(t *testing.T) {
	for _, body := range []string{
		"", "\x00", "\x04", "\x05abc", "\xff", "\x00\x01\x01\x00", "\x81\x00",
		"\x01", "\x01\x01\x01", "\x01\x01\x01\x00\x00", "\x01\x80\x00\x00\x00", "\x01\x81\x00\x00\x00",
		"\x01" + numbers(api.MaxNumber+1, 0, 0), "\x01" + numbers(0, 0, api.MaxNumber+1),
		"\x02", "\x02\x01\x01\x00", "\x02\x01\x01\x00\x00\x00", "\x02\x00\x01\x00\x00", "\x02\x01\x00\x00\x00", "\x02\x01\x01\x03\x00", "\x02\x01\x01\x00\x01x",
		"\x02" + numbers(1, 1, 1, 257) + strings.Repeat("x", 257),
		"\x03", "\x03\x01\x01\x01\x01\x00\x00", "\x03\x01\x01\x01\x01\x00\x00\x00\x00", "\x03\x00\x01\x01\x01\x00\x00\x00", "\x03\x01\x00\x01\x01\x00\x00\x00",
		"\x03\x01\x01\x00\x00\x00\x00", "\x03\x01\x01\x02\x02\x01\x00\x00\x00",
		"\x03" + numbers(1, 1, 1, 1, 0, 0, 8193) + strings.Repeat("x", 8193),
		strings.Repeat("\x01", 1<<16),
	} {
		refuses(t, "P8.4", log(frame(body)), first)
		refuses(t, "P8.4", log(hard(1, 0, 0), frame(body), hard(1, 0, 0)), first)
		refuses(t, "P8.4", log(hard(1, 0, 0), frame(body), "torn"), first)
	}
}

// The reading ends at the first frame that Unframe refuses, whatever stands behind it.
func TestP8_4ItEnds(t *testing.T) {
	good := hard(2, 1, 1) + puts(run(1, 2)...)
	want := plain(api.Hard{Term: 2, Vote: 1, Commit: 1}, run(1, 2)...)
	turned := []byte(puts(run(2, 2)...))
	for _, bad := range []string{
		"\x00",
		"\x04",
		puts(run(2, 2)...)[:9],
		"\x80",
		"\x80\x00",
		"\xff\xff\xff\xff\xff\xff\xff\xff",
		numbers(1<<16+1) + strings.Repeat("x", 1<<16+9),
		frame(strings.Repeat("\x01", 1<<16+1)),
		frame("")[:4],
		frame("")[:3] + "\x01\x01",
		frame("\x07")[:5] + "x",
	} {
		says(t, "P8.4", log(good, bad), first, want, shortened(len(good)))
		says(t, "P8.4", log(bad), first, plain(api.Hard{}), shortened(0))
	}
	says(t, "P8.4", log(good, "\x00", puts(run(2, 2)...)), first, want, shortened(len(good)))
	for i := range turned {
		b := slices.Clone(turned)
		b[i] ^= 0x10
		says(t, "P8.4", log(good, string(b), puts(run(2, 2)...), frame("none")), first, want, shortened(len(good)))
	}
}

// A log that is cut anywhere: whole records count.
func TestP8_4CutAnywhere(t *testing.T) {
	x := api.Snapshot{Index: 3, Term: 1, Config: first, Data: "d"}
	records := []string{snap(x), hard(2, 1, 3), puts(run(4, 2)...), puts(run(5, 2)...), hard(3, 0, 4)}
	wants := []api.Kept{
		plain(api.Hard{}),
		based(api.Hard{Term: 1, Commit: 3}, x),
		based(api.Hard{Term: 2, Vote: 1, Commit: 3}, x),
		based(api.Hard{Term: 2, Vote: 1, Commit: 3}, x, run(4, 2)...),
		based(api.Hard{Term: 2, Vote: 1, Commit: 3}, x, run(4, 2, 2)...),
		based(api.Hard{Term: 3, Commit: 4}, x, run(4, 2, 2)...),
	}
	whole := strings.Join(records, "")
	for n := range len(whole) + 1 {
		count, end := 0, 0
		for count < len(records) && end+len(records[count]) <= n {
			end += len(records[count])
			count++
		}
		var do []api.Act
		if end < n {
			do = shortened(end)
		}
		if count == 1 {
			do = append(do, appended(hard(1, 0, 3))...)
		}
		says(t, "P8.4", log(whole[:n]), first, wants[count], do)
	}
}

func TestP8_5PutRight(t *testing.T) {
	one, x := puts(run(1, 4)...), state(5, 3)
	for _, c := range []struct {
		log  string
		want api.Kept
		same bool // is the hard state the last that was said?
	}{
		{one, plain(api.Hard{Term: 4}, run(1, 4)...), false},
		{hard(4, 2, 0) + one, plain(api.Hard{Term: 4, Vote: 2}, run(1, 4)...), true},
		{hard(5, 2, 1) + one, plain(api.Hard{Term: 5, Vote: 2, Commit: 1}, run(1, 4)...), true},
		{hard(3, 2, 0) + one, plain(api.Hard{Term: 4}, run(1, 4)...), false},
		{hard(3, 0, 1) + one, plain(api.Hard{Term: 4, Commit: 1}, run(1, 4)...), false},
		{hard(5, 2, 2) + one, plain(api.Hard{Term: 5, Vote: 2, Commit: 1}, run(1, 4)...), false},
		{hard(5, 2, api.MaxNumber) + one, plain(api.Hard{Term: 5, Vote: 2, Commit: 1}, run(1, 4)...), false},
		{one + hard(5, 2, 2), plain(api.Hard{Term: 5, Vote: 2, Commit: 1}, run(1, 4)...), false},
		{hard(5, 2, 1), plain(api.Hard{Term: 5, Vote: 2}), false},
		{hard(5, 2, 2) + puts(run(1, 4, 4)...) + puts(run(1, 5)...), plain(api.Hard{Term: 5, Vote: 2, Commit: 1}, run(1, 5)...), false},
		// What was put right, and then said again, is not put right once more.
		{hard(5, 2, 2) + one + hard(5, 2, 1), plain(api.Hard{Term: 5, Vote: 2, Commit: 1}, run(1, 4)...), true},
		{snap(x), based(api.Hard{Term: 3, Commit: 5}, x), false},
		{snap(x) + hard(3, 1, 5), based(api.Hard{Term: 3, Vote: 1, Commit: 5}, x), true},
		{snap(x) + hard(3, 1, 4), based(api.Hard{Term: 3, Vote: 1, Commit: 5}, x), false},
		{snap(x) + hard(3, 1, 0), based(api.Hard{Term: 3, Vote: 1, Commit: 5}, x), false},
		{snap(x) + hard(3, 1, 6), based(api.Hard{Term: 3, Vote: 1, Commit: 5}, x), false},
		{snap(x) + hard(2, 1, 5), based(api.Hard{Term: 3, Commit: 5}, x), false},
		{snap(x) + hard(3, 1, 6) + puts(run(6, 3, 4)...), based(api.Hard{Term: 4, Commit: 6}, x, run(6, 3, 4)...), false},
		{snap(x) + hard(4, 1, 7) + puts(run(6, 3, 4)...), based(api.Hard{Term: 4, Vote: 1, Commit: 7}, x, run(6, 3, 4)...), true},
		{hard(9, 1, 7) + puts(run(1, 1, 1)...) + snap(x), based(api.Hard{Term: 9, Vote: 1, Commit: 5}, x), false},
		{hard(9, 1, 2) + puts(run(1, 1, 1)...) + snap(x), based(api.Hard{Term: 9, Vote: 1, Commit: 5}, x), false},
	} {
		var do []api.Act
		if h := c.want.Hard; !c.same {
			do = appended(hard(h.Term, h.Vote, h.Commit))
		}
		says(t, "P8.5", log(c.log), first, c.want, do)
		says(t, "P8.5", log(c.log, "torn"), first, c.want, slices.Concat(shortened(len(c.log)), do))
		both := []api.File{{Name: "new", Data: "junk"}, {Name: "log", Data: c.log + "torn"}}
		all := slices.Concat(removed, shortened(len(c.log)), do)
		says(t, "P8.5", both, first, c.want, all)
		slices.Reverse(both)
		says(t, "P8.5", both, first, c.want, all)
	}
}

func TestP8_5Configurations(t *testing.T) {
	for _, c := range []api.Config{
		first, other,
		{},
		{Voters: []int{}, Next: []int{}, Learners: []int{}},
		{Voters: []int{9}},
		{Voters: []int{1}, Learners: []int{2, 3}},
	} {
		says(t, "P8.5", nil, c, api.Kept{Config: c}, nil)
		says(t, "P8.5", log(hard(1, 2, 0), puts(run(1, 1)...)), c, api.Kept{Hard: api.Hard{Term: 1, Vote: 2}, Log: api.Log{Entries: run(1, 1)}, Config: c}, nil)
		says(t, "P8.5", log(snap(state(5, 3)), hard(3, 0, 5)), c, based(api.Hard{Term: 3, Commit: 5}, state(5, 3)), nil)
	}
	for _, c := range []api.Config{
		{Next: []int{1}},
		{Learners: []int{1}},
		{Voters: []int{0}},
		{Voters: []int{10}},
		{Voters: []int{2, 1}},
		{Voters: []int{1, 1}},
		{Voters: []int{1}, Learners: []int{1}},
		{Voters: []int{1}, Next: []int{3, 2}},
		{Voters: make([]int, 1000)},
		{Voters: extreme},
	} {
		refuses(t, "P8.5", nil, c)
		refuses(t, "P8.5", log(hard(1, 2, 0), puts(run(1, 1)...), "torn"), c)
		refuses(t, "P8.5", []api.File{{Name: "new"}}, c)
		// The snapshot's takes its place, so that it counts no more.
		says(t, "P8.5", log(snap(state(5, 3)), hard(3, 0, 5)), c, based(api.Hard{Term: 3, Commit: 5}, state(5, 3)), nil)
	}
}

// An entry with a configuration leaves that at the base as it is.
func TestP8_4AChangeIsAnEntryAlone(t *testing.T) {
	e := api.Entry{Index: 1, Term: 1, Kind: api.Change, Data: counted([]int{3}) + counted(nil) + counted(nil)}
	says(t, "P8.4", log(hard(1, 0, 1), puts(e)), first, plain(api.Hard{Term: 1, Commit: 1}, e), nil)
}

// What is saved comes back.
func TestP8WhatIsSavedIsSaid(t *testing.T) {
	h := api.Hard{Term: 4, Vote: 2, Commit: 1}
	saved := wal.Save(api.Ready{Kept: true, Hard: h, Entries: run(1, 3, 4)})
	says(t, "P8", log(saved[0].Data), first, plain(h, run(1, 3, 4)...), nil)
	k := based(api.Hard{Term: 4, Commit: 6}, state(5, 3), run(6, 3, 4)...)
	says(t, "P8", log(wal.Cut(k)[0].Data), first, k, nil)
}
