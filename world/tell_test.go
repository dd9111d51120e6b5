package world_test

import (
	"testing"

	"quorate/api"
	"quorate/wal"
)

func TestP10_5Way(t *testing.T) {
	w := mailed(t)
	for i, x := range []struct {
		kind, want int
	}{{api.Twice, 4}, {api.DropOne, 3}, {api.Deliver, 3}, {api.DropOne, 2}, {api.DropOne, 1}, {api.DropOne, 0}, {api.DropOne, 0}} {
		w.Do(api.Step{Kind: x.kind})
		if w.Way() != x.want {
			t.Errorf("P10.5: step %d: %d on their way; want %d", i, w.Way(), x.want)
		}
	}
}

func TestP10_5History(t *testing.T) {
	w := led(t, of(1)) // four steps
	w.Do(opens(1))
	w.Do(ask(1, appends(2, 1, "v")))
	w.Do(tick(1))
	w.Do(read(1, get("k")))
	w.Do(api.Step{Kind: api.ReadNode, Node: 1, Request: api.Request{Client: 3, Number: 4, Command: api.Command{Kind: api.List}}})
	w.Do(ask(1, appends(2, 7, "v")))
	w.Do(ask(1, api.Request{Client: 5, Number: -6, Command: get("k"), Time: 9}))
	list := api.Command{Kind: api.List}
	want := []api.Call{
		{From: 5, To: 5, Result: api.Result{Kind: api.Done, Version: 2}},
		{From: 6, To: 6, Client: 2, Number: 1, Command: appends(2, 1, "v").Command, Result: api.Result{Kind: api.Done, Version: 1}},
		{From: 8, To: 8, Command: get("k"), Result: api.Result{Kind: api.Done, Value: "v", Version: 1}},
		{From: 9, To: 9, Command: list, Result: api.Result{Kind: api.Done, Keys: []string{"k"}}},
		{From: 10, To: 10, Client: 2, Number: 7, Command: appends(2, 1, "v").Command, Result: api.Result{Kind: api.Gap}},
		{From: 11, To: 11, Client: 5, Number: -6, Command: get("k"), Err: api.ErrCommand},
	}
	is(t, "P10.5: the calls", tell(w.History()), tell(want))
}

func TestP10_5WhenACallIsAnswered(t *testing.T) {
	w := led(t, of(3))
	from := stepNow(w, 1)
	w.Do(opens(1))           // from + 1
	w.Do(read(1, get("k")))  // from + 2
	w.Do(opens(1))           // from + 3
	w.Do(read(2, get("no"))) // from + 4
	for range 12 {
		w.Do(api.Step{Kind: api.Deliver})
	}
	for i, x := range w.History()[1:] {
		if x.From != from+1+i || i == 3 && x.To != x.From || i < 3 && (x.To <= from+4 || x.To > from+16) {
			t.Errorf("P10.5: the call %d: %+v, behind step %d", i, x, from)
		}
	}
	w.Do(opens(1))
	if l := w.History(); len(l) != 6 || l[5].To != 0 || l[5].Err != api.OK || l[5].Result.Kind != 0 {
		t.Errorf("P10.5: not yet: %+v", l)
	}
}

func TestP10_6Look(t *testing.T) {
	w := led(t, api.World{Nodes: []int{1, 3}, Voters: []int{1}, Election: 4, Beat: 1, Keep: 10})
	w.Do(opens(1))
	w.Do(ask(1, appends(2, 1, "v")))
	s, x, is1 := w.Look(1)
	if !is1 || s.ID != 1 || s.Role != api.Leader || s.Applied != 3 || len(s.Log.Entries) != 3 {
		t.Errorf("P10.6: how it stands: %+v, %v", s, is1)
	}
	is(t, "P10.6: its table", tell(x), tell(api.Table{Pairs: []api.Pair{{Key: "k", Value: "v", Version: 1}}, Time: 4,
		Sessions: []api.Session{{Client: 2, Last: 1, Answer: api.Result{Kind: api.Done, Version: 1}, Seen: 4}}}))
	if s, x, is3 := w.Look(3); !is3 || s.ID != 3 || tell(x) != tell(api.Table{}) {
		t.Errorf("P10.6: the other: %+v, %+v, %v", s, x, is3)
	}
	w.Do(stop(1))
	for _, id := range append([]int{0, 1, 2, 4}, extreme...) {
		if s, x, is1 := w.Look(id); is1 || tell(s, x) != tell(api.Status{}, api.Table{}) {
			t.Errorf("P10.6: node %d is down, or none: %+v, %+v, %v", id, s, x, is1)
		}
	}
}

func TestP10_6FilesAndKept(t *testing.T) {
	w := led(t, api.World{Nodes: []int{1, 3}, Voters: []int{1}, Election: 4, Beat: 1, Keep: 10})
	w.Do(opens(1))
	log := wal.Save(api.Ready{Kept: true, Hard: api.Hard{Term: 1, Vote: 1, Commit: 1}, Entries: []api.Entry{{Index: 1, Term: 1}}})[0].Data +
		wal.Save(api.Ready{Kept: true, Hard: api.Hard{Term: 1, Vote: 1, Commit: 2}, Entries: []api.Entry{{Index: 2, Term: 1, Kind: api.Ask, Data: "\x00\x00\x04"}}})[0].Data
	want := api.Kept{Hard: api.Hard{Term: 1, Vote: 1, Commit: 2}, Config: api.Config{Voters: []int{1}},
		Log: api.Log{Entries: []api.Entry{{Index: 1, Term: 1}, {Index: 2, Term: 1, Kind: api.Ask, Data: "\x00\x00\x04"}}}}
	for _, how := range []string{"up", "down"} {
		is(t, "P10.6: its files, "+how, tell(w.Files(1)), tell([]api.File{{Name: "log", Data: log}}))
		k, e := w.Kept(1)
		is(t, "P10.6: what they say, "+how, tell(k, e), tell(want, api.OK))
		k, e = w.Kept(3)
		is(t, "P10.6: of one that waits to be taken in, "+how, tell(w.Files(3), k, e), tell([]api.File{}, api.Kept{}, api.OK))
		w.Do(stop(1))
		w.Do(stop(3))
	}
	for _, id := range append([]int{0, 2, 4}, extreme...) {
		k, e := w.Kept(id)
		if e != api.ErrWorld || tell(k) != tell(api.Kept{}) || len(w.Files(id)) != 0 {
			t.Errorf("P10.6: node %d is none: %+v, %v, %+v", id, k, e, w.Files(id))
		}
	}
}

func TestP10_6OfATornLog(t *testing.T) {
	w := one(t)
	was, _ := w.Kept(1)
	w.Do(breaks(1, 1, 5))
	w.Do(opens(1))
	files := tell(w.Files(1))
	now, e := w.Kept(1)
	is(t, "P10.6: what was kept ahead of that", tell(now, e), tell(was, api.OK))
	is(t, "P10.6: Kept puts nothing in order", tell(w.Files(1)), files)
}

func TestP10WhatComesOutIsNew(t *testing.T) {
	tales := func(spoils bool) (l []string) {
		w := led(t, of(3))
		steps := []api.Step{opens(1), ask(1, appends(2, 1, "v")), ask(1, api.Request{Client: 2, Number: 2, Command: api.Command{Kind: api.List}}),
			read(1, api.Command{Kind: api.List}), change(1, api.Op{Kind: api.RemoveNode, Node: 2})}
		for _, s := range steps {
			for k := range 40 {
				if k > 0 {
					s = api.Step{Kind: api.Deliver}
				}
				events := w.Do(s)
				history, files := w.History(), w.Files(1)
				status, table, _ := w.Look(1)
				kept, _ := w.Kept(1)
				l = append(l, tell(events, history, files, status, table, kept))
				if !spoils {
					continue
				}
				for _, e := range events {
					for _, a := range e.Answers {
						spoil(a.Result.Keys, "over")
					}
					spoil(e.Acts, api.Act{What: 88})
					spoil(e.Sends, api.Send{To: 88})
					spoil(e.Answers, api.Answer{Token: 88})
				}
				for _, c := range history {
					spoil(c.Result.Keys, "over")
				}
				for _, x := range table.Sessions {
					spoil(x.Answer.Keys, "over")
				}
				spoil(events, api.Event{Node: 88})
				spoil(history, api.Call{From: 88})
				spoil(files, api.File{Name: "over"})
				spoil(status.Config.Voters, 88)
				spoil(status.Log.Entries, api.Entry{Index: 88})
				spoil(status.Progress, api.Progress{Node: 88})
				spoil(table.Pairs, api.Pair{Key: "over"})
				spoil(table.Sessions, api.Session{Client: 88})
				spoil(kept.Config.Voters, 88)
				spoil(kept.Log.Entries, api.Entry{Index: 88})
			}
		}
		return l
	}
	whole, spoilt := tales(false), tales(true)
	for i := range whole {
		if whole[i] != spoilt[i] {
			t.Fatalf("P10: what came out was changed, and so was the world: %s\nit was %s", spoilt[i], whole[i])
		}
	}
}
