package world_test

import (
	"fmt"
	"testing"

	"quorate/api"
	"quorate/world"
)

// one: a world of one node, which leads, with two entries; the third is cut off with the others.
func one(t *testing.T) *world.World {
	t.Helper()
	s := of(1)
	s.Keep = 3
	w := led(t, s)
	w.Do(opens(1))
	if l := w.Files(1); len(l) != 1 || l[0].Name != "log" {
		t.Fatalf("P10.4: its files: %+v", l)
	}
	return w
}

func TestP10_4BehindSoManyActs(t *testing.T) {
	was := one(t).Files(1)[0].Data
	well := one(t)
	acts := well.Do(opens(1))[0].Acts
	if len(acts) != 6 || acts[0].What != api.AppendFile || acts[1].What != api.SyncFile || acts[2].What != api.WriteFile || acts[5].What != api.SyncDir {
		t.Fatalf("P9.6: Save, and Cut: %+v", acts)
	}
	more := acts[0].Data
	synced := was + more
	for _, x := range []struct {
		n, part, done int
		file          string
	}{
		{0, 0, 0, was}, {0, 5, 0, was}, {-1, 5, 0, was}, {-1 << 62, 1 << 62, 0, was},
		{1, 0, 1, was}, {1, -1, 1, was}, {1, -1 << 62, 1, was}, {1, 1, 1, was + more[:1]}, {1, 7, 1, was + more[:7]},
		{1, len(more) - 1, 1, synced[:len(synced)-1]}, {1, len(more), 1, synced}, {1, len(more) + 1, 1, synced}, {1, 1 << 62, 1, synced},
		{2, 0, 2, synced}, {2, 5, 2, synced},
		{3, 0, 3, synced}, {3, 5, 3, synced},
		{4, 0, 4, synced}, {5, 0, 5, synced}, {5, 9, 5, synced},
	} {
		w := one(t)
		what := fmt.Sprintf("P10.4: broken behind %d acts, %d bytes", x.n, x.part)
		is(t, what, told(w.Do(breaks(1, x.n, x.part))), "node 1")
		l := w.Do(opens(1))
		is(t, what+": the event", tell(l), tell([]api.Event{{Node: 1, Acts: acts[:x.done]}}))
		is(t, what+": it is", state(w, 1), "down")
		is(t, what+": its files", tell(w.Files(1)), tell([]api.File{{Name: "log", Data: x.file}}))
		h := w.History()
		if len(h) != 2 || h[1].To != 0 || w.Way() != 0 {
			t.Errorf("%s: nothing is answered: %s", what, calls(w))
		}
		if k, e := w.Kept(1); e != api.OK || len(k.Log.Entries) < 2 {
			t.Errorf("%s: its files say %+v, %v", what, k, e)
		}
		begun := w.Do(up(1))
		if _, _, up := w.Look(1); !up || len(begun) != 1 || begun[0].Err != api.OK {
			t.Errorf("%s: it begins again: %+v", what, begun)
		}
	}
	for _, n := range []int{6, 7, api.MaxNumber, 1 << 62} {
		w := one(t)
		w.Do(breaks(1, n, 0))
		is(t, "P10.4: no more than so many acts: it ends well", tell(w.Do(opens(1)), w.Files(1)), tell(one(t).Do(opens(1)), well.Files(1)))
	}
}

func TestP10_4AFileThatWasNotThere(t *testing.T) {
	for _, x := range []struct {
		n, part int
		want    string
	}{{0, 9, "[]"}, {1, 0, "[{log }]"}, {1, -3, "[{log }]"}, {1, 1, "[{log \x04}]"}} {
		w := begin(t, of(1))
		for range 3 {
			w.Do(tick(1))
		}
		w.Do(breaks(1, x.n, x.part))
		w.Do(tick(1)) // it leads, and wants that kept
		is(t, fmt.Sprintf("P10.4: the first bytes of all, behind %d acts, %d bytes", x.n, x.part), state(w, 1)+fmt.Sprint(w.Files(1)), "down"+x.want)
	}
}

func TestP10_4TheNextEventAlone(t *testing.T) {
	w := one(t)
	w.Do(breaks(1, 0, 0))
	is(t, "P10.4: an event without acts ends well", told(w.Do(tick(1))), "node 1")
	is(t, "P10.4: and then it is to break no more", told(w.Do(opens(1))), `node 1, 6 acts, answer 2: 1 "" 3 []`)
	w.Do(breaks(1, 2, 0))
	w.Do(opens(1)) // it has just two
	is(t, "P10.4: nor behind one that had acts", told(w.Do(opens(1))), `node 1, 2 acts, answer 4: 1 "" 5 []`)
	w.Do(breaks(1, 0, 0))
	w.Do(breaks(1, 50, 0))
	is(t, "P10.4: the later one counts", told(w.Do(opens(1))), `node 1, 6 acts, answer 5: 1 "" 6 []`)
	w.Do(breaks(1, 50, 0))
	w.Do(breaks(1, 1, 0))
	is(t, "P10.4: the later one counts", told(w.Do(opens(1))), "node 1, 1 acts")
	is(t, "P10.4: it is down", told(w.Do(breaks(1, 0, 0))), "node 1 error 18")
	w.Do(up(1))
	for range 4 {
		w.Do(tick(1))
	}
	is(t, "P10.4: who was broken is to break no more", told(w.Do(opens(1))), `node 1, 2 acts, answer 7: 1 "" 8 []`)
	w.Do(breaks(1, 0, 0))
	w.Do(stop(1))
	w.Do(up(1))
	for range 4 {
		w.Do(tick(1))
	}
	is(t, "P10.4: who was stopped is to break no more", state(w, 1), "leader of 1, term 3, vote 1, commit 9 of 9, [1] [] []")
}

func TestP10_4OfOthersNothing(t *testing.T) {
	w := led(t, of(3))
	w.Do(breaks(2, 0, 0))
	is(t, "P10.4: another's event", told(w.Do(opens(1))), "node 1, 2 acts, entries>2, entries>3")
	is(t, "P10.4: a message that breaks it is off", told(w.Do(api.Step{Kind: api.Deliver})), "node 2")
	if w.Way() != 1 || state(w, 2) != "down" {
		t.Errorf("P10.4: %d on their way, node 2: %s", w.Way(), state(w, 2))
	}
	w.Do(breaks(1, 1, 3))
	is(t, "P10.4: nothing is sent", told(w.Do(opens(1))), "node 1, 1 acts")
	if w.Way() != 1 {
		t.Errorf("P10.4: on their way: %d", w.Way())
	}
	w.Do(breaks(3, 0, 0))
	is(t, "P10.4: TickAll", told(w.Do(api.Step{Kind: api.TickAll})), "node 3")
}

func TestP10_4EachOfAllThatTick(t *testing.T) {
	w := begin(t, api.World{Nodes: []int{1, 2}, Voters: []int{1}, Election: 4, Beat: 1, Keep: 10})
	for range 3 {
		w.Do(api.Step{Kind: api.TickAll})
	}
	w.Do(breaks(1, 0, 0))
	is(t, "P10.4: one breaks, the other ticks", told(w.Do(api.Step{Kind: api.TickAll}))+"; "+state(w, 1), "node 1; node 2; down")
}
