package world_test

import (
	"fmt"
	"testing"

	"quorate/api"
)

// The document's examples of the whole, 1 to 7, one behind the other.
func TestP10TheExamplesOfTheWhole(t *testing.T) {
	w := begin(t, of(3))
	for range 4 {
		w.Do(api.Step{Kind: api.TickAll})
		allComes(w)
	}
	is(t, "1: node 1", state(w, 1), "leader of 1, term 1, vote 1, commit 1 of 1, [1 2 3] [] []")
	for id := 1; id <= 3; id++ {
		if id > 1 {
			is(t, fmt.Sprintf("1: node %d", id), state(w, id), "follower of 1, term 1, vote 1, commit 1 of 1, [1 2 3] [] []")
		}
		s, _, _ := w.Look(id)
		is(t, fmt.Sprintf("1: the log of node %d", id), tell(s.Log.Entries), tell([]api.Entry{{Index: 1, Term: 1, Kind: api.Nothing}}))
	}

	w.Do(opens(1))
	allComes(w)
	last := func() string {
		l := w.History()
		c := l[len(l)-1]
		return fmt.Sprint(c.To > 0, " ", brief(c.Err, c.Result))
	}
	is(t, "2: a session", last(), `true 1 "" 2 []`)

	w.Do(ask(2, appends(2, 1, "v")))
	is(t, "3: of node 2, at once", last(), "true error 14")
	w.Do(ask(1, appends(2, 1, "v")))
	is(t, "3: of node 1, nothing at once", last(), `false 0 "" 0 []`)
	w.Do(ask(1, appends(2, 1, "v")))
	allComes(w)
	l := w.History()
	is(t, "3: the first", brief(l[2].Err, l[2].Result), `1 "" 1 []`)
	is(t, "3: the second", brief(l[3].Err, l[3].Result), `1 "" 1 []`)
	for id := 1; id <= 3; id++ {
		s, x, _ := w.Look(id)
		is(t, fmt.Sprintf("3: the table of node %d", id), fmt.Sprint(len(s.Log.Entries), x.Pairs, len(x.Sessions), x.Sessions[0].Client, x.Sessions[0].Last), "4 [{k v 1}] 1 2 1")
	}

	w.Do(read(1, get("k")))
	is(t, "4: nothing at once", last(), `false 0 "" 0 []`)
	allComes(w)
	is(t, "4: when all has come", last(), `true 1 "v" 1 []`)
	w.Do(read(2, get("k")))
	is(t, "4: of node 2, at once", last(), "true error 14")

	_, was, _ := w.Look(3)
	w.Do(stop(3))
	is(t, "5: node 3", state(w, 3), "down")
	k, e := w.Kept(3)
	is(t, "5: its files say", tell(k.Hard, len(k.Log.Entries), e), tell(api.Hard{Term: 1, Vote: 1, Commit: 4}, 4, api.OK))
	w.Do(up(3))
	s, now, isUp := w.Look(3)
	is(t, "5: up again, with its table", tell(isUp, s.Applied, now), tell(true, 4, was))

	w.Do(change(1, api.Op{Kind: api.RemoveNode, Node: 3}))
	is(t, "6: at once", state(w, 1), "leader of 1, term 1, vote 1, commit 4 of 5, [1 2 3] [1 2] []")
	allComes(w)
	is(t, "6: when all has come", state(w, 1), "leader of 1, term 1, vote 1, commit 6 of 6, [1 2] [] []")

	w.Do(breaks(1, 0, 0))
	is(t, "7: no act was done", tell(w.Do(opens(1))), tell([]api.Event{{Node: 1}}))
	is(t, "7: node 1", state(w, 1), "down")
	w.Heal(20)
	x, _, _ := w.Look(1)
	is(t, "7: node 1 leads again", fmt.Sprint(x.Role, x.Hard.Term), fmt.Sprint(api.Leader, 2))
	x, _, _ = w.Look(2)
	is(t, "7: node 2 follows it", fmt.Sprint(x.Role, x.Leader, x.Hard.Term), fmt.Sprint(api.Follower, 1, 2))
	x, _, _ = w.Look(3)
	is(t, "7: node 3 does not know that it is out", fmt.Sprint(x.Role, x.Hard.Term), fmt.Sprint(api.PreCandidate, 1))
}
