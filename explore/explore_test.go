package explore_test

import (
	"fmt"
	"math"
	"slices"
	"testing"

	"quorate/api"
	"quorate/explore"
)

func TestP12_3Examples(t *testing.T) {
	finds(t, "P12.3", small(1, 1, 0, 0), "5 3 0")
	finds(t, "P12.3", small(3, 1, 0, forgets), "225 7 1 stand1 stand2 give13 win1 restart1 give21 win2")
	finds(t, "P12.3", small(3, 2, 1, 0), "13610 17 0")
	finds(t, "P12.3", small(3, 2, 1, anyLog), "3706 9 4 stand1 give12 stand2 win1 write1 copy13 give23 count1 win2")
}

func TestP12_3ByHand(t *testing.T) {
	// Nothing has happened; it stands; it stood; it leads, without and with the entry, and has it committed; the same three when it has led.
	finds(t, "P12.3", small(1, 1, 1, 0), "9 5 0")
	// In a term it stands, stood, leads or has led: four states for each choice of the terms ahead of it in which it has led.
	finds(t, "P12.3", small(1, 2, 0, 0), "13 6 0")
	finds(t, "P12.3", small(1, 3, 0, 0), "29 9 0")
	finds(t, "P12.3", small(1, 4, 0, 0), "61 12 0")
}

func TestP12_3NoSmallWorlds(t *testing.T) {
	for _, n := range []int{math.MinInt, -1, 0, 4, math.MaxInt} {
		finds(t, "P12.3", small(n, 1, 0, 0), noSmall)
	}
	for _, n := range []int{math.MinInt, -1, 0, 5, math.MaxInt} {
		finds(t, "P12.3", small(1, n, 0, 0), noSmall)
	}
	for _, n := range []int{math.MinInt, -1, 4, math.MaxInt} {
		finds(t, "P12.3", small(1, 1, n, 0), noSmall)
	}
	finds(t, "P12.3", api.Small{}, noSmall)
	finds(t, "P12.3", small(0, 0, 0, anyLog|anyTerm|forgets), noSmall)
}

func TestP12_3TheGreatest(t *testing.T) {
	finds(t, "P12.3", small(1, 4, 3, 0), "2079 18 0")
	finds(t, "P12.3", small(3, 4, 0, 0), "56973 19 0")
	finds(t, "P12.3", small(3, 1, 3, 0), "9099 18 0")
	finds(t, "P12.3", small(3, 4, 3, 0), tooGreat)
}

func TestP12_3MaxStates(t *testing.T) {
	near := "stand2 give21 give23 win2 write2 write2 copy21 stand1 count2 copy23 give13 win1 write2 copy13 count1"
	finds(t, "P12.3", behind(small(3, 3, 3, anyTerm), near), "59948 19 0")
	finds(t, "P12.3", small(2, 4, 2, anyTerm), tooGreat) // it has 60691
	finds(t, "P12.3", small(3, 2, 2, 0), tooGreat)
}

func TestP12_3FirstThatCantBeDone(t *testing.T) {
	w := small(2, 2, 1, 0)
	for _, l := range [][]api.Move{
		{{}},
		{{Kind: 0, Node: 1}},
		{{Kind: -1, Node: 1}},
		{{Kind: 9, Node: 1}},
		{{Kind: math.MaxInt, Node: 1}},
		{{Kind: math.MinInt, Node: 1}},
		{{Kind: api.Stand}},
		{{Kind: api.Stand, Node: -1}},
		{{Kind: api.Stand, Node: 3}},
		{{Kind: api.Stand, Node: math.MaxInt}},
		{{Kind: api.Stand, Node: math.MinInt}},
		{{Kind: api.Stand, Node: 1, Other: 1}},
		{{Kind: api.Stand, Node: 1, Other: 2}},
		{{Kind: api.Stand, Node: 1, Other: -1}},
		{{Kind: api.Stand, Node: 1}, {Kind: api.Give, Node: 1}},
		{{Kind: api.Stand, Node: 1}, {Kind: api.Give, Node: 1, Other: 1}},
		{{Kind: api.Stand, Node: 1}, {Kind: api.Give, Node: 1, Other: 3}},
		{{Kind: api.Stand, Node: 1}, {Kind: api.Give, Node: 1, Other: -1}},
		{{Kind: api.Stand, Node: 1}, {Kind: api.Give, Node: 1, Other: math.MaxInt}},
		{{Kind: api.Stand, Node: 1}, {Kind: api.Give, Node: 1, Other: 257}},
		{{Kind: api.Stand, Node: 257}},
		script("win1"),
		script("give12 stand1"),
		script("stand1 win1"),
		script("stand1 stand1 stand1"),
		script("win1 stand1 give12"),
	} {
		w.First = l
		finds(t, "P12.3", w, noSmall)
	}
	w.First = script("stand1 give12 win1")
	if _, e := explore.Explore(w); e != api.OK {
		t.Errorf("P12.3: %+v: %v", w, e)
	}
}

func TestP12_3FromFirst(t *testing.T) {
	w := small(1, 1, 0, 0)
	w.First = []api.Move{}
	finds(t, "P12.3", w, "5 3 0")
	finds(t, "P12.3", behind(w, "stand1"), "4 2 0")
	finds(t, "P12.3", behind(w, "stand1 win1"), "2 1 0")
	finds(t, "P12.3", behind(w, "stand1 win1 restart1"), "1 0 0")
	finds(t, "P12.3", behind(w, "stand1 restart1"), "1 0 0")
	// What led ahead of that state counts neither as depth nor as moves.
	finds(t, "P12.3", behind(small(3, 1, 0, forgets), "stand1 stand2 give13 win1 restart1"), "4 2 1 give21 win2")
}

func TestP12_3EntriesOfAnotherTerm(t *testing.T) {
	first := "stand1 give12 win1 write1 stand2 give23"
	f, e := explore.Explore(behind(small(3, 4, 1, anyTerm), first))
	if e != api.OK || f.States != 37644 || f.Depth != 13 || f.Broken != api.Incomplete || len(f.Moves) != 13 {
		t.Errorf("P12.3: %+v, %v", f, e)
	}
	finds(t, "P12.3", behind(small(3, 4, 1, anyTerm), first+" "+tell(f.Moves[:12])), "3 1 4 "+tell(f.Moves[12:]))
	finds(t, "P12.3", behind(small(3, 4, 1, anyTerm), first+" "+tell(f.Moves)), noSmall)
}

func TestP12Memory(t *testing.T) {
	w := small(3, 1, 0, forgets)
	room := script("stand1 stand2 give13 win1 restart1 stand3 stand3")
	was := slices.Clone(room)
	w.First = room[:3]
	f, e := explore.Explore(w)
	if e != api.OK || f.Broken != api.TwoLeaders || !slices.Equal(room, was) {
		t.Fatalf("P12.3: %+v: %+v, %v; %v", w, f, e, room)
	}
	want := fmt.Sprint(f)
	l := f.Moves[:cap(f.Moves)]
	for i := range l {
		l[i] = api.Move{Kind: 88}
	}
	if f, _ = explore.Explore(w); fmt.Sprint(f) != want || !slices.Equal(room, was) {
		t.Errorf("P12.3: lists share memory: %+v, want %s; %v", f, want, room)
	}
}
