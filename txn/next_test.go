package txn_test

import (
	"fmt"
	"testing"

	"quorate/api"
)

// What is answered to a swap that was done, and of what is not there.
const (
	ok1  = `done 1 ""`
	ok2  = `done 2 ""`
	ok9  = `done 9 ""`
	none = `missing 0 ""`
)

// opened: the turn with which each transaction begins.
func opened(id int) turn {
	return turn{fmt.Sprintf("swap t%d open 0", id), ok1, "running"}
}

// Two parts, nobody else: each command, in order; where there is nothing is nought.
func TestP16_2Alone(t *testing.T) {
	play(t, begin(t, 1, part("y", 3), part("x", 5)),
		opened(1),
		turn{"get kx", none, "running"},
		turn{`swap kx "0 1 5" 0`, ok1, "running 0"},
		turn{"get ky", "done 7 40", "running 0"},
		turn{`swap ky "40 1 43" 7`, `done 8 ""`, "running 0 40"},
		turn{"swap t1 done 1", ok2, "committed 0 40"},
		turn{"get kx", `done 1 "0 1 5"`, "committed 0 40"},
		turn{"swap kx 5 1", ok2, "committed 0 40"},
		turn{"get ky", `done 8 "40 1 43"`, "committed 0 40"},
		turn{"swap ky 43 8", ok9, "committed 0 40"},
		turn{},
	)
}

// When it has ended nothing that it is told changes it.
func TestP16_2TheEnd(t *testing.T) {
	x := begin(t, 1, part("x", 5))
	play(t, x,
		opened(1),
		turn{"get kx", none, "running"},
		turn{`swap kx "0 1 5" 0`, ok1, "running 0"},
		turn{"swap t1 done 1", ok2, "committed 0"},
		turn{"get kx", `done 1 "0 1 5"`, "committed 0"},
		turn{"swap kx 5 1", ok2, "committed 0"},
	)
	y := begin(t, 2, part("x", 5))
	play(t, y, turn{"swap t2 open 0", "unequal 1 open", "aborted"})
	for _, kind := range append(kinds, api.Done) {
		play(t, x, turn{})
		play(t, y, turn{})
		x.Answer(api.Result{Kind: kind, Value: "0 1 5", Version: 1})
		y.Answer(api.Result{Kind: kind, Value: "0 2 5", Version: 1})
		is(t, "P16.2: who has ended", stands(x)+", "+stands(y), "committed 0, aborted")
	}
}

// BEGIN: whose record is there has ended.
func TestP16_2Begin(t *testing.T) {
	for _, kind := range kinds {
		x := begin(t, 12, part("x", 5))
		x.Answer(api.Result{Kind: kind, Value: "open", Version: 1})
		is(t, fmt.Sprintf("P16.2: BEGIN, answered with kind %d", kind), stands(x), "aborted")
		play(t, x, turn{})
	}
	play(t, begin(t, 12, part("x", 5)),
		turn{"swap t12 open 0", `done 77 "what else"`, "running"}, // the kind alone counts
		turn{"get kx", none, "running"},
	)
}

// LOOK: what is no amount, or no OK result, is nought; of the one the version counts, of the other it is 0.
func TestP16_2LookAtAmounts(t *testing.T) {
	for _, a := range amounts {
		x := begin(t, 50, part("x", 0))
		play(t, x, opened(50))
		x.Answer(api.Result{Kind: api.Done, Value: a.text, Version: 6})
		want := fmt.Sprintf(`swap kx "%d 50 %d" 6`, a.number, a.number)
		if a.holder > 0 {
			want = fmt.Sprintf("get t%d", a.holder)
		}
		is(t, fmt.Sprintf("P16.2: LOOK, and it says %q", a.text), line(t, x), want)
		is(t, "P16.2: nothing is noted yet", stands(x), "running")
	}
	for _, kind := range kinds {
		for _, value := range []string{"8", "8 50 9", "8 3 9"} {
			x := begin(t, 50, part("x", 1))
			play(t, x, opened(50))
			x.Answer(api.Result{Kind: kind, Value: value, Version: 6})
			is(t, fmt.Sprintf("P16.2: LOOK, answered with kind %d", kind), line(t, x), `swap kx "0 50 1" 0`)
		}
	}
}

// LOOK: a number may become 0, and MaxAmount, not less, not more; then it is off, and holds nothing.
func TestP16_2LookAtTheBounds(t *testing.T) {
	for _, x := range []struct {
		number, add int
		ok          bool
	}{
		{0, 0, true}, {0, 1, true}, {0, -1, false}, {0, -api.MaxAmount, false}, {0, api.MaxAmount, true},
		{5, -5, true}, {5, -6, false}, {5, -4, true},
		{api.MaxAmount, 0, true}, {api.MaxAmount, 1, false}, {api.MaxAmount, api.MaxAmount, false}, {api.MaxAmount, -api.MaxAmount, true},
		{1, api.MaxAmount, false}, {1, api.MaxAmount - 1, true}, {1, -api.MaxAmount, false},
	} {
		y := begin(t, 1, part("x", x.add))
		play(t, y, opened(1), turn{"get kx", fmt.Sprintf("done 3 %d", x.number), "running"})
		if x.ok {
			play(t, y, turn{fmt.Sprintf(`swap kx "%d 1 %d" 3`, x.number, x.number+x.add), ok9, fmt.Sprintf("running %d", x.number)})
			continue
		}
		play(t, y,
			turn{"swap t1 off 1", ok2, "aborted"},
			turn{"get kx", "done 3 4", "aborted"},
			turn{},
		)
	}
}

// LOOK: what it holds itself is noted as it stands there, whatever it would become.
func TestP16_2LookAtItsOwn(t *testing.T) {
	play(t, begin(t, 4, part("x", -5), part("y", 1)),
		opened(4),
		turn{"get kx", `done 2 "3 4 11"`, "running 3"},
		turn{"get ky", `done 2 "999999999 4 0"`, "running 3 999999999"},
		turn{"swap t4 done 1", ok2, "committed 3 999999999"},
		turn{"get kx", `done 2 "3 4 11"`, "committed 3 999999999"},
		turn{"swap kx 11 2", ok9, "committed 3 999999999"},
		turn{"get ky", `done 6 "7 4 8"`, "committed 3 999999999"},
		turn{"swap ky 8 6", ok9, "committed 3 999999999"},
		turn{},
	)
}

// HOLD: who is not OK looks again, at the same part, and has noted nothing.
func TestP16_2Hold(t *testing.T) {
	for _, kind := range kinds {
		x := begin(t, 1, part("x", 5), part("y", 6))
		play(t, x, opened(1))
		for i := range 5 {
			play(t, x, turn{"get kx", fmt.Sprintf("done %d %d", i+1, i), "running"})
			is(t, "P16.2: HOLD", line(t, x), fmt.Sprintf(`swap kx "%d 1 %d" %d`, i, i+5, i+1))
			x.Answer(api.Result{Kind: kind, Value: "100", Version: 100})
			is(t, fmt.Sprintf("P16.2: HOLD, answered with kind %d", kind), stands(x), "running")
		}
		play(t, x,
			turn{"get kx", "done 7 8", "running"},
			turn{`swap kx "8 1 13" 7`, ok9, "running 8"},
			turn{"get ky", none, "running 8"},
			turn{`swap ky "0 1 6" 0`, "lost 0 x", "running 8"},
			turn{"get ky", "done 1 2", "running 8"},
			turn{`swap ky "2 1 8" 1`, ok9, "running 8 2"},
			turn{"swap t1 done 1", ok2, "committed 8 2"},
		)
	}
}

// ASK: who is open is ended first; then, and of who is not, the key is freed.
func TestP16_2AskAndEnd(t *testing.T) {
	for _, answer := range []string{ok9, none, "unequal 3 done", `full 0 ""`, `lost 0 ""`} {
		play(t, begin(t, 1, part("x", 5)),
			opened(1),
			turn{"get kx", `done 4 "30 72 40"`, "running"},
			turn{"get t72", "done 6 open", "running"},
			turn{"swap t72 off 6", answer, "running"},
			turn{"get kx", `done 4 "30 72 40"`, "running"},
			turn{"get t72", "done 7 off", "running"},
			turn{"swap kx 30 4", answer, "running"},
			turn{"get kx", "done 5 30", "running"},
			turn{`swap kx "30 1 35" 5`, ok9, "running 30"},
		)
	}
}

// FREE: what the record says decides; what was seen of the key, not of the record, is the version.
func TestP16_2Free(t *testing.T) {
	for _, x := range []struct {
		record string
		number int
	}{
		{"done 2 done", 40}, {"done 2 off", 30}, {"done 2 dones", 30}, {"done 2 Open", 30}, {`done 2 ""`, 30}, {`done 2 "open "`, 30},
		{none, 30}, {"missing 2 open", 30}, {"missing 2 done", 30}, {"unequal 2 done", 30}, {"lost 2 open", 30}, {"none 2 done", 30},
	} {
		play(t, begin(t, 1, part("x", 5)),
			opened(1),
			turn{"get kx", `done 4 "30 72 40"`, "running"},
			turn{"get t72", x.record, "running"},
			turn{fmt.Sprintf("swap kx %d 4", x.number), `lost 0 ""`, "running"},
			turn{"get kx", none, "running"},
			turn{`swap kx "0 1 5" 0`, ok9, "running 0"},
		)
	}
}

// Each holder is asked for itself: what one's record said says nothing of the next.
func TestP16_2OneHolderBehindTheOther(t *testing.T) {
	play(t, begin(t, 1, part("x", 5), part("y", 1)),
		opened(1),
		turn{"get kx", `done 4 "30 72 40"`, "running"},
		turn{"get t72", "done 2 done", "running"},
		turn{"swap kx 40 4", ok9, "running"},
		turn{"get kx", `done 6 "40 8 50"`, "running"},
		turn{"get t8", "done 2 off", "running"},
		turn{"swap kx 40 6", "unequal 7 1", "running"},
		turn{"get kx", `done 8 "1 9 2"`, "running"},
		turn{"get t9", "done 1 open", "running"},
		turn{"swap t9 off 1", "unequal 2 done", "running"},
		turn{"get kx", `done 8 "1 9 2"`, "running"},
		turn{"get t9", "done 2 done", "running"},
		turn{"swap kx 2 8", ok9, "running"},
		turn{"get kx", "done 9 2", "running"},
		turn{`swap kx "2 1 7" 9`, ok9, "running 2"},
		turn{"get ky", `done 3 "6 72 60"`, "running 2"},
		turn{"get t72", none, "running 2"},
		turn{"swap ky 6 3", ok9, "running 2"},
		turn{"get ky", "done 4 6", "running 2"},
	)
}

// COMMIT: who was turned off is Aborted, and gives back what it still holds, as it was; its record stays.
func TestP16_2CommitRefused(t *testing.T) {
	for _, kind := range kinds {
		x := begin(t, 1, part("x", 5), part("y", 6), part("z", 7))
		play(t, x,
			opened(1),
			turn{"get kx", "done 1 10", "running"},
			turn{`swap kx "10 1 15" 1`, ok9, "running 10"},
			turn{"get ky", "done 1 20", "running 10"},
			turn{`swap ky "20 1 26" 1`, ok9, "running 10 20"},
			turn{"get kz", "done 1 30", "running 10 20"},
			turn{`swap kz "30 1 37" 1`, ok9, "running 10 20 30"},
		)
		is(t, "P16.2: COMMIT", line(t, x), "swap t1 done 1")
		x.Answer(api.Result{Kind: kind, Value: "off", Version: 2})
		is(t, fmt.Sprintf("P16.2: COMMIT, answered with kind %d", kind), stands(x), "aborted 10 20 30")
		play(t, x,
			turn{"get kx", "done 3 10", "aborted 10 20 30"}, // somebody has freed it
			turn{"get ky", `done 4 "20 1 26"`, "aborted 10 20 30"},
			turn{"swap ky 20 4", ok9, "aborted 10 20 30"},
			turn{"get kz", `done 5 "30 2 31"`, "aborted 10 20 30"}, // and holds it
			turn{},
		)
	}
}

// ABORT: it is Aborted whatever came; then all parts are cleared, from the first on, those behind too.
func TestP16_2Abort(t *testing.T) {
	for _, kind := range append(kinds, api.Done) {
		x := begin(t, 1, part("x", 5), part("y", -21), part("z", 7))
		play(t, x,
			opened(1),
			turn{"get kx", "done 1 10", "running"},
			turn{`swap kx "10 1 15" 1`, ok9, "running 10"},
			turn{"get ky", "done 1 20", "running 10"},
		)
		is(t, "P16.2: ABORT", line(t, x), "swap t1 off 1")
		x.Answer(api.Result{Kind: kind, Value: "done", Version: 2})
		is(t, fmt.Sprintf("P16.2: ABORT, answered with kind %d", kind), stands(x), "aborted 10")
		play(t, x,
			turn{"get kx", `done 2 "10 1 15"`, "aborted 10"},
			turn{"swap kx 10 2", `full 0 ""`, "aborted 10"},
			turn{"get ky", `lost 2 "20 1 26"`, "aborted 10"}, // not OK: it is left
			turn{"get kz", `done 2 "1 1 2"`, "aborted 10"},
			turn{"swap kz 1 2", "unequal 3 1", "aborted 10"},
			turn{},
		)
	}
}

// CLEAR and GIVE: what is not OK, or held by another, or by nobody, is left; what is given is given once.
func TestP16_2Clear(t *testing.T) {
	for _, x := range []struct {
		answer, gives string
	}{
		{`done 4 "3 1 8"`, "swap kx 8 4"},
		{`done 5 "0 1 0"`, "swap kx 0 5"},
		{`done 4 "3 11 8"`, ""},
		{`done 4 "3 2 8"`, ""},
		{`done 4 "3"`, ""},
		{`done 4 "3 01 8"`, ""},
		{`done 4 ""`, ""},
		{none, ""},
		{`missing 4 "3 1 8"`, ""},
		{`unequal 4 "3 1 8"`, ""},
		{`none 4 "3 1 8"`, ""},
		{`lost 4 "3 1 8"`, ""},
	} {
		for _, given := range []string{ok9, none, `unequal 8 "3 1 8"`, `lost 0 ""`} {
			y := begin(t, 1, part("x", 5), part("y", 6))
			play(t, y,
				opened(1),
				turn{"get kx", "done 3 3", "running"},
				turn{`swap kx "3 1 8" 3`, ok9, "running 3"},
				turn{"get ky", "done 1 20", "running 3"},
				turn{`swap ky "20 1 26" 1`, ok9, "running 3 20"},
				turn{"swap t1 done 1", ok2, "committed 3 20"},
				turn{"get kx", x.answer, "committed 3 20"},
			)
			if x.gives != "" {
				play(t, y, turn{x.gives, given, "committed 3 20"})
			}
			play(t, y,
				turn{"get ky", x.answer, "committed 3 20"},
			)
			if x.gives != "" {
				play(t, y, turn{"swap ky" + x.gives[len("swap kx"):], given, "committed 3 20"})
			}
			play(t, y, turn{})
		}
	}
}

// What Look hands out is nobody's but the asker's, and a result is not kept.
func TestP16_2Memory(t *testing.T) {
	x := begin(t, 1, part("x", 5), part("y", 6))
	play(t, x,
		opened(1),
		turn{"get kx", "done 3 3", "running"},
		turn{`swap kx "3 1 8" 3`, ok9, "running 3"},
	)
	was := x.Look()
	spoil(x.Look().Old, 77)
	is(t, "P16.2: Look", stands(x), "running 3")
	play(t, x,
		turn{"get ky", "done 1 20", "running 3"},
		turn{`swap ky "20 1 26" 1`, ok9, "running 3 20"},
	)
	if len(was.Old) != 1 || was.Old[0] != 3 {
		t.Errorf("P16.2: Look: what was told is another now: %v", was)
	}
	spoil(was.Old, 88)
	is(t, "P16.2: Look", stands(x), "running 3 20")
}

// Versions that no map has are told on as they are: nothing panics, all ends.
func TestP16_2AnyAnswer(t *testing.T) {
	for _, n := range []int{-1 << 63, -1, 1 << 40, 1<<63 - 1} {
		x := begin(t, 1, part("x", 5))
		play(t, x, opened(1))
		x.Answer(api.Result{Kind: api.Done, Value: "3", Version: n, Keys: make([]string, 100)})
		if c, is := x.Next(); !is || c != (api.Command{Kind: api.Swap, Key: "kx", Value: "3 1 8", If: n}) {
			t.Errorf("P16.2: LOOK, version %d: %+v, %v", n, c, is)
		}
	}
	x := begin(t, 1, part("x", 5), part("y", -5))
	for range 10 {
		line(t, x)
		x.Answer(api.Result{Kind: api.Done, Value: "6", Version: 1})
	}
	is(t, "P16.2: answered with 6 till it has ended", stands(x), "committed 6 6")
}
