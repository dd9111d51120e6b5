package cell_test

import (
	"fmt"
	"testing"

	"quorate/api"
	"quorate/cell"
)

// Answers that many jobs have: of what is not there; of a cell, version 5, with a value.
const (
	none  = `missing 0 ""`
	there = `done 5 "here 3 7 =v"`
)

// reading: a job of which Next tells READ.
func reading(t *testing.T, at int, x api.Job) *cell.Job {
	t.Helper()
	return begin(t, 4, at, x)
}

// writing: a job at 2 that does app a w on v, version 7, which was handed over three times: it is at WRITE.
func writing(t *testing.T) *cell.Job {
	t.Helper()
	j := reading(t, 2, does(t, "app a w"))
	play(t, j, turn{"2: get ca", there, "working at 2"})
	is(t, "P20.2: WRITE", next(t, j), `2: swap ca "here 3 8 =vw" 5`)
	return j
}

// preparing: a job at 2 that hands over v, version 7, which was handed over three times: it is at PREPARE.
func preparing(t *testing.T, to int) *cell.Job {
	t.Helper()
	j := reading(t, 2, hands("a", to))
	play(t, j, turn{"2: get ca", there, "working at 2"})
	is(t, "P20.2: PREPARE", next(t, j), fmt.Sprintf("%d: get ca", to))
	return j
}

// sending: a job that hands over to 3: it is at WRITE.
func sending(t *testing.T) *cell.Job {
	t.Helper()
	j := preparing(t, 3)
	play(t, j, turn{"3: get ca", `done 9 "gone 1 2"`, "working at 2"})
	is(t, "P20.2: WRITE", next(t, j), `2: swap ca "moving 4 3 7 =v" 5`)
	return j
}

// own: a job that hands over to 3, and has written that: it is at LOOK.
func own(t *testing.T) *cell.Job {
	t.Helper()
	j := sending(t)
	play(t, j, turn{`2: swap ca "moving 4 3 7 =v" 5`, `done 6 ""`, "working at 2"})
	is(t, "P20.2: LOOK, of its own", next(t, j), "3: get ca")
	return j
}

// helping: a job at 2 that has seen that another hands over to 3: it is at LOOK.
func helping(t *testing.T, x api.Job) *cell.Job {
	t.Helper()
	j := reading(t, 2, x)
	play(t, j, turn{"2: get ca", `done 6 "moving 4 3 7 =v"`, "working at 2"})
	is(t, "P20.2: LOOK, of another's", next(t, j), "3: get ca")
	return j
}

// helpers: jobs that have seen what another hands over.
func helpers(t *testing.T) []*cell.Job {
	t.Helper()
	return []*cell.Job{helping(t, does(t, "app a w")), helping(t, does(t, "get a")), helping(t, hands("a", 3)), helping(t, hands("a", 2)), helping(t, hands("a", 1))}
}

func TestP20_2ReadLost(t *testing.T) {
	for _, x := range []api.Job{does(t, "app a w"), does(t, "get a"), hands("a", 3), hands("a", 2)} {
		for _, kind := range lostKinds {
			j := reading(t, 2, x)
			for range 3 {
				leads(t, "READ", j, api.Result{Kind: kind, Value: "gone 1 3", Version: 4}, "working at 2", "2: get ca")
			}
			play(t, j, turn{"2: get ca", `done 4 "gone 1 3"`, "working at 3"}, turn{"3: get ca", none, "working at 1"})
		}
	}
}

// READ: what is not Done says nothing, whatever it has else: of group 1 it is here, of others it is with group 1; version 0.
func TestP20_2ReadNothing(t *testing.T) {
	for _, kind := range but(api.Done) {
		r := api.Result{Kind: kind, Value: "here 3 7 =v", Version: 5}
		leads(t, "READ", reading(t, 1, does(t, "app a w")), r, "working at 1", `1: swap ca "here 0 1 =w" 0`)
		leads(t, "READ", reading(t, 1, does(t, "get a")), r, `ended at 1: missing 0 ""`, "")
		leads(t, "READ", reading(t, 1, hands("a", 1)), r, `ended at 1: done 0 ""`, "")
		leads(t, "READ", reading(t, 1, hands("a", 2)), r, "working at 1", "2: get ca")
		for at := 2; at <= 4; at++ {
			leads(t, "READ", reading(t, at, does(t, "app a w")), r, "working at 1", "1: get ca")
			leads(t, "READ", reading(t, at, hands("a", at)), r, "working at 1", "1: get ca")
		}
	}
}

// READ: what is no cell says nothing; but its version counts.
func TestP20_2ReadNoCell(t *testing.T) {
	for _, text := range noCells() {
		r := api.Result{Kind: api.Done, Value: text, Version: 6}
		leads(t, "READ", reading(t, 1, does(t, "app a w")), r, "working at 1", `1: swap ca "here 0 1 =w" 6`)
		leads(t, "READ", reading(t, 2, does(t, "app a w")), r, "working at 1", "1: get ca")
		j := reading(t, 1, hands("a", 4))
		leads(t, "READ", j, r, "working at 1", "4: get ca")
		leads(t, "PREPARE", j, api.Result{Kind: api.Done}, "working at 1", `1: swap ca "moving 1 4" 6`)
	}
}

// READ: each cell leads on.
func TestP20_2ReadCells(t *testing.T) {
	for _, x := range cells() {
		r := api.Result{Kind: api.Done, Value: x.text, Version: 6}
		for at := 1; at <= 4; at++ {
			j := reading(t, at, does(t, "get a"))
			switch {
			case x.word == "gone":
				leads(t, "READ", j, r, fmt.Sprintf("working at %d", x.group), fmt.Sprintf("%d: get ca", x.group))
			case x.word == "moving":
				leads(t, "READ", j, r, fmt.Sprintf("working at %d", at), fmt.Sprintf("%d: get ca", x.group))
			default:
				j.Answer(r)
				want := api.JobStatus{State: api.Ended, Group: at, Result: api.Result{Kind: api.Done, Value: x.value, Version: x.version}}
				if x.version == 0 {
					want.Result = api.Result{Kind: api.Missing}
				}
				is(t, fmt.Sprintf("P20.2: READ, and it says %q", x.text), tell(j.Look()), tell(want))
			}
		}
	}
}

// READ: the key goes on from group to group, as far as cells say so.
func TestP20_2ReadGone(t *testing.T) {
	play(t, begin(t, 4, 3, does(t, "get a")),
		turn{"3: get ca", none, "working at 1"},
		turn{"1: get ca", `done 2 "gone 1 2"`, "working at 2"},
		turn{"2: get ca", `done 4 "gone 2 4"`, "working at 4"},
		turn{"4: get ca", `stale 0 ""`, "working at 4"},
		turn{"4: get ca", `done 1 "gone 9 4"`, "working at 4"},
		turn{"4: get ca", `done 5 "here 9 3 =x"`, "ended at 4: done 3 x"},
		turn{},
	)
}

// READ: who hands over to where the key is has ended; else who may not hand it over any more has.
func TestP20_2ReadHandsOver(t *testing.T) {
	for _, x := range []struct {
		at, to       int
		says         string
		stands, next string
	}{
		{2, 2, "here 3 7 =v", `ended at 2: done 0 ""`, ""},
		{2, 2, "here 3", `ended at 2: done 0 ""`, ""},
		{2, 2, "here 999999 7 =v", `ended at 2: done 0 ""`, ""},
		{2, 3, "here 999999 7 =v", `ended at 2: full 0 ""`, ""},
		{2, 1, "here 999999", `ended at 2: full 0 ""`, ""},
		{2, 3, "here 999998 7 =v", "working at 2", "3: get ca"},
		{2, 3, "here 3 999999 =" + many(32), "working at 2", "3: get ca"},
		{2, 1, "here 0", "working at 2", "1: get ca"},
		{2, 2, "gone 999999 3", "working at 3", "3: get ca"},
		{2, 2, "moving 999999 3", "working at 2", "3: get ca"},
	} {
		j := reading(t, x.at, hands("a", x.to))
		leads(t, fmt.Sprintf("READ, to %d", x.to), j, api.Result{Kind: api.Done, Value: x.says, Version: 5}, x.stands, x.next)
	}
}

// READ: a command is done as on just that key.
func TestP20_2ReadCommands(t *testing.T) {
	v, v32 := "here 3 7 =v", "here 3 7 ="+many(32)
	last, lastOne := "here 3 999999 =v", "here 3 999998 =v"
	for _, x := range []struct{ command, says, stands, next string }{
		{"get a", v, "ended at 2: done 7 v", ""},
		{"get a", "here 3", none, ""},
		{"get a", last, "ended at 2: done 999999 v", ""},
		{"put a w", v, "", `2: swap ca "here 3 8 =w" 5`},
		{"put a v", v, "", `2: swap ca "here 3 8 =v" 5`},
		{`put a ""`, v, "", `2: swap ca "here 3 8 =" 5`},
		{"put a w", "here 3", "", `2: swap ca "here 3 1 =w" 5`},
		{`put a ""`, "here 999999", "", `2: swap ca "here 999999 1 =" 5`},
		{`put a " ="`, "here 3", "", `2: swap ca "here 3 1 = =" 5`},
		{"put a " + many(32), v32, "", `2: swap ca "here 3 8 =` + many(32) + `" 5`},
		{"put a w", lastOne, "", `2: swap ca "here 3 999999 =w" 5`},
		{"put a w", last, `full 0 ""`, ""},
		{"app a w", v, "", `2: swap ca "here 3 8 =vw" 5`},
		{`app a ""`, v, "", `2: swap ca "here 3 8 =v" 5`},
		{"app a w", "here 3", "", `2: swap ca "here 3 1 =w" 5`},
		{"app a " + many(31), v, "", `2: swap ca "here 3 8 =` + many(32) + `" 5`},
		{"app a " + many(32), v, `full 0 ""`, ""},
		{"app a v", v32, `full 0 ""`, ""},
		{"app a " + many(32), v32, `full 0 ""`, ""},
		{`app a ""`, v32, "", `2: swap ca "here 3 8 =` + many(32) + `" 5`},
		{`app a ""`, last, `full 0 ""`, ""},
		{"del a", v, "", `2: swap ca "here 3" 5`},
		{"del a", last, "", `2: swap ca "here 3" 5`},
		{"del a", "here 3", none, ""},
		{"swap a w 7", v, "", `2: swap ca "here 3 8 =w" 5`},
		{"swap a w 0", "here 3", "", `2: swap ca "here 3 1 =w" 5`},
		{"swap a w 5", v, "unequal 7 v", ""},
		{"swap a w 0", v, "unequal 7 v", ""},
		{"swap a w 8", v, "unequal 7 v", ""},
		{"swap a w 1", "here 3", none, ""},
		{"swap a w 1099511627775", "here 3", none, ""},
		{"swap a w 999999", last, `full 0 ""`, ""},
		{"swap a w 999998", last, "unequal 999999 v", ""},
		{"swap a w 999998", lastOne, "", `2: swap ca "here 3 999999 =w" 5`},
	} {
		want := "working at 2"
		switch {
		case x.next == "" && x.stands[0] == 'e':
			want = x.stands
		case x.next == "":
			want = "ended at 2: " + x.stands
		}
		leads(t, x.command, reading(t, 2, does(t, x.command)), api.Result{Kind: api.Done, Value: x.says, Version: 5}, want, x.next)
	}
}

// WRITE: what a command's result is when it is written.
func TestP20_2WriteDone(t *testing.T) {
	for _, x := range []struct{ command, says, result string }{
		{"put a w", "here 3 7 =v", `done 8 ""`},
		{"put a w", "here 3", `done 1 ""`},
		{"app a w", "here 3 7 =v", `done 8 ""`},
		{"swap a w 7", "here 3 7 =v", `done 8 ""`},
		{"swap a w 0", "here 3", `done 1 ""`},
		{"del a", "here 3 7 =v", `done 7 ""`},
	} {
		j := reading(t, 2, does(t, x.command))
		j.Answer(api.Result{Kind: api.Done, Value: x.says, Version: 5})
		leads(t, x.command, j, api.Result{Kind: api.Done, Value: "what else", Version: 99}, "ended at 2: "+x.result, "")
	}
}

func TestP20_2WriteOfACommand(t *testing.T) {
	leads(t, "WRITE", writing(t), api.Result{Kind: api.Done, Version: 6}, `ended at 2: done 8 ""`, "")
	leads(t, "WRITE", writing(t), api.Result{Kind: api.Full}, `ended at 2: full 0 ""`, "")
	leads(t, "WRITE", writing(t), api.Result{Kind: api.Full, Value: "what else", Version: 6, Keys: []string{"k"}}, `ended at 2: full 0 ""`, "")
	for _, kind := range lostKinds {
		leads(t, "WRITE", writing(t), api.Result{Kind: kind, Version: 6}, "unknown at 2", "")
	}
	for _, kind := range but(api.Done, api.Full) {
		j := writing(t)
		leads(t, "WRITE", j, api.Result{Kind: kind, Value: "here 3 9 =z", Version: 7}, "working at 2", "2: get ca")
		play(t, j,
			turn{"2: get ca", `done 8 "here 3 9 =z"`, "working at 2"},
			turn{`2: swap ca "here 3 10 =zw" 8`, `done 9 ""`, `ended at 2: done 10 ""`},
		)
	}
}

func TestP20_2WriteOfWhoHandsOver(t *testing.T) {
	for _, version := range []int{1, 6, 99} {
		j := sending(t)
		leads(t, "WRITE", j, api.Result{Kind: api.Done, Value: "what else", Version: version}, "working at 2", "3: get ca")
		play(t, j, turn{"3: get ca", `done 1 "here 4"`, "working at 2"})
		is(t, "P20.2: the version that was told is the cell's", next(t, j), fmt.Sprintf(`2: swap ca "gone 4 3" %d`, version))
	}
	leads(t, "WRITE", sending(t), api.Result{Kind: api.Full}, `ended at 2: full 0 ""`, "")
	leads(t, "WRITE", sending(t), api.Result{Kind: api.Full, Value: "what else", Version: 6}, `ended at 2: full 0 ""`, "")
	for _, kind := range append(but(api.Done, api.Full), lostKinds...) {
		j := sending(t)
		leads(t, "WRITE", j, api.Result{Kind: kind, Value: "here 3 9 =z", Version: 7}, "working at 2", "2: get ca")
		play(t, j, // it was written, but nobody has told it so: what it sees is not its own
			turn{"2: get ca", `done 6 "moving 4 3 7 =v"`, "working at 2"},
			turn{"3: get ca", `done 1 "here 4"`, "working at 2"},
			turn{`2: swap ca "gone 4 3" 6`, `done 7 ""`, "working at 3"},
			turn{"3: get ca", `done 1 "here 4"`, `ended at 3: done 0 ""`},
		)
	}
}

// WRITE: what is handed over keeps what it has, or has nothing.
func TestP20_2WriteWhatIsHandedOver(t *testing.T) {
	for says, want := range map[string]string{
		"here 0":                             "moving 1 3",
		"here 3 7 =v":                        "moving 4 3 7 =v",
		"here 3 7 =":                         "moving 4 3 7 =",
		"here 3 7 = =":                       "moving 4 3 7 = =",
		"here 999998":                        "moving 999999 3",
		"here 999998 999999 =" + many(32):    "moving 999999 3 999999 =" + many(32),
		"here 3 7 =moving 4 3 7 =here 0 1 =": "moving 4 3 7 =moving 4 3 7 =here 0 1 =",
	} {
		j := reading(t, 2, hands("a", 3))
		j.Answer(api.Result{Kind: api.Done, Value: says, Version: 5})
		j.Answer(api.Result{Kind: api.Done, Value: "gone 0 1", Version: 1})
		is(t, "P20.2: WRITE of "+says, next(t, j), fmt.Sprintf(`2: swap ca "%s" 5`, want))
	}
}

func TestP20_2Prepare(t *testing.T) {
	for _, kind := range lostKinds {
		j := preparing(t, 3)
		for range 3 {
			leads(t, "PREPARE", j, api.Result{Kind: kind, Value: "gone 0 1", Version: 1}, "working at 2", "3: get ca")
		}
		leads(t, "PREPARE", j, api.Result{Kind: api.Done, Value: "gone 0 1", Version: 1}, "working at 2", `2: swap ca "moving 4 3 7 =v" 5`)
	}
	for _, kind := range but(api.Missing) {
		for _, value := range []string{"", "gone 0 1", "here 9 9 =z", "no cell"} { // what it says is not looked at
			leads(t, "PREPARE", preparing(t, 3), api.Result{Kind: kind, Value: value, Version: 9}, "working at 2", `2: swap ca "moving 4 3 7 =v" 5`)
		}
	}
	for to, text := range map[int]string{1: `"here 0"`, 3: `"gone 0 1"`, 4: `"gone 0 1"`} {
		leads(t, "PREPARE", preparing(t, to), api.Result{Kind: api.Missing}, "working at 2", fmt.Sprintf("%d: swap ca %s 0", to, text))
		leads(t, "PREPARE", preparing(t, to), api.Result{Kind: api.Missing, Value: "here 9", Version: 9}, "working at 2", fmt.Sprintf("%d: swap ca %s 0", to, text))
	}
}

func TestP20_2Room(t *testing.T) {
	rooming := func() *cell.Job {
		j := preparing(t, 3)
		play(t, j, turn{"3: get ca", none, "working at 2"})
		is(t, "P20.2: ROOM", next(t, j), `3: swap ca "gone 0 1" 0`)
		return j
	}
	leads(t, "ROOM", rooming(), api.Result{Kind: api.Full}, `ended at 2: full 0 ""`, "")
	leads(t, "ROOM", rooming(), api.Result{Kind: api.Full, Value: "what else", Version: 6, Keys: []string{"k"}}, `ended at 2: full 0 ""`, "")
	for _, kind := range append(but(api.Full), lostKinds...) {
		j := rooming()
		leads(t, "ROOM", j, api.Result{Kind: kind, Value: "here 9", Version: 1}, "working at 2", "2: get ca")
		play(t, j, // it begins anew
			turn{"2: get ca", `done 8 "here 3 9 =z"`, "working at 2"},
			turn{"3: get ca", `done 1 "gone 0 1"`, "working at 2"},
			turn{`2: swap ca "moving 4 3 9 =z" 8`, `done 9 ""`, "working at 2"},
		)
	}
}

func TestP20_2LookLost(t *testing.T) {
	for _, kind := range lostKinds {
		for _, j := range append(helpers(t), own(t)) {
			for range 3 {
				leads(t, "LOOK", j, api.Result{Kind: kind, Value: "here 4", Version: 1}, "working at 2", "3: get ca")
			}
			leads(t, "LOOK", j, api.Result{Kind: api.Done, Value: "gone 0 1", Version: 8}, "working at 2", `3: swap ca "here 4 7 =v" 8`)
		}
	}
}

// LOOK: how often the key was handed over, as the other group says it, is held against what was seen, whatever that group says else.
func TestP20_2LookAtCells(t *testing.T) {
	for _, x := range cells() {
		want := `2: swap ca "gone 4 3" 6`
		if x.hops < 4 {
			want = `3: swap ca "here 4 7 =v" 8`
		}
		for _, j := range append(helpers(t), own(t)) {
			leads(t, "LOOK", j, api.Result{Kind: api.Done, Value: x.text, Version: 8}, "working at 2", want)
		}
	}
	for _, word := range []string{"here %d", "here %d 7 =v", "moving %d 1", "gone %d 1"} {
		for hops := range 9 {
			want := `2: swap ca "gone 4 3" 6`
			if hops < 4 {
				want = `3: swap ca "here 4 7 =v" 8`
			}
			leads(t, "LOOK", own(t), api.Result{Kind: api.Done, Value: fmt.Sprintf(word, hops), Version: 8}, "working at 2", want)
		}
	}
}

// LOOK: a group that says nothing has had it nought times; the version counts, if it is Done.
func TestP20_2LookAtNothing(t *testing.T) {
	for _, text := range noCells() {
		leads(t, "LOOK", own(t), api.Result{Kind: api.Done, Value: text, Version: 8}, "working at 2", `3: swap ca "here 4 7 =v" 8`)
	}
	for _, kind := range but(api.Done) {
		for _, j := range append(helpers(t), own(t)) {
			leads(t, "LOOK", j, api.Result{Kind: kind, Value: "here 9", Version: 8}, "working at 2", `3: swap ca "here 4 7 =v" 0`)
		}
	}
	for at, group := range map[int]int{2: 1, 1: 2} { // nought is not less than nought
		j := reading(t, at, does(t, "get a"))
		j.Answer(api.Result{Kind: api.Done, Value: fmt.Sprintf("moving 0 %d", group), Version: 5})
		leads(t, "LOOK", j, api.Result{Kind: api.Missing}, fmt.Sprintf("working at %d", at), fmt.Sprintf(`%d: swap ca "gone 0 %d" 5`, at, group))
	}
}

// PUT: what was seen, or nothing, is put there.
func TestP20_2PutWhat(t *testing.T) {
	for _, x := range []struct{ says, puts, seals string }{
		{"moving 4 3 7 =v", "here 4 7 =v", "gone 4 3"},
		{"moving 4 3", "here 4", "gone 4 3"},
		{"moving 4 3 7 =", "here 4 7 =", "gone 4 3"},
		{"moving 4 3 7 = =", "here 4 7 = =", "gone 4 3"},
		{"moving 999999 3 999999 =" + many(32), "here 999999 999999 =" + many(32), "gone 999999 3"},
	} {
		j := reading(t, 2, does(t, "get a"))
		j.Answer(api.Result{Kind: api.Done, Value: x.says, Version: 6})
		leads(t, "LOOK", j, api.Result{Kind: api.Done, Value: "gone 3 1", Version: 8}, "working at 2", fmt.Sprintf(`3: swap ca "%s" 8`, x.puts))
		leads(t, "PUT", j, api.Result{Kind: api.Done, Version: 9}, "working at 2", fmt.Sprintf(`2: swap ca "%s" 6`, x.seals))
	}
}

func TestP20_2Put(t *testing.T) {
	putting := func() []*cell.Job {
		l := append(helpers(t), own(t))
		for _, j := range l {
			play(t, j, turn{"3: get ca", `done 8 "gone 3 1"`, "working at 2"})
			is(t, "P20.2: PUT", next(t, j), `3: swap ca "here 4 7 =v" 8`)
		}
		return l
	}
	for _, j := range putting() {
		leads(t, "PUT", j, api.Result{Kind: api.Done, Version: 9}, "working at 2", `2: swap ca "gone 4 3" 6`)
	}
	for _, kind := range append(but(api.Done), lostKinds...) {
		for _, j := range putting() {
			leads(t, "PUT", j, api.Result{Kind: kind, Value: "here 4", Version: 9}, "working at 2", "3: get ca")
			leads(t, "LOOK", j, api.Result{Kind: api.Done, Value: "gone 2 1", Version: 11}, "working at 2", `3: swap ca "here 4 7 =v" 11`)
		}
	}
}

func TestP20_2Seal(t *testing.T) {
	for _, kind := range append(but(), lostKinds...) {
		r := api.Result{Kind: kind, Value: "here 9 9 =z", Version: 9, Keys: []string{"k"}}
		j := own(t)
		play(t, j, turn{"3: get ca", `done 8 "here 4"`, "working at 2"})
		leads(t, "SEAL, of its own", j, r, `ended at 2: done 0 ""`, "")
		for _, j := range helpers(t) {
			play(t, j, turn{"3: get ca", `done 8 "here 4"`, "working at 2"})
			leads(t, "SEAL, of another's", j, r, "working at 3", "3: get ca")
		}
	}
}

// Behind SEAL, of another's: the job goes on with what it is for.
func TestP20_2BehindAnothersSeal(t *testing.T) {
	for _, x := range []struct {
		j     api.Job
		turns []turn
	}{
		{does(t, "get a"), []turn{{"3: get ca", `done 9 "here 4 7 =v"`, "ended at 3: done 7 v"}, {}}},
		{does(t, "del a"), []turn{{"3: get ca", `done 9 "here 4 7 =v"`, "working at 3"}, {`3: swap ca "here 4" 9`, `done 10 ""`, `ended at 3: done 7 ""`}, {}}},
		{hands("a", 3), []turn{{"3: get ca", `done 9 "here 4 7 =v"`, `ended at 3: done 0 ""`}, {}}},
		{hands("a", 2), []turn{
			{"3: get ca", `done 9 "here 4 7 =v"`, "working at 3"},
			{"2: get ca", `done 7 "gone 4 3"`, "working at 3"},
			{`3: swap ca "moving 5 2 7 =v" 9`, `done 10 ""`, "working at 3"},
			{"2: get ca", `done 7 "gone 4 3"`, "working at 3"},
			{`2: swap ca "here 5 7 =v" 7`, `done 8 ""`, "working at 3"},
			{`3: swap ca "gone 5 2" 10`, `done 11 ""`, `ended at 3: done 0 ""`},
			{},
		}},
	} {
		j := helping(t, x.j)
		play(t, j, turn{"3: get ca", `done 8 "gone 3 1"`, "working at 2"}, turn{`3: swap ca "here 4 7 =v" 8`, `done 9 ""`, "working at 2"}, turn{`2: swap ca "gone 4 3" 6`, `done 7 ""`, "working at 3"})
		play(t, j, x.turns...)
	}
}

// Whose job has ended, or is unknown: nothing that it is told changes it.
func TestP20_2TheEnd(t *testing.T) {
	ended, unknown, over := writing(t), writing(t), own(t)
	ended.Answer(api.Result{Kind: api.Done, Version: 6})
	unknown.Answer(api.Result{Kind: api.Lost})
	over.Answer(api.Result{Kind: api.Done, Value: "here 4", Version: 1})
	over.Answer(api.Result{Kind: api.Done, Version: 7})
	for _, kind := range append(but(), lostKinds...) {
		for j, want := range map[*cell.Job]string{ended: `ended at 2: done 8 ""`, unknown: "unknown at 2", over: `ended at 2: done 0 ""`} {
			leads(t, "at the end", j, api.Result{Kind: kind, Value: "gone 4 3", Version: 1}, want, "")
		}
	}
}

// A cell may name a group that this job does not count: it follows it all the same.
func TestP20_2AGroupBeyond(t *testing.T) {
	play(t, begin(t, 1, 1, does(t, "get a")),
		turn{"1: get ca", `done 2 "gone 1 4"`, "working at 4"},
		turn{"4: get ca", `done 2 "moving 2 3"`, "working at 4"},
		turn{"3: get ca", `done 2 "here 2"`, "working at 4"},
		turn{`4: swap ca "gone 2 3" 2`, `done 3 ""`, "working at 3"},
		turn{"3: get ca", `done 2 "here 2 1 =v"`, "ended at 3: done 1 v"},
	)
}
