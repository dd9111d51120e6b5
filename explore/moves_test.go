package explore_test

import (
	"testing"

	"quorate/api"
)

// scene: what can be done behind moves of a world.
type scene struct {
	w         api.Small
	done, can string
}

// plays: just these moves can be done, none of which breaks anything.
func plays(t *testing.T, l ...scene) {
	t.Helper()
	for _, x := range l {
		if got := tell(can(behind(x.w, x.done))); got != x.can {
			t.Errorf("P12.1: %+v behind %q: %q can be done; want %q", x.w, x.done, got, x.can)
		}
	}
}

// lead: node 1 leads in term 1, by the vote of node 2.
const lead = "stand1 give12 win1 "

func TestP12_1Stand(t *testing.T) {
	plays(t,
		scene{small(1, 1, 0, 0), "", "stand1"},
		scene{small(3, 1, 0, 0), "", "stand1 stand2 stand3"},
		scene{small(1, 1, 0, 0), "stand1", "win1 restart1"},
		scene{small(1, 2, 0, 0), "stand1", "stand1 win1 restart1"},
		scene{small(1, 2, 0, 0), "stand1 win1", "restart1"},
		scene{small(1, 2, 0, 0), "stand1 win1 restart1", "stand1"},
		scene{small(1, 2, 0, 0), "stand1 win1 restart1 stand1", "win1 restart1"},
		scene{small(2, 2, 0, 0), "stand1 give12", "stand1 stand2 win1 restart1"},
		scene{small(2, 2, 0, 0), "stand1 give12 stand1", "stand2 give12 restart1"}, // it has its own vote alone
		scene{small(2, 2, 0, 0), "stand1 give12 stand2", "stand1 give21 win1 restart1 restart2"},
		scene{small(1, 4, 0, 0), "stand1 stand1 stand1", "stand1 win1 restart1"},
		scene{small(1, 4, 0, 0), "stand1 stand1 stand1 stand1", "win1 restart1"},
	)
}

func TestP12_1Give(t *testing.T) {
	plays(t,
		scene{small(2, 1, 0, 0), "stand1", "stand2 give12 restart1"},
		scene{small(2, 1, 0, 0), "stand1 give12", "win1 restart1"},
		scene{small(2, 1, 0, 0), "stand1 stand2", "restart1 restart2"},
		scene{small(2, 2, 0, 0), "stand1 stand1 stand2", "stand2 give12 restart1 restart2"}, // to a greater term, not to a lesser one
		scene{small(2, 2, 0, 0), "stand1 stand1 stand2 give12", "win1 restart1"},            // who stood follows
		scene{small(2, 2, 0, 0), lead + "stand2 give21", "win2 restart2"},                   // who led follows
		scene{small(3, 1, 0, 0), "stand1 give12", "stand3 give13 win1 restart1"},
		scene{small(3, 1, 0, 0), "stand1 stand2 give13", "win1 restart1 restart2"},
		scene{small(2, 1, 0, 0), "stand1 restart1 stand2", "restart2"},              // it has voted for itself
		scene{small(2, 1, 0, forgets), "stand1 restart1 stand2", "give21 restart2"}, // and knows it no more
		scene{small(2, 1, 0, forgets), "stand1 give12 restart2", "give12 win1 restart1"},
		scene{small(3, 1, 0, forgets), "stand1 stand3 give12 restart2", "give12 give32 win1 restart1 restart3"},
	)
}

func TestP12_1GiveByLogs(t *testing.T) {
	one := lead + "write1 "
	plays(t,
		scene{small(2, 2, 1, 0), one + "stand2", "restart1 restart2"},
		scene{small(2, 2, 1, anyLog), one + "stand2", "give21 restart1 restart2"},
		scene{small(2, 2, 1, anyTerm|forgets), one + "stand2", "restart1 restart2"},
		scene{small(2, 2, 1, 0), one + "restart1 stand1", "stand2 give12 restart1"},
		scene{small(2, 2, 1, 0), one + "copy12 stand2", "give21 count1 restart1 restart2"}, // the same
		scene{small(2, 2, 2, 0), one + "write1 copy12 stand2", "count1 restart1 restart2"}, // shorter
		scene{small(2, 2, 2, 0), one + "write1 copy12 restart1 stand1", "stand2 give12 restart1"},
	)
	// Node 1 has two entries of term 1, node 2 has one of term 2.
	two := one + "write1 stand2 give23 win2 write2 restart1 restart2 "
	plays(t,
		scene{small(3, 3, 2, 0), two + "stand2", "stand1 stand3 give21 give23 restart2"},
		scene{small(3, 3, 2, 0), two + "stand1 stand1", "stand2 stand3 give13 restart1"},
		scene{small(3, 3, 2, anyLog), two + "stand1 stand1", "stand2 stand3 give12 give13 restart1"},
	)
}

func TestP12_1Win(t *testing.T) {
	plays(t,
		scene{small(1, 1, 0, 0), "stand1", "win1 restart1"},
		scene{small(2, 1, 0, 0), "stand1 give12", "win1 restart1"},
		scene{small(3, 1, 0, 0), "stand1", "stand2 stand3 give12 give13 restart1"},
		scene{small(3, 1, 0, 0), "stand1 give12 give13", "win1 restart1"},
		scene{small(3, 1, 0, 0), "stand1 give12 give13 win1", "restart1"},
		scene{small(3, 1, 0, 0), "stand1 give12 give13 restart1", ""},
		scene{small(3, 2, 0, 0), "stand1 give12 stand2 give23", "stand1 give21 win1 win2 restart1 restart2"}, // one of an earlier term still may
		scene{small(3, 2, 0, 0), "stand1 give12 stand2 give23 win2 win1", "copy21 restart1 restart2"},
	)
}

func TestP12_1Write(t *testing.T) {
	plays(t,
		scene{small(1, 1, 0, 0), "stand1 win1", "restart1"},
		scene{small(1, 1, 2, 0), "stand1", "win1 restart1"},
		scene{small(1, 1, 2, 0), "stand1 win1", "write1 restart1"},
		scene{small(1, 1, 2, 0), "stand1 win1 write1", "write1 count1 restart1"},
		scene{small(1, 1, 2, 0), "stand1 win1 write1 write1", "count1 restart1"},
		scene{small(1, 1, 3, 0), "stand1 win1 write1 write1", "write1 count1 restart1"},
		scene{small(1, 1, 3, 0), "stand1 win1 write1 write1 write1", "count1 restart1"},
		scene{small(1, 2, 2, 0), "stand1 win1 write1 restart1 stand1 win1", "write1 restart1"}, // the log stays
		scene{small(1, 2, 2, 0), "stand1 win1 write1 restart1 stand1 win1 write1", "count1 restart1"},
	)
}

func TestP12_1Copy(t *testing.T) {
	again := lead + "write1 copy12 restart1 stand1 give12 win1 "
	plays(t,
		scene{small(2, 1, 1, 0), lead, "write1 restart1"},
		scene{small(2, 1, 1, 0), lead + "write1", "copy12 restart1"},
		scene{small(2, 1, 1, 0), lead + "write1 copy12", "count1 restart1"},
		scene{small(2, 1, 2, 0), lead + "write1 write1", "copy12 restart1"},
		scene{small(2, 1, 2, 0), lead + "write1 write1 copy12", "copy12 count1 restart1"}, // one at a time
		scene{small(2, 1, 2, 0), lead + "write1 write1 copy12 copy12", "count1 restart1"},
		scene{small(3, 1, 0, 0), lead, "stand3 copy13 restart1"}, // it has not heard of the term
		scene{small(3, 1, 0, 0), lead + "copy13", "restart1"},
		scene{small(3, 1, 0, 0), lead + "stand3", "restart1 restart3"}, // it has, and there is nothing to copy
		scene{small(3, 1, 1, 0), lead + "stand3 write1", "copy12 copy13 restart1 restart3"},
		scene{small(3, 1, 1, 0), lead + "stand3 write1 copy13", "copy12 count1 restart1"},                             // who stood follows
		scene{small(3, 2, 0, 0), lead + "stand2", "stand3 give21 give23 copy13 restart1 restart2"},                    // not to a greater term
		scene{small(3, 2, 0, 0), "stand1 give12 stand2 give23 win2 win1 copy21", "restart2"},                          // who led follows
		scene{small(2, 2, 1, 0), again, "copy12 restart1"},                                                            // it has all, but who leads does not know
		scene{small(2, 2, 1, 0), again + "copy12", "restart1"},                                                        // now it does
		scene{small(3, 2, 1, 0), lead + "write1 copy12 restart1 stand1 give13 win1", "stand2 copy12 copy13 restart1"}, // or it has not heard of the term
		scene{small(3, 2, 1, 0), lead + "write1 copy12 restart1 stand1 give13 win1 copy12", "copy13 restart1"},
	)
}

func TestP12_1CopyCuts(t *testing.T) {
	// Node 1 has two entries of term 1; node 2 leads in term 2, and has one of that.
	other := lead + "write1 write1 stand2 give23 win2 write2 "
	plays(t,
		scene{small(3, 2, 2, 0), other + "copy21", "write2 copy23 count2 restart2"},
		scene{small(3, 2, 2, 0), other + "write2 copy21", "copy21 copy23 count2 restart2"},
		scene{small(3, 3, 2, 0), other + "copy21 restart2 stand1", "stand2 stand3 give12 give13 restart1"}, // node 1 has none of term 1 behind it
	)
	// Node 2 leads in term 2, and has the first of node 1's two entries alone.
	less := lead + "write1 write1 copy12 stand2 give23 win2 "
	plays(t,
		scene{small(3, 2, 2, 0), less + "copy21", "write2 copy23 restart2"},
		scene{small(3, 3, 2, 0), less + "copy21 restart2 stand2", "stand1 stand3 give23 restart2"},               // what node 1 has behind it stays
		scene{small(3, 3, 2, 0), less + "write2 copy21 restart2 stand2", "stand1 stand3 give21 give23 restart2"}, // till there is another entry there
	)
}

func TestP12_1Count(t *testing.T) {
	// Node 1 leads in term 2; it and node 2 have one entry of term 1.
	old := lead + "write1 restart1 stand1 give12 win1 copy12 "
	plays(t,
		scene{small(3, 1, 1, 0), lead + "write1", "stand3 copy12 copy13 restart1"},
		scene{small(3, 1, 1, 0), lead + "write1 copy13", "copy12 count1 restart1"},
		scene{small(3, 1, 1, 0), lead + "write1 copy13 count1", "copy12 tell13 restart1"},
		scene{small(3, 1, 2, 0), lead + "write1 write1 copy12 copy12 copy13 count1", "copy13 tell12 tell13 restart1"}, // both at once
		scene{small(3, 1, 2, 0), lead + "write1 write1 copy12 count1", "stand3 copy12 copy13 tell12 restart1"},
		scene{small(3, 1, 2, 0), lead + "write1 write1 copy12 count1 copy12", "stand3 copy13 count1 tell12 restart1"},
		scene{small(2, 2, 2, 0), old, "write1 restart1"},
		scene{small(2, 2, 2, anyTerm), old, "write1 count1 restart1"},
		scene{small(2, 2, 2, anyLog|forgets), old, "write1 restart1 restart2"},
		scene{small(2, 2, 2, 0), old + "write1", "copy12 restart1"},
		scene{small(2, 2, 2, anyTerm), old + "write1", "copy12 count1 restart1"},
		scene{small(2, 2, 2, 0), old + "write1 copy12", "count1 restart1"}, // with one of its term behind it
		scene{small(2, 2, 2, 0), old + "write1 copy12 count1", "tell12 restart1"},
		scene{small(2, 2, 2, 0), old + "write1 copy12 count1 tell12", "restart1 restart2"},
		scene{small(1, 2, 2, anyTerm), "stand1 win1 write1 restart1 stand1 win1 count1", "write1 restart1"},
	)
}

func TestP12_1Tell(t *testing.T) {
	done := lead + "write1 copy12 count1 "
	plays(t,
		scene{small(3, 2, 1, 0), lead + "write1 copy12", "stand2 stand3 copy13 count1 restart1"},
		scene{small(3, 2, 1, 0), done, "stand2 stand3 copy13 tell12 restart1"},
		scene{small(3, 2, 1, 0), done + "tell12", "stand2 stand3 copy13 restart1 restart2"},
		scene{small(3, 2, 1, 0), done + "tell12 restart2", "stand2 stand3 copy13 tell12 restart1"}, // once more
		scene{small(3, 2, 1, 0), done + "copy13", "stand2 stand3 tell12 tell13 restart1"},
		scene{small(3, 2, 1, 0), done + "stand2", "stand3 give21 give23 copy13 restart1 restart2"}, // not to another term
		scene{small(3, 1, 2, 0), lead + "write1 write1 copy12 copy12 copy13 count1 tell13", "copy13 tell12 restart1 restart3"},
		scene{small(3, 1, 2, 0), lead + "write1 write1 copy12 copy12 copy13 count1 tell13 copy13", "tell12 tell13 restart1 restart3"},
		scene{small(3, 1, 2, 0), lead + "write1 write1 copy12 copy12 copy13 count1 tell13 copy13 tell13", "tell12 restart1 restart3"},
		scene{small(2, 2, 1, 0), done + "tell12 stand2 give21 win2 copy21", "restart1 restart2"}, // what is committed stays so, whoever leads
	)
}

func TestP12_1Restart(t *testing.T) {
	plays(t,
		scene{small(1, 1, 0, 0), "stand1 restart1", ""},
		scene{small(1, 1, 0, forgets), "stand1 restart1", ""},
		scene{small(2, 1, 0, 0), lead + "restart1", ""},
		scene{small(2, 1, 0, forgets), lead + "restart1", "restart2"}, // node 2 has voted
		scene{small(2, 1, 0, forgets), lead + "restart1 restart2", ""},
		scene{small(1, 1, 1, 0), "stand1 win1 write1 count1", "restart1"},
		scene{small(1, 1, 1, 0), "stand1 win1 write1 count1 restart1", ""},
		scene{small(2, 1, 1, 0), lead + "write1 copy12 count1 tell12 restart1", "restart2"}, // it has something committed
		scene{small(2, 1, 1, anyLog|anyTerm), lead + "write1 copy12 count1 tell12 restart1 restart2", ""},
		scene{small(1, 2, 1, 0), "stand1 win1 write1 count1 restart1 stand1 win1", "restart1"},
		scene{small(1, 2, 1, anyTerm), "stand1 win1 write1 count1 restart1 stand1 win1", "count1 restart1"}, // it knows of nothing that is committed
	)
}

// breaks: the first move that breaks something is a certain one, behind so many states; and it is none to be done first.
func breaks(t *testing.T, w api.Small, done, move, want string) {
	t.Helper()
	finds(t, "P12.1", behind(w, done), want+" "+move)
	finds(t, "P12.3", behind(w, done+" "+move), noSmall)
}

func TestP12_1TwoLeaders(t *testing.T) {
	breaks(t, small(3, 1, 0, forgets), "stand1 stand2 give13 win1 restart3 give23", "win2", "1 1 1")
	breaks(t, small(3, 1, 0, forgets), "stand1 stand2 give13 win1 restart3 give23 restart1", "win2", "2 1 1") // it has led, if it does no more
}

func TestP12_1Unlike(t *testing.T) {
	first := lead + "write1 copy13 stand2 give23 win2 write2 copy23 count2"
	breaks(t, small(3, 2, 1, anyLog), first, "count1", "2 1 3")
	second := lead + "write1 copy12 copy13 write1 copy13 stand2 give23 win2 write2 copy23 count2"
	breaks(t, small(3, 2, 2, anyLog), second, "count1", "2 1 3")
	both := lead + "write1 write1 copy13 copy13 stand2 give23 win2 write2 copy23 count2"
	breaks(t, small(3, 2, 2, anyLog), both, "count1", "3 1 3")
}

func TestP12_1Incomplete(t *testing.T) {
	lacks := lead + "write1 copy13 count1 stand2 give23"
	breaks(t, small(3, 2, 1, anyLog), lacks, "win2", "2 1 4")
	other := "stand2 give23 win2 write2 stand1 stand1 give13 win1 write1 copy13 count1 restart2 stand2 stand2 give23"
	breaks(t, small(3, 3, 1, anyLog), other, "win2", "2 1 4")
	// Node 3 has led in that term, too.
	two := "stand1 give13 win1 write1 copy13 count1 stand3 give31 win3 restart1 stand2 stand2 give21"
	breaks(t, small(3, 2, 1, anyLog|forgets), two, "win2", "1 1 4")
}

func TestP12_1IncompleteByALesserTerm(t *testing.T) {
	plays(t, scene{small(3, 2, 1, 0), "stand1 give12 stand2 give23 win2 write2 copy23 count2", "stand1 win1 copy21 tell23 restart1 restart2"})
	// Node 2 stands in term 2, without entries; then node 1 leads in term 3, with an entry of term 1.
	begin := "stand1 give13 win1 write1 copy13 "
	end := "stand2 stand2 give23 restart1 stand1 stand1 give13 win1 write1 copy13 count1"
	plays(t, scene{small(3, 3, 2, anyLog), begin + end, "stand2 win2 copy12 tell13 restart1 restart2"})
	breaks(t, small(3, 3, 2, anyLog), begin+"count1 "+end, "win2", "2 1 4") // who did so first was of term 1
}
