package world_test

import (
	"fmt"
	"math/rand"
	"slices"
	"testing"

	"quorate/api"
	"quorate/world"
)

func TestP10_2Act(t *testing.T) {
	two := []api.File{{Name: "log", Data: "abc"}, {Name: "new", Data: "de"}}
	for _, x := range []struct {
		what  string
		files []api.File
		a     api.Act
		want  string
	}{
		{"WriteFile of one that is there", two, api.Act{What: 1, Name: "log", Data: "x"}, "[{log x} {new de}]"},
		{"WriteFile of one that is not", two, api.Act{What: 1, Name: "z", Data: "x"}, "[{log abc} {new de} {z x}]"},
		{"WriteFile of nothing", two, api.Act{What: 1, Name: "new"}, "[{log abc} {new }]"},
		{"WriteFile of nothing into nothing", nil, api.Act{What: 1, Name: "z"}, "[{z }]"},
		{"WriteFile without a name", two, api.Act{What: 1, Data: "x"}, "[{log abc} {new de} { x}]"},
		{"AppendFile to one that is there", two, api.Act{What: 2, Name: "log", Data: "xy"}, "[{log abcxy} {new de}]"},
		{"AppendFile to one that is not", two, api.Act{What: 2, Name: "z", Data: "x"}, "[{log abc} {new de} {z x}]"},
		{"AppendFile of nothing", two, api.Act{What: 2, Name: "new"}, "[{log abc} {new de}]"},
		{"AppendFile of nothing to nothing", nil, api.Act{What: 2, Name: "z"}, "[{z }]"},
		{"SyncFile", two, api.Act{What: 3, Name: "log", To: "new", Data: "x"}, "[{log abc} {new de}]"},
		{"SyncFile of one that is not there", two, api.Act{What: 3, Name: "z"}, "[{log abc} {new de}]"},
		{"Rename to one that is there", two, api.Act{What: 4, Name: "new", To: "log", Data: "x"}, "[{log de}]"},
		{"Rename to one that stands behind", two, api.Act{What: 4, Name: "log", To: "new"}, "[{new abc}]"},
		{"Rename to one that is not there", two, api.Act{What: 4, Name: "log", To: "z"}, "[{new de} {z abc}]"},
		{"Rename to itself", two, api.Act{What: 4, Name: "log", To: "log"}, "[{new de} {log abc}]"},
		{"Rename of one that is not there", two, api.Act{What: 4, Name: "z", To: "log"}, "[{log abc} {new de}]"},
		{"Rename of nothing", nil, api.Act{What: 4, Name: "z", To: "log"}, "[]"},
		{"SyncDir", two, api.Act{What: 5, Name: "log", Data: "x"}, "[{log abc} {new de}]"},
		{"Cut", two, api.Act{What: 6, Name: "log", Size: 1}, "[{log a} {new de}]"},
		{"Cut to its size", two, api.Act{What: 6, Name: "log", Size: 3}, "[{log abc} {new de}]"},
		{"Cut of one that is shorter", two, api.Act{What: 6, Name: "log", Size: 4}, "[{log abc} {new de}]"},
		{"Cut to nothing", two, api.Act{What: 6, Name: "new"}, "[{log abc} {new }]"},
		{"Cut to less than nothing", two, api.Act{What: 6, Name: "new", Size: -1}, "[{log abc} {new }]"},
		{"Cut of one that is not there", two, api.Act{What: 6, Name: "z", Size: 1}, "[{log abc} {new de}]"},
		{"RemoveFile", two, api.Act{What: 7, Name: "log", To: "new"}, "[{new de}]"},
		{"RemoveFile of one that is not there", two, api.Act{What: 7, Name: "z"}, "[{log abc} {new de}]"},
		{"no act", two, api.Act{What: 0, Name: "log", Data: "x"}, "[{log abc} {new de}]"},
		{"one above all", two, api.Act{What: 8, Name: "log", Data: "x"}, "[{log abc} {new de}]"},
	} {
		is(t, "P10.2: "+x.what, fmt.Sprint(world.Act(x.files, x.a)), x.want)
	}
}

func TestP10_2WhatIsHandedInStays(t *testing.T) {
	r := rand.New(rand.NewSource(2))
	names := []string{"log", "new", "z"}
	for range 3000 {
		var l []api.File
		for _, name := range names {
			if r.Intn(3) > 0 {
				l = append(l, api.File{Name: name, Data: "abc"[:r.Intn(4)]})
			}
		}
		short, whole := roomy(l, api.File{Name: "spare"})
		was := tell(whole)
		a := api.Act{What: r.Intn(9), Name: names[r.Intn(3)], To: names[r.Intn(3)], Data: "xy"[:r.Intn(3)], Size: r.Intn(5) - 1}
		out := world.Act(short, a)
		told := slices.Clone(out)
		spoil(out, api.File{Name: "over"})
		if tell(whole) != was {
			t.Fatalf("P10.2: Act(%+v): what was handed in is %+v; it was %s", a, whole, was)
		}
		if again := world.Act(short, a); tell(again) != tell(told) {
			t.Fatalf("P10.2: Act(%+v) twice: %+v, %+v", a, told, again)
		}
	}
}

func TestP10_2NothingPanics(t *testing.T) {
	for _, n := range append([]int{0, 1, 2}, extreme...) {
		for what := -1; what < 9; what++ {
			world.Act(nil, api.Act{What: what, Size: n})
			world.Act([]api.File{{}, {}, {Name: "log", Data: "x"}}, api.Act{What: what, Name: "log", Size: n})
			world.Act([]api.File{{Name: "log"}, {Name: "log"}}, api.Act{What: n, Name: "log", To: "log", Size: n})
		}
	}
}
