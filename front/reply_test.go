package front_test

import (
	"fmt"
	"math"
	"slices"
	"strconv"
	"strings"
	"testing"

	"quorate/api"
	"quorate/front"
)

// keys: so many, rising, of three bytes each.
func keys(n int) []string {
	var l []string
	for i := range n {
		l = append(l, fmt.Sprintf("k%02d", i))
	}
	return l
}

func TestP13_3Results(t *testing.T) {
	for kind, name := range []string{"none", "done", "missing", "unequal", "full", "bad", "stale", "gap", "lost"} {
		replies(t, "P13.3", api.Result{Kind: kind}, name+` 0 ""`)
		replies(t, "P13.3", api.Result{Kind: kind, Version: 12, Value: "v", Keys: []string{"a", "b"}}, name+" 12 v a b")
	}
	for line, r := range map[string]api.Result{
		"done 1 v":                                          {Kind: api.Done, Version: 1, Value: "v"},
		`done 0 "" a`:                                       {Kind: api.Done, Keys: []string{"a"}},
		`done 0 "" ""`:                                      {Kind: api.Done, Keys: []string{""}},
		`done 0 "" "" "\x00" a "a b" b`:                     {Kind: api.Done, Keys: []string{"", "\x00", "a", "a b", "b"}},
		`done 1099511627775 "a\x09b\""`:                     {Kind: api.Done, Version: api.MaxNumber, Value: "a\tb\""},
		"unequal 3 " + many(64) + " " + many(16):            {Kind: api.Unequal, Version: 3, Value: many(64), Keys: []string{many(16)}},
		"done 0 v " + strings.Join(keys(32), " "):           {Kind: api.Done, Value: "v", Keys: keys(32)},
		`done 5 "\x80\xff" "\x7f" "\x80" "\xff" "\xff\x00"`: {Kind: api.Done, Version: 5, Value: "\x80\xff", Keys: []string{"\x7f", "\x80", "\xff", "\xff\x00"}},
	} {
		replies(t, "P13.3", r, line)
	}
}

// Lines in another form than the one in which they are written.
func TestP13_3OtherForms(t *testing.T) {
	for line, r := range map[string]api.Result{
		`  "done"   "1"  "v"  `: {Kind: api.Done, Version: 1, Value: "v"},
		"missing 0 a,b a,c":     {Kind: api.Missing, Value: "a,b", Keys: []string{"a,c"}},
		`none 0 "\x61" "\x61"`:  {Value: "a", Keys: []string{"a"}},
	} {
		reads(t, "P13.3", line, r)
	}
}

func TestP13_3Refused(t *testing.T) {
	for _, r := range []api.Result{
		{Kind: -1},
		{Kind: 9},
		{Kind: math.MinInt},
		{Kind: math.MaxInt},
		{Kind: api.Done, Version: -1},
		{Kind: api.Done, Version: api.MaxNumber + 1},
		{Kind: api.Done, Value: many(65)},
		{Kind: api.Done, Keys: []string{"b", "a"}},
		{Kind: api.Done, Keys: []string{"a", "a"}},
		{Kind: api.Done, Keys: []string{"a", ""}},
		{Kind: api.Done, Keys: []string{many(17)}},
		{Kind: api.Done, Keys: keys(33)},
	} {
		if s, e := front.Reply(r); s != "" || e != api.ErrCommand {
			t.Errorf("P13.3: Reply(%+v): %q, %d", r, s, e)
		}
	}
}

func TestP13_3WrongWords(t *testing.T) {
	wide := strings.Join(keys(33), " ")
	for line, place := range map[string]int{
		"won 1 v":                           0, // the first word
		"  won 1 v":                         2,
		"Done 1 v":                          0,
		"put a b":                           0,
		"1 1 v":                             0,
		`"" 1 v`:                            0,
		"won":                               0,
		"done":                              4, // too few
		"done ":                             5,
		"done 1":                            6,
		`done "1"  `:                        10,
		"done 01":                           7, // that is told ahead of a wrong version
		"done x ":                           7,
		"done 01 v":                         5, // the version
		"done x v":                          5,
		`done "" v`:                         5,
		"done -1 v":                         5,
		"done +1 v":                         5,
		"done 1099511627776 v":              5,
		"done 9223372036854775808 v":        5,
		"done 01 " + many(65) + " b a":      5,
		"done 1 " + many(65):                7, // the value
		"done 1 " + many(65) + " b a":       7,
		"done 1 v " + many(17):              9, // a key
		"done 1 v a " + many(17):            11,
		"done 1 v b " + many(17) + " a":     11,
		"done 1 v b a " + many(17):          11,
		"done 1 v a a":                      11,
		"done 1 v b  a":                     12,
		"done 1 v a b c b d":                15,
		`done 1 v a ""`:                     11,
		`done 1 v "\xff" a`:                 16,
		"done 1 v " + wide:                  9 + 32*4,
		"done 1 v " + wide + " z":           9 + 32*4,
		"done 1 v " + wide + " a":           9 + 32*4,
		"done 1 v z " + wide:                11,
		"done 1 v " + many(17) + " " + wide: 9,
	} {
		noResult(t, "P13.3", line, place, api.ErrCommand)
	}
}

func TestP13_3Limits(t *testing.T) {
	r := api.Result{Kind: api.Lost, Version: api.MaxNumber, Value: many(64), Keys: keys(32)}
	replies(t, "P13.3", r, "lost "+strconv.Itoa(api.MaxNumber)+" "+many(64)+" "+strings.Join(keys(32), " "))
}

// A list that is handed in is not changed, its spare room neither; one that comes out is new.
func TestP13_3Memory(t *testing.T) {
	room := []string{"a", "b", "c", "d"}
	r := api.Result{Kind: api.Done, Keys: room[:2]}
	if s, e := front.Reply(r); s != `done 0 "" a b` || e != api.OK {
		t.Errorf("P13.3: Reply: %q, %d", s, e)
	}
	if !slices.Equal(room, []string{"a", "b", "c", "d"}) {
		t.Errorf("P13.3: Reply changed its keys: %q", room)
	}
	line := "done 0 v a b c"
	one, _, _ := front.ReadReply(line)
	two, _, _ := front.ReadReply(line)
	one.Keys[0] = "z"
	_ = append(one.Keys[:1], "z", "z")
	if !slices.Equal(two.Keys, []string{"a", "b", "c"}) {
		t.Errorf("P13.3: two answers share memory: %q", two.Keys)
	}
}
