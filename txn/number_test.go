package txn_test

import (
	"fmt"
	"slices"
	"strings"
	"testing"

	"quorate/api"
	"quorate/txn"
)

// amounts: texts, and what they say: the number, who holds it, the number then. What says nothing says nought.
var amounts = []struct {
	text                 string
	number, holder, then int
}{
	{"0", 0, 0, 0},
	{"3", 3, 0, 0},
	{"10", 10, 0, 0},
	{"999999999", 999999999, 0, 0},
	{"3 7 9", 3, 7, 9},
	{"0 7 0", 0, 7, 0},
	{"0 1 5", 0, 1, 5},
	{"3 999 9", 3, 999, 9},
	{"999999999 7 0", 999999999, 7, 0},
	{"0 7 999999999", 0, 7, 999999999},
	{"999999999 999 999999999", 999999999, 999, 999999999},

	{"", 0, 0, 0},
	{" ", 0, 0, 0},
	{"x", 0, 0, 0},
	{"03", 0, 0, 0},
	{"00", 0, 0, 0},
	{"+3", 0, 0, 0},
	{"-3", 0, 0, 0},
	{"-0", 0, 0, 0},
	{"3.", 0, 0, 0},
	{"3e1", 0, 0, 0},
	{"0x3", 0, 0, 0},
	{"1_0", 0, 0, 0},
	{"3\n", 0, 0, 0},
	{"\u0663", 0, 0, 0},
	{"1000000000", 0, 0, 0},
	{"99999999999999999999", 0, 0, 0},
	{"18446744073709551619", 0, 0, 0}, // 3, were it to wrap round
	{" 3", 0, 0, 0},
	{"3 ", 0, 0, 0},
	{"3 7", 0, 0, 0},
	{"3 7 ", 0, 0, 0},
	{"3  7 9", 0, 0, 0},
	{"3 7  9", 0, 0, 0},
	{" 3 7 9", 0, 0, 0},
	{"3 7 9 ", 0, 0, 0},
	{"3 7 9 1", 0, 0, 0},
	{"3\t7\t9", 0, 0, 0},
	{"3 0 9", 0, 0, 0},
	{"3 07 9", 0, 0, 0},
	{"3 1000 9", 0, 0, 0},
	{"3 -7 9", 0, 0, 0},
	{"3 x 9", 0, 0, 0},
	{"03 7 9", 0, 0, 0},
	{"3 7 09", 0, 0, 0},
	{"3 7 -1", 0, 0, 0},
	{"3 7 1000000000", 0, 0, 0},
	{"1000000000 7 9", 0, 0, 0},
	{"-1 7 9", 0, 0, 0},
}

func TestP16_3Numbers(t *testing.T) {
	for _, a := range amounts {
		for _, record := range []string{"", "open", "done", "off", "Done", "done ", "dones"} {
			p := []api.Pair{{Key: "ka", Value: a.text, Version: 4}}
			if record != "" {
				p = append(p, api.Pair{Key: fmt.Sprintf("t%d", a.holder), Value: record, Version: 2})
			}
			want := a.number
			if record == "done" && a.holder > 0 {
				want = a.then
			}
			if n := txn.Number(p, "a"); n != want {
				t.Errorf("P16.3: %q, with the holder's record %q: %d; want %d", a.text, record, n, want)
			}
		}
	}
}

func TestP16_3WhichKey(t *testing.T) {
	p := []api.Pair{
		{Key: "a", Value: "1", Version: 1},
		{Key: "k", Value: "2", Version: 1},
		{Key: "k" + strings.Repeat("z", 15), Value: "3", Version: 1},
		{Key: "ka", Value: "4 8 5", Version: 1},
		{Key: "kab", Value: "6 12 7", Version: 1},
		{Key: "kt8", Value: "done", Version: 1},
		{Key: "t1", Value: "done", Version: 1},
		{Key: "t12", Value: "done", Version: api.MaxNumber},
		{Key: "t8", Value: "off", Version: 1},
	}
	slices.SortFunc(p, func(a, b api.Pair) int { return strings.Compare(a.Key, b.Key) })
	for key, want := range map[string]int{
		"a":                      4, // its holder is off
		"ab":                     7, // its holder is done
		"":                       2,
		strings.Repeat("z", 15):  3,
		strings.Repeat("z", 14):  0,
		strings.Repeat("z", 16):  0,
		strings.Repeat("z", 999): 0,
		"b":                      0,
		"ka":                     0,
		"t8":                     0, // a key of that name, not a record
		"t1":                     0,
		"\xff":                   0,
	} {
		if n := txn.Number(p, key); n != want {
			t.Errorf("P16.3: of %q: %d; want %d", key, n, want)
		}
	}
	for _, none := range [][]api.Pair{nil, {}} {
		if n := txn.Number(none, "a"); n != 0 {
			t.Errorf("P16.3: of nothing: %d", n)
		}
	}
}

// Pairs are not changed, and a full map is as good as another.
func TestP16_3Memory(t *testing.T) {
	var p []api.Pair
	for i := range api.MaxPairs - 1 {
		p = append(p, api.Pair{Key: fmt.Sprintf("k%02d", i), Value: fmt.Sprintf("%d 5 %d", i, i+100), Version: 1})
	}
	p = append(p, api.Pair{Key: "t5", Value: "done", Version: 2})
	short, whole := roomy(p, api.Pair{Key: "z"})
	was := slices.Clone(whole)
	for i := range api.MaxPairs - 1 {
		if n := txn.Number(short, fmt.Sprintf("%02d", i)); n != i+100 {
			t.Errorf("P16.3: of %02d: %d; want %d", i, n, i+100)
		}
	}
	if !slices.Equal(whole, was) {
		t.Errorf("P16.3: Number changed its pairs: %v", whole)
	}
}

// Whatever the pairs are: it ends, and says a number.
func TestP16_3PairsThatMayNotBe(t *testing.T) {
	for _, p := range [][]api.Pair{
		{{}, {}},
		{{Key: "ka", Value: "3 7 9", Version: -1}, {Key: "ka", Value: "x"}},
		{{Key: "t7", Value: "done", Version: 1}, {Key: "ka", Value: "3 7 9", Version: 1}},
		{{Key: "ka", Value: strings.Repeat("1 ", 100000), Version: 1}},
		make([]api.Pair, 1000),
	} {
		if n := txn.Number(p, "a"); n < 0 || n > api.MaxAmount {
			t.Errorf("P16.3: %d", n)
		}
	}
}
