package bound_test

import (
	"math"
	"testing"

	"quorate/api"
	"quorate/bound"
)

func TestNodes(t *testing.T) {
	for n, want := range map[int]bool{math.MinInt: false, -1: false, 0: false, 1: true, 5: true, 9: true, 10: false, math.MaxInt: false} {
		if bound.IsNode(n) != want {
			t.Errorf("IsNode(%d) is not %v", n, want)
		}
	}
}

func TestRising(t *testing.T) {
	for _, l := range [][]int{nil, {}, {1}, {9}, {1, 2}, {1, 3, 9}, {1, 2, 3, 4, 5, 6, 7, 8, 9}} {
		if !bound.AreRising(l) {
			t.Errorf("%v are not taken", l)
		}
	}
	for _, l := range [][]int{{0}, {10}, {-1, 1}, {1, 10}, {2, 1}, {1, 1}, {1, 3, 2}, {1, 2, 2}, {math.MinInt, 1}, {1, math.MaxInt}} {
		if bound.AreRising(l) {
			t.Errorf("%v are taken", l)
		}
	}
}

func TestNumbersAndCounts(t *testing.T) {
	for n, want := range map[int][2]bool{
		math.MinInt:       {false, false},
		-1:                {false, false},
		0:                 {true, false},
		1:                 {true, true},
		api.MaxNumber:     {true, true},
		api.MaxNumber + 1: {false, false},
		math.MaxInt:       {false, false},
	} {
		if got := [2]bool{bound.AreNumbers(1, n, 1), bound.AreCounts(1, n, 1)}; got != want {
			t.Errorf("of %d: %v, want %v", n, got, want)
		}
	}
	if !bound.AreNumbers() || !bound.AreCounts() {
		t.Error("of none all are")
	}
}

func TestDecimal(t *testing.T) {
	for text, want := range map[string]int{"2": 2, "3": 3, "9": 9, "10": 10, "120": 120} {
		if n, is := bound.Decimal(text, 2, 120); n != want || !is {
			t.Errorf("Decimal(%q): %d, %v", text, n, is)
		}
	}
	for _, text := range []string{"", "1", "0", "121", "1000", "-3", "+3", "03", "003", " 3", "3 ", "3.", "3e1", "0x3", "1_0", "3\n", "\u0663", "x", "18446744073709551619"} {
		if n, is := bound.Decimal(text, 2, 120); n != 0 || is {
			t.Errorf("Decimal(%q): %d, %v: it is taken", text, n, is)
		}
	}
	if n, is := bound.Decimal("0", 0, 0); n != 0 || !is {
		t.Error("nought is not taken")
	}
	if n, is := bound.Decimal("-0", -1, 1); n != 0 || is {
		t.Error("nought with a sign is taken")
	}
}
