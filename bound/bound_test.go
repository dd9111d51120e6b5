package bound_test

import (
	"math"
	"testing"

	"quorate/api"
	"quorate/bound"
)

func TestNodes(t *testing.T) {
	for n, want := range map[int]bool{math.MinInt: false, -1: false, 0: false, 1: true, 5: true, 9: true, 10: false, math.MaxInt: false} {
		if bound.IsNode(n) != want {
			t.Errorf("IsNode(%d) is not %v", n, want)
		}
	}
}

func TestRising(t *testing.T) {
	for _, l := range [][]int{nil, {}, {1}, {9}, {1, 2}, {1, 3, 9}, {1, 2, 3, 4, 5, 6, 7, 8, 9}} {
		if !bound.AreRising(l) {
			t.Errorf("%v are not taken", l)
		}
	}
	for _, l := range [][]int{{0}, {10}, {-1, 1}, {1, 10}, {2, 1}, {1, 1}, {1, 3, 2}, {1, 2, 2}, {math.MinInt, 1}, {1, math.MaxInt}} {
		if bound.AreRising(l) {
			t.Errorf("%v are taken", l)
		}
	}
}

func TestNumbersAndCounts(t *testing.T) {
	for n, want := range map[int][2]bool{
		math.MinInt:       {false, false},
		-1:                {false, false},
		0:                 {true, false},
		1:                 {true, true},
		api.MaxNumber:     {true, true},
		api.MaxNumber + 1: {false, false},
		math.MaxInt:       {false, false},
	} {
		if got := [2]bool{bound.AreNumbers(1, n, 1), bound.AreCounts(1, n, 1)}; got != want {
			t.Errorf("of %d: %v, want %v", n, got, want)
		}
	}
	if !bound.AreNumbers() || !bound.AreCounts() {
		t.Error("of none all are")
	}
}
