package cell_test

import (
	"fmt"
	"slices"
	"strings"
	"testing"

	"quorate/api"
	"quorate/cell"
)

// maps: of groups, each with that text under ca; the empty text: it has nothing.
func maps(texts ...string) (l [][]api.Pair) {
	for i, text := range texts {
		m := []api.Pair(nil)
		if text != "" {
			m = []api.Pair{{Key: "ca", Value: text, Version: 10 + i}}
		}
		l = append(l, m)
	}
	return l
}

func TestP20_3Find(t *testing.T) {
	for _, x := range []struct {
		texts []string
		want  string
	}{
		{nil, "0"},
		{[]string{""}, "1"},
		{[]string{"", ""}, "1"},
		{[]string{"", "here 3 2 =v"}, "1"},
		{[]string{"here 0"}, "1"},
		{[]string{"here 3 2 =v"}, "1: a=v (2)"},
		{[]string{"here 3 2 ="}, "1: a= (2)"},
		{[]string{"here 3 2 =v", "here 9 9 =w"}, "1: a=v (2)"},

		{[]string{"gone 1 2", "here 1 2 =v"}, "2: a=v (2)"},
		{[]string{"gone 1 2", "here 1"}, "2"},
		{[]string{"gone 9 2", "here 1 2 =v"}, "2: a=v (2)"}, // how often is not looked at, of what is gone
		{[]string{"gone 1 3", "gone 3 4", "gone 2 2", "here 3 7 =v"}, "4: a=v (7)"},
		{[]string{"gone 1 4", "", "here 9", "here 3 7 =v"}, "4: a=v (7)"},

		{[]string{"gone 1 2"}, "0"},
		{[]string{"gone 1 3", "here 1"}, "0"},
		{[]string{"gone 1 2", "gone 2 4", "here 1"}, "0"},
		{[]string{"gone 1 1"}, "0"},
		{[]string{"gone 1 1", "here 1"}, "0"},
		{[]string{"gone 1 2", "gone 2 1"}, "0"},
		{[]string{"gone 1 2", "gone 2 1", "here 3", "here 3"}, "0"},
		{[]string{"gone 1 2", "gone 2 3", "gone 3 4", "gone 4 2"}, "0"},
		{[]string{"gone 1 2", ""}, "0"}, // it says gone 0 1
		{[]string{"gone 1 2", "no cell"}, "0"},

		{[]string{"moving 1 2 7 =v", ""}, "1: a=v (7)"},
		{[]string{"moving 1 2", ""}, "1"},
		{[]string{"moving 1 2 7 =v", "gone 0 1"}, "1: a=v (7)"},
		{[]string{"moving 1 2 7 =v", "no cell"}, "1: a=v (7)"},
		{[]string{"moving 5 2 7 =v", "here 4 9 =w"}, "1: a=v (7)"},
		{[]string{"moving 5 2 7 =v", "here 5 9 =w"}, "2: a=w (9)"},
		{[]string{"moving 5 2 7 =v", "here 5"}, "2"},
		{[]string{"moving 5 2 7 =v", "here 6 9 =w"}, "2: a=w (9)"},
		{[]string{"moving 5 2 7 =v", "moving 5 3 9 =w", "here 9"}, "3"},
		{[]string{"moving 5 2 7 =v", "moving 6 3 9 =w", "here 5"}, "2: a=w (9)"},
		{[]string{"moving 5 2 7 =v", "gone 6 3", "here 6 8 =x"}, "3: a=x (8)"},
		{[]string{"moving 5 2 7 =v", "gone 4 3", "here 6 8 =x"}, "1: a=v (7)"},
		{[]string{"moving 5 2 7 =v", "moving 4 3 8 =w", "here 6 8 =x"}, "1: a=v (7)"},
		{[]string{"moving 5 2 7 =v"}, "1: a=v (7)"}, // there is no such group
		{[]string{"moving 5 3 7 =v", "here 9"}, "1: a=v (7)"},
		{[]string{"moving 0 3", "here 9"}, "1"},
		{[]string{"moving 0 2 7 =v", ""}, "0"}, // nought is not less than nought, and group 2 says gone 0 1
		{[]string{"moving 5 1 7 =v"}, "0"},
		{[]string{"moving 5 1 7 =v", "", ""}, "0"},
		{[]string{"moving 5 2 7 =v", "moving 5 1 7 =v"}, "0"},
		{[]string{"moving 5 2 7 =v", "moving 6 1 8 =w"}, "2: a=w (8)"},
		{[]string{"gone 1 2", "moving 2 1 8 =w"}, "2: a=w (8)"},
		{[]string{"gone 2 2", "moving 2 1 8 =w"}, "0"},

		{[]string{"gone 1 2", "gone 2 3", "gone 3 4", "here 3", "here 9 9 =x", ""}, "4"},
		{[]string{"gone 1 5", "", "", "", "here 1 2 =v"}, "1"}, // no cell: there is no group 5
	} {
		is(t, fmt.Sprintf("P20.3: Find in %q", x.texts), found(t, maps(x.texts...), "a"), x.want)
	}
}

// Each text, in group 1 and in group 2.
func TestP20_3FindCells(t *testing.T) {
	for _, x := range cells() {
		want := "1"
		if x.version > 0 {
			want = fmt.Sprintf("1: a=%s (%d)", x.value, x.version)
		}
		switch {
		case x.word == "gone" && x.group == 1:
			want = "0"
		case x.word == "gone":
			want = fmt.Sprintf("%d: a=w (9)", x.group)
		case x.word == "moving" && x.group == 1:
			want = "0"
		case x.word == "moving" && x.hops <= 2:
			want = fmt.Sprintf("%d: a=w (9)", x.group)
		}
		is(t, fmt.Sprintf("P20.3: Find, and group 1 says %q", x.text), found(t, maps(x.text, "here 2 9 =w", "here 2 9 =w", "here 2 9 =w"), "a"), want)
	}
	for _, text := range noCells() {
		if len(text) > api.MaxValue {
			continue
		}
		is(t, fmt.Sprintf("P20.3: Find, and group 1 says %q", text), found(t, maps(text, "here 2 9 =w"), "a"), "1")
		is(t, fmt.Sprintf("P20.3: Find, and group 2 says %q", text), found(t, maps("gone 1 2", text), "a"), "0")
		is(t, fmt.Sprintf("P20.3: Find, and group 2 says %q", text), found(t, maps("moving 1 2 7 =v", text), "a"), "1: a=v (7)")
	}
}

// Keys stand behind a c; other keys, and what stands beside them, are others.
func TestP20_3FindKeys(t *testing.T) {
	long := strings.Repeat("k", api.MaxKey-1)
	l := [][]api.Pair{{
		{Key: "a", Value: "here 3 1 =no", Version: 1},
		{Key: "c", Value: "here 3 2 =empty", Version: 1},
		{Key: "ca", Value: "here 3 3 =v", Version: 1},
		{Key: "caa", Value: "gone 3 2", Version: 1},
		{Key: "cc", Value: "here 3 4 =c", Version: 1},
		{Key: "c" + long, Value: "here 3 5 =long", Version: 1},
		{Key: "d", Value: "here 3 6 =no", Version: 1},
	}, {
		{Key: "caa", Value: "here 3 7 =aa", Version: 1},
		{Key: "cd", Value: "here 3 8 =no", Version: 1},
	}}
	for key, want := range map[string]string{
		"": "1: =empty (2)", "a": "1: a=v (3)", "c": "1: c=c (4)", long: "1: " + long + "=long (5)", "aa": "2: aa=aa (7)",
		"d": "1", "b": "1", "ca": "1", "A": "1", long + "k": "1", long[1:]: "1", strings.Repeat("k", 1000): "1",
	} {
		is(t, fmt.Sprintf("P20.3: Find %q", key), found(t, l, key), want)
	}
}

// Maps are not changed, nor their spare room.
func TestP20_3Memory(t *testing.T) {
	l := maps("gone 1 2", "moving 2 3 7 =v", "gone 1 2")
	whole := make([][]api.Pair, len(l))
	for i := range l {
		whole[i] = append(l[i], api.Pair{Key: "z"}, api.Pair{Key: "y"})
		l[i] = whole[i][:1]
	}
	was := shows(whole)
	is(t, "P20.3: Find", found(t, l, "a"), "2: a=v (7)")
	if shows(whole) != was || len(l) != 3 || slices.ContainsFunc(l, func(m []api.Pair) bool { return len(m) != 1 }) {
		t.Errorf("P20.3: Find changed its maps: %s", shows(whole))
	}
}

// Whatever the pairs are: it ends, and says a group that is there, or none.
func TestP20_3PairsThatMayNotBe(t *testing.T) {
	for _, l := range [][][]api.Pair{
		{{{}, {}}},
		{{{Key: "ca", Value: "here 1 1 =v", Version: -1}, {Key: "ca", Value: "x"}}},
		{{{Key: "d", Version: 1}, {Key: "ca", Value: "gone 1 2", Version: 1}}, {{Key: "ca", Value: "gone 1 1"}}},
		{{{Key: "ca", Value: strings.Repeat("gone 1 2", 100000), Version: 1}}},
		{make([]api.Pair, 1000), make([]api.Pair, 1000)},
		make([][]api.Pair, 1000),
		append(maps("gone 1 2", "gone 2 1"), make([][]api.Pair, 1000)...),
	} {
		if g, _, _ := cell.Find(l, "a"); g < 0 || g > len(l) {
			t.Errorf("P20.3: Find: group %d of %d", g, len(l))
		}
	}
}
