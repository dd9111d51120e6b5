package cell_test

import (
	"fmt"

	"quorate/api"
)

// said: a text, and what a group says whose map has it.
type said struct {
	text        string
	word        string
	hops, group int
	value       string
	version     int // 0: there is no value
}

// cells: texts that are cells, those at the bounds too.
func cells() []said {
	return []said{
		{"here 0", "here", 0, 0, "", 0},
		{"here 3", "here", 3, 0, "", 0},
		{"here 999999", "here", api.MaxHops, 0, "", 0},
		{"here 0 1 =v", "here", 0, 0, "v", 1},
		{"here 3 2 =", "here", 3, 0, "", 2},
		{"here 3 2 = ", "here", 3, 0, " ", 2},
		{"here 3 2 ==", "here", 3, 0, "=", 2},
		{"here 3 2 = =", "here", 3, 0, " =", 2},
		{"here 3 2 =v =w", "here", 3, 0, "v =w", 2},
		{"here 3 2 =1 2 =3", "here", 3, 0, "1 2 =3", 2},
		{"here 3 2 =\x00\xff\n", "here", 3, 0, "\x00\xff\n", 2},
		{"here 10 20 =v", "here", 10, 0, "v", 20},
		{"here 999999 999999 =" + many(api.MaxText), "here", api.MaxHops, 0, many(api.MaxText), api.MaxChanges},
		{"moving 0 1", "moving", 0, 1, "", 0},
		{"moving 3 4", "moving", 3, 4, "", 0},
		{"moving 999999 3", "moving", api.MaxHops, 3, "", 0},
		{"moving 3 2 1 =v", "moving", 3, 2, "v", 1},
		{"moving 3 2 7 = =", "moving", 3, 2, " =", 7},
		{"moving 999999 4 999999 =" + many(api.MaxText), "moving", api.MaxHops, 4, many(api.MaxText), api.MaxChanges},
		{"gone 0 1", "gone", 0, 1, "", 0},
		{"gone 3 2", "gone", 3, 2, "", 0},
		{"gone 999999 4", "gone", api.MaxHops, 4, "", 0},
	}
}

// noCells: texts that are none.
func noCells() []string {
	l := []string{
		"", " ", "=", " =", "v", "here", "here ", "moving", "moving 3", "moving 3 ", "gone", "gone 3", "gone 3 ",
		"Here 3", "HERE 3", "her 3", "heree 3", "there 3", " here 3", "here  3", "here\t3", "here 3\n", "here3", "moved 3 2", "3", "0 3", "1 3 2", "2 3 2",
		"here 3 ", "here 3 2", "here 3 2 ", "here 3 2=v", "here 3 =v", "here =v", "here 3 2  =v", "here 3  2 =v", "here 3 2 3 =v", "here 3 2 v", "here 3 2 v =v",
		"moving 3 2 ", "moving 3 2 1", "moving 3 2 1 ", "moving 3 =v", "moving 3 2 =v", "moving 3 2 1 2 =v", "moving  3 2", "moving 3  2",
		"gone 3 2 ", "gone 3 2 1", "gone 3 2 1 =v", "gone 3 2 =v", "gone 3 2 =", "gone 3 1 =", "gone =v", "gone 3 2 2",
		"here 1000000", "here 1000000 2 =v", "moving 1000000 2", "gone 1000000 2", "here 18446744073709551619",
		"here 3 0 =v", "here 3 1000000 =v", "here 3 18446744073709551618 =v", "moving 3 2 0 =v", "moving 3 2 1000000 =v",
		"moving 3 0", "moving 3 5", "moving 3 5 1 =v", "moving 3 0 1 =v", "moving 3 -1", "gone 3 0", "gone 3 5", "gone 3 9", "gone 3 18446744073709551618",
		"here 3 2 =" + many(api.MaxText+1), "moving 3 2 2 =" + many(api.MaxText+1), "here 3 2 =" + many(1000),
	}
	for _, n := range []string{"", "03", "00", "+3", "-3", "-0", "3.", "3e1", "0x3", "1_0", "x", "\u0663"} {
		for _, form := range []string{"here %s", "here %s 2 =v", "here 3 %s =v", "moving %s 2", "moving 3 %s", "moving 3 2 %s =v", "gone %s 2", "gone 3 %s"} {
			l = append(l, fmt.Sprintf(form, n))
		}
	}
	return l
}
