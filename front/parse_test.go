package front_test

import (
	"strconv"
	"strings"
	"testing"

	"quorate/api"
)

func TestP13_1Commands(t *testing.T) {
	for line, want := range map[string]api.Command{
		"put a b":          {Kind: api.Put, Key: "a", Value: "b"},
		"get a":            {Kind: api.Get, Key: "a"},
		"del a":            {Kind: api.Delete, Key: "a"},
		"swap a b 3":       {Kind: api.Swap, Key: "a", Value: "b", If: 3},
		"swap a b 0":       {Kind: api.Swap, Key: "a", Value: "b"},
		"app a b":          {Kind: api.Append, Key: "a", Value: "b"},
		"list":             {Kind: api.List},
		"list a":           {Kind: api.List, Key: "a"},
		"list a 3":         {Kind: api.List, Key: "a", If: 3},
		"list a 0":         {Kind: api.List, Key: "a"},
		`list ""`:          {Kind: api.List},
		`list "" 10`:       {Kind: api.List, If: 10},
		`swap a "b c" 3`:   {Kind: api.Swap, Key: "a", Value: "b c", If: 3},
		`put a ""`:         {Kind: api.Put, Key: "a"},
		`app a ""`:         {Kind: api.Append, Key: "a"},
		`swap a "" 7`:      {Kind: api.Swap, Key: "a", If: 7},
		"put put put":      {Kind: api.Put, Key: "put", Value: "put"},
		"put 3 4":          {Kind: api.Put, Key: "3", Value: "4"},
		"get !#$%&'()*+,":  {Kind: api.Get, Key: "!#$%&'()*+,"},
		"get :;<=>?@[]^`{": {Kind: api.Get, Key: ":;<=>?@[]^`{"},
		"get |}~":          {Kind: api.Get, Key: "|}~"},
	} {
		parses(t, "P13.1", line, want)
	}
}

func TestP13_1Blanks(t *testing.T) {
	want := api.Command{Kind: api.Put, Key: "a", Value: "b"}
	for _, line := range []string{" put a b", "put a b ", "put  a   b", "   put    a     b      ", `  "put"  "a"  "b"  `} {
		parses(t, "P13.1", line, want)
	}
	parses(t, "P13.1", `put " " "  a  "`, api.Command{Kind: api.Put, Key: " ", Value: "  a  "})
	for _, line := range []string{"", " ", "     "} {
		refuses(t, "P13.1", line, len(line), api.ErrCommand)
	}
}

// A word says the same with and without quotes, a verb and a number too.
func TestP13_1Quotes(t *testing.T) {
	for line, key := range map[string]string{
		`get "a"`:                      "a",
		`"get" a`:                      "a",
		`get "a b"`:                    "a b",
		`get "a\"b"`:                   `a"b`,
		`get "\\"`:                     `\`,
		`get "\\\""`:                   `\"`,
		`get "\\x41"`:                  `\x41`,
		`get "\x00\x0a\x1f\x7f\x80"`:   "\x00\n\x1f\x7f\x80",
		`get "\xff\xab\xcd\xef\x09"`:   "\xff\xab\xcd\xef\t",
		`get "\x61\x5c\x22\x20"`:       `a\" `,
		`get "\x41B"`:                  "AB",
		`"\x67et" a`:                   "a",
		`get "0123456789abcdef"`:       "0123456789abcdef",
		`get "\x30123456789abcde\x66"`: "0123456789abcdef",
	} {
		parses(t, "P13.1", line, api.Command{Kind: api.Get, Key: key})
	}
	parses(t, "P13.1", `swap a b "12"`, api.Command{Kind: api.Swap, Key: "a", Value: "b", If: 12})
	parses(t, "P13.1", `list a "\x31"`, api.Command{Kind: api.List, Key: "a", If: 1})
}

// A byte that may not stand in a line is told ahead of all else, wherever it is.
func TestP13_1BytesOfALine(t *testing.T) {
	for b := range 256 {
		if b >= 32 && b <= 126 {
			continue
		}
		s := string([]byte{byte(b)})
		for line, place := range map[string]int{
			s:                       0,
			"get a" + s:             5,
			"get " + s + "\x00":     4,
			`get "` + s + `"`:       5,
			`get "a"b` + s:          8,
			`g"et \ "\q" "` + s:     13,
			"no such words at" + s:  16,
			"put a b " + s + s + s:  8,
			`get "\x4` + s + `1"`:   8,
			`get "\` + s + `"`:      6,
			strings.Repeat(s, 1000): 0,
		} {
			refuses(t, "P13.1", line, place, api.ErrBytes)
		}
	}
	for b := 32; b <= 126; b++ {
		if b == '"' || b == '\\' {
			continue
		}
		s := string([]byte{byte(b)})
		parses(t, "P13.1", `get "`+s+`"`, api.Command{Kind: api.Get, Key: s})
		if b != ' ' {
			parses(t, "P13.1", "get "+s, api.Command{Kind: api.Get, Key: s})
		}
	}
}

func TestP13_1WrongQuotes(t *testing.T) {
	for line, place := range map[string]int{
		`get a"b`:         5, // a quote in a word that begins otherwise
		`get a"`:          5,
		`get a""`:         5,
		`ge"t" a`:         2,
		`get a\b`:         5, // a backslash there
		`get \a`:          4,
		`get \`:           4,
		`\`:               0,
		`get a\x41`:       5,
		`get \"a"`:        4,
		`get a\"b`:        5,
		`put "a`:          4, // a quote that is not ended
		`put "`:           4,
		`"`:               0,
		`"put a b`:        0,
		`get "a\"`:        4,
		`get "a\\\"`:      4,
		`get "a\x41`:      4,
		`get "a" "b`:      8,
		`get "a "b`:       8, // what stands behind an ending one
		`get "a"b`:        7,
		`get "a""b"`:      7,
		`get ""a`:         6,
		`get """`:         6,
		`get "a"\`:        7,
		`"get"a`:          5,
		`get "a\q"`:       6, // a backslash with something else behind it
		`get "\`:          5,
		`get "\x`:         5,
		`get "\x4`:        5,
		`get "\x"`:        5,
		`get "\x4"`:       5,
		`get "\x4g"`:      5,
		`get "\xg4"`:      5,
		`get "\xAB"`:      5,
		`get "\xaB"`:      5,
		`get "\xAb"`:      5,
		`get "\X41"`:      5,
		`get "\x 1"`:      5,
		`get "\x1 "`:      5,
		`get "\n"`:        5,
		`get "\t"`:        5,
		`get "\ "`:        5,
		`get "\u0041"`:    5,
		`get "ab\q`:       7, // it is told ahead of the missing end
		`get "ab\" \q`:    10,
		`get "ab\\\q`:     9,
		`get "a\q" b"c`:   6, // from the left
		`get a"b "\q" "c`: 5,
		`get "a" b\c "`:   9,
		`get "a"b "\q"`:   7,
	} {
		refuses(t, "P13.1", line, place, api.ErrBytes)
	}
}

// Wrong bytes are told ahead of wrong words, even ahead of words that stand further left.
func TestP13_1BytesAheadOfWords(t *testing.T) {
	for line, place := range map[string]int{`no a"b`: 4, `get a b c d "`: 12, `get "" "\q"`: 8, `swap a b 01 "a"b`: 15, `done x y "`: 9, ` \`: 1} {
		refuses(t, "P13.1", line, place, api.ErrBytes)
	}
}

func TestP13_1WrongWords(t *testing.T) {
	for line, place := range map[string]int{
		"no":               0, // no such word
		"  no a b":         2,
		"GET a":            0,
		"Get a":            0,
		"gets a":           0,
		"ge a":             0,
		`"" a`:             0,
		`""`:               0,
		`"get " a`:         0,
		"delete a":         0,
		"append a b":       0,
		"1 a":              0,
		"none 1 a":         0,
		"done":             0,
		`get ""`:           4, // keys
		`del ""`:           4,
		`put "" v`:         4,
		`swap "" v 1`:      5,
		`app "" v`:         4,
		"swap a b 01":      9, // numbers
		"swap a b -1":      9,
		"swap a b -0":      9,
		"swap a b +1":      9,
		"swap a b 1a":      9,
		"swap a b 0x1":     9,
		"swap a b 1_0":     9,
		"swap a b 1.0":     9,
		"swap a b 00":      9,
		`swap a b ""`:      9,
		`swap a b " 1"`:    9,
		`swap a b "1 "`:    9,
		"list a b":         7,
		"list a 01":        7,
		"get a b":          6, // one too many
		"del a b c":        6,
		"put a b c":        8,
		"put a b  c d":     9,
		"app a b 1":        8,
		"swap a b 1 2":     11,
		"list a 1 2":       9,
		`get a ""`:         6,
		`list "" 1  "a"  `: 11,
		"put":              3, // too few
		"put a":            5,
		"put   a  ":        9,
		"get":              3,
		"get  ":            5,
		"del":              3,
		"app":              3,
		"app a":            5,
		"swap":             4,
		"swap a":           6,
		"swap a b":         8,
		"swap a b ":        9,
		`swap "a" "b"`:     12,
	} {
		noCommand(t, "P13.1", line, place, api.ErrCommand)
	}
}

// What is wrong further left is told, a word ahead of those that are missing.
func TestP13_1FromTheLeft(t *testing.T) {
	for line, place := range map[string]int{
		"no":                                0,
		`no "" 01 x y`:                      0,
		`get "" x`:                          4,
		`put ""`:                            4,
		"put " + many(17):                   4,
		"swap a " + many(65):                7,
		"swap " + many(17) + " " + many(65): 5,
		"swap a " + many(65) + " x y":       7,
		"swap a b x y":                      9,
		"list " + many(17) + " x":           5,
		"list a x y":                        7,
		"put a " + many(65) + " c":          6,
		"get " + many(17) + " " + many(17) + " x": 4,
	} {
		noCommand(t, "P13.1", line, place, api.ErrCommand)
	}
}

func TestP13_1Limits(t *testing.T) {
	key, value := many(api.MaxKey), many(api.MaxValue)
	most := strconv.Itoa(api.MaxNumber)
	parses(t, "P13.1", "swap "+key+" "+value+" "+most, api.Command{Kind: api.Swap, Key: key, Value: value, If: api.MaxNumber})
	parses(t, "P13.1", "list "+key+" "+most, api.Command{Kind: api.List, Key: key, If: api.MaxNumber})
	for _, verb := range []string{"put", "get", "del", "swap", "app", "list"} {
		noCommand(t, "P13.1", verb+" "+many(api.MaxKey+1)+" a 1", len(verb)+1, api.ErrCommand)
	}
	for _, verb := range []string{"put", "app", "swap"} {
		noCommand(t, "P13.1", verb+" a "+many(api.MaxValue+1)+" 1", len(verb)+3, api.ErrCommand)
	}
	for _, number := range []string{strconv.Itoa(api.MaxNumber + 1), "9223372036854775807", "9223372036854775808", "18446744073709551616", "18446744073709551617", strings.Repeat("9", 5000)} {
		noCommand(t, "P13.1", "swap a b "+number, 9, api.ErrCommand)
		noCommand(t, "P13.1", "list a "+number, 7, api.ErrCommand)
	}
}

// What a word says is measured, not how it is said.
func TestP13_1LengthsOfWhatIsSaid(t *testing.T) {
	long := strings.Repeat(`\x00`, api.MaxKey)
	parses(t, "P13.1", `get "`+long+`"`, api.Command{Kind: api.Get, Key: strings.Repeat("\x00", api.MaxKey)})
	noCommand(t, "P13.1", `get "`+long+`\\"`, 4, api.ErrCommand)
	wide := strings.Repeat(`\"`, api.MaxValue)
	parses(t, "P13.1", `put a "`+wide+`"`, api.Command{Kind: api.Put, Key: "a", Value: strings.Repeat(`"`, api.MaxValue)})
	noCommand(t, "P13.1", `put a "`+wide+` "`, 6, api.ErrCommand)
}
