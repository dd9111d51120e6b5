package front_test

import (
	"fmt"
	"math"
	"strings"
	"testing"

	"quorate/api"
	"quorate/front"
)

func TestP13_2Commands(t *testing.T) {
	for line, c := range map[string]api.Command{
		"put a b":                   {Kind: api.Put, Key: "a", Value: "b"},
		`put a ""`:                  {Kind: api.Put, Key: "a"},
		"get a":                     {Kind: api.Get, Key: "a"},
		"del a":                     {Kind: api.Delete, Key: "a"},
		"swap a b 0":                {Kind: api.Swap, Key: "a", Value: "b"},
		"swap a b 1099511627775":    {Kind: api.Swap, Key: "a", Value: "b", If: api.MaxNumber},
		`swap "a\x01" "" 3`:         {Kind: api.Swap, Key: "a\x01", If: 3},
		"app a b":                   {Kind: api.Append, Key: "a", Value: "b"},
		`app a ""`:                  {Kind: api.Append, Key: "a"},
		"list":                      {Kind: api.List},
		"list a":                    {Kind: api.List, Key: "a"},
		"list a 1":                  {Kind: api.List, Key: "a", If: 1},
		`list "" 1`:                 {Kind: api.List, If: 1},
		`list " " 20`:               {Kind: api.List, Key: " ", If: 20},
		`list " "`:                  {Kind: api.List, Key: " "},
		`put "a b" "c  d"`:          {Kind: api.Put, Key: "a b", Value: "c  d"},
		`put "\"" "\\"`:             {Kind: api.Put, Key: `"`, Value: `\`},
		`put a "\\x41\\\"\\"`:       {Kind: api.Put, Key: "a", Value: `\x41\"\`},
		"get A-b_c./9":              {Kind: api.Get, Key: "A-b_c./9"},
		`get "a,b"`:                 {Kind: api.Get, Key: "a,b"},
		`get "\xc3\xa9"`:            {Kind: api.Get, Key: "é"},
		`get "\xff\x00\x10\x0f"`:    {Kind: api.Get, Key: "\xff\x00\x10\x0f"},
		"put get del":               {Kind: api.Put, Key: "get", Value: "del"},
		"get " + many(api.MaxKey):   {Kind: api.Get, Key: many(api.MaxKey)},
		"put a " + many(64):         {Kind: api.Put, Key: "a", Value: many(64)},
		"list " + many(16) + " 999": {Kind: api.List, Key: many(16), If: 999},
	} {
		formats(t, "P13.2", c, line)
	}
}

// Each byte, alone and among others, in a key and in a value.
func TestP13_2EachByte(t *testing.T) {
	const plain = "abcdefghijklmnopqrstuvwxyzABCDEFGHIJKLMNOPQRSTUVWXYZ0123456789._/-"
	for b := range 256 {
		s := string([]byte{byte(b)})
		said := s
		switch {
		case b < 32 || b > 126:
			said = fmt.Sprintf(`\x%02x`, b)
		case s == `"` || s == `\`:
			said = `\` + s
		}
		one, more := `"`+said+`"`, `"a`+said+said+`b"`
		if strings.Contains(plain, s) {
			one, more = s, "a"+s+s+"b"
		}
		formats(t, "P13.2", api.Command{Kind: api.Get, Key: s}, "get "+one)
		formats(t, "P13.2", api.Command{Kind: api.Put, Key: "a" + s + s + "b", Value: s}, "put "+more+" "+one)
	}
}

func TestP13_2Refused(t *testing.T) {
	for _, c := range []api.Command{
		{},
		{Kind: -1, Key: "a"},
		{Kind: 0, Key: "a"},
		{Kind: 7, Key: "a"},
		{Kind: math.MinInt, Key: "a"},
		{Kind: math.MaxInt, Key: "a"},
		{Kind: api.Put},
		{Kind: api.Get},
		{Kind: api.Delete},
		{Kind: api.Swap},
		{Kind: api.Append},
		{Kind: api.Get, Key: many(17)},
		{Kind: api.List, Key: many(17)},
		{Kind: api.Put, Key: "a", Value: many(65)},
		{Kind: api.Get, Key: "a", Value: "v"},
		{Kind: api.Delete, Key: "a", Value: "v"},
		{Kind: api.List, Key: "a", Value: "v"},
		{Kind: api.Put, Key: "a", If: 1},
		{Kind: api.Get, Key: "a", If: 1},
		{Kind: api.Swap, Key: "a", If: -1},
		{Kind: api.Swap, Key: "a", If: api.MaxNumber + 1},
		{Kind: api.List, If: -1},
		{Kind: api.List, If: math.MinInt},
	} {
		if s, e := front.Format(c); s != "" || e != api.ErrCommand {
			t.Errorf("P13.2: Format(%+v): %q, %d", c, s, e)
		}
	}
}
