package wire_test

import (
	"math"
	"testing"

	"quorate/api"
	"quorate/wire"
)

// isCommand: P2.2, from a list of what each kind may have.
func isCommand(c api.Command) bool {
	rules := map[int]struct{ leastKey, mostValue, mostIf int }{
		api.Put:    {1, 64, 0},
		api.Get:    {1, 0, 0},
		api.Delete: {1, 0, 0},
		api.Swap:   {1, 64, 1<<40 - 1},
		api.Append: {1, 64, 0},
		api.List:   {0, 0, 1<<40 - 1},
	}
	rule, ok := rules[c.Kind]
	return ok && len(c.Key) >= rule.leastKey && len(c.Key) <= 16 && len(c.Value) <= rule.mostValue && c.If >= 0 && c.If <= rule.mostIf
}

// commands: at all edges.
func commands() (l []api.Command) {
	for _, kind := range []int{math.MinInt, -1, 0, 1, 2, 3, 4, 5, 6, 7, 8, math.MaxInt} {
		for _, key := range []int{0, 1, 15, 16, 17, 300} {
			for _, value := range []int{0, 1, 63, 64, 65, 300} {
				for _, version := range []int{math.MinInt, -1, 0, 1, api.MaxNumber, api.MaxNumber + 1, math.MaxInt} {
					l = append(l, api.Command{Kind: kind, Key: many(key), Value: many(value), If: version})
				}
			}
		}
	}
	return l
}

func TestP2_2Commands(t *testing.T) {
	for _, c := range commands() {
		if wire.IsCommand(c) != isCommand(c) {
			t.Errorf("P2.2: IsCommand(%+v) is not %v", c, isCommand(c))
		}
	}
	if wire.IsCommand(api.Command{}) {
		t.Error("P2.2: nothing is a command")
	}
}

func TestP2_3Requests(t *testing.T) {
	for _, x := range []struct {
		q      api.Request
		digits string
	}{
		{api.Request{}, "00 00 00"},
		{api.Request{Number: 300}, "00 AC 02 00"},
		{api.Request{Number: api.MaxNumber, Time: 128}, "00 FFFFFFFFFF1F 80 01"},
		{api.Request{Client: 2, Number: 1, Time: 7, Command: api.Command{Kind: api.Append, Key: "k", Value: "v"}}, "02 01 07 05 01 6B 01 76 00"},
		{api.Request{Client: 2, Command: api.Command{Kind: api.Swap, Key: "kk", Value: "", If: 300}}, "02 00 00 04 02 6B6B 00 AC02"},
		{api.Request{Client: api.MaxNumber, Number: api.MaxNumber, Time: api.MaxNumber, Command: api.Command{Kind: api.List, If: api.MaxNumber}}, "FFFFFFFFFF1F FFFFFFFFFF1F FFFFFFFFFF1F 06 00 00 FFFFFFFFFF1F"},
		{api.Request{Client: 1, Command: api.Command{Kind: api.Put, Key: many(16), Value: many(64)}}, "01 00 00 01 10" + manyHex(16) + "40" + manyHex(64) + "00"},
		{api.Request{Client: 1, Command: api.Command{Kind: api.Get, Key: "\x00"}}, "01 00 00 02 01 00 00 00"},
		{api.Request{Client: 1, Command: api.Command{Kind: api.Delete, Key: "\xff\xfe"}}, "01 00 00 03 02 FFFE 00 00"},
	} {
		writes(t, "P2.3", x.q, x.digits, wire.PutRequest, wire.GetRequest)
	}
}

func TestP2_3RequestsRefused(t *testing.T) {
	for _, c := range commands() {
		q := api.Request{Client: 3, Number: 1, Time: 2, Command: c}
		if s, e := wire.PutRequest(q); (e == api.OK) != isCommand(c) || e != api.OK && (e != api.ErrCommand || s != "") {
			t.Errorf("P2.3: PutRequest(%+v): % x, %v", q, s, e)
		}
		q.Client = 0
		if c != (api.Command{}) {
			mayNotBe(t, "P2.3", q, wire.PutRequest, api.ErrCommand)
		}
	}
	for _, c := range []api.Command{{Kind: 1}, {Key: "k"}, {Value: "v"}, {If: 1}, {Kind: api.Put, Key: "k"}} {
		mayNotBe(t, "P2.3", api.Request{Command: c}, wire.PutRequest, api.ErrCommand)
	}
	mayNotBe(t, "P2.3", api.Request{Client: 1}, wire.PutRequest, api.ErrCommand)
	get := api.Command{Kind: api.Get, Key: "k"}
	for _, n := range wrongNumbers {
		mayNotBe(t, "P2.3", api.Request{Client: n, Command: get}, wire.PutRequest, api.ErrCommand)
		mayNotBe(t, "P2.3", api.Request{Client: n}, wire.PutRequest, api.ErrCommand)
		mayNotBe(t, "P2.3", api.Request{Client: 1, Number: n, Command: get}, wire.PutRequest, api.ErrCommand)
		mayNotBe(t, "P2.3", api.Request{Client: 1, Time: n, Command: get}, wire.PutRequest, api.ErrCommand)
		mayNotBe(t, "P2.3", api.Request{Number: n}, wire.PutRequest, api.ErrCommand)
		mayNotBe(t, "P2.3", api.Request{Time: n}, wire.PutRequest, api.ErrCommand)
	}
}

func TestP2_3GetRequest(t *testing.T) {
	wrongFirst(t, "P2.3", wire.GetRequest)
	refusesAll(t, "P2.3", wire.GetRequest, map[string]api.Errno{
		"00 8000":                    api.ErrBytes,
		"00 00 8000":                 api.ErrBytes,
		"00 00 00 01":                api.ErrBytes,
		"00 00 00 02 01 6B 00 00":    api.ErrBytes,
		"01 00 00":                   api.ErrShort,
		"01 00 00 02 01":             api.ErrShort,
		"01 00 00 02 11":             api.ErrBound,
		"01 00 00 02 FFFFFFFFFF1F":   api.ErrBound,
		"01 00 00 02 8000":           api.ErrBytes,
		"01 00 00 01 01 6B 41":       api.ErrBound,
		"01 00 00 01 01 6B 40":       api.ErrShort,
		"01 00 00 01 01 6B 00":       api.ErrShort,
		"01 00 00 01 01 6B 00 8000":  api.ErrBytes,
		"01 00 00 00 11":             api.ErrBound,
		"01 00 00 00 00 00 00":       api.ErrCommand,
		"01 00 00 07 01 6B 00 00":    api.ErrCommand,
		"01 00 00 07 01 6B 00":       api.ErrShort,
		"01 00 00 02 00 00 00":       api.ErrCommand,
		"01 00 00 02 01 6B 01 76 00": api.ErrCommand,
		"01 00 00 02 01 6B 00 01":    api.ErrCommand,
		"01 00 00 02 01 6B 00 01 00": api.ErrCommand,
		"01 00 00 02 01 6B 00 00 00": api.ErrBytes,
		"01 00 00 02 01 6B 00 00 80": api.ErrBytes,
		"01 00 00 06 00 01 76 00":    api.ErrCommand,
		"01 00 00 FFFFFFFFFF1F 01":   api.ErrShort,
	})
}
