package wire_test

import (
	"fmt"
	"math"
	"testing"

	"quorate/api"
	"quorate/wire"
)

// pairs: so many, with rising keys.
func pairs(count int) (l []api.Pair) {
	for i := range count {
		l = append(l, api.Pair{Key: fmt.Sprintf("k%03d", i), Value: "v", Version: i + 1})
	}
	return l
}

// keys: so many, rising.
func keys(count int) (l []string) {
	for _, p := range pairs(count) {
		l = append(l, p.Key)
	}
	return l
}

// sessions: so many, with rising clients.
func sessions(count int) (l []api.Session) {
	for i := range count {
		l = append(l, api.Session{Client: i + 1})
	}
	return l
}

func TestP2_8Pairs(t *testing.T) {
	one := func(key, value string, version int) []api.Pair {
		return []api.Pair{{Key: key, Value: value, Version: version}}
	}
	two := func(a, b string) []api.Pair {
		return []api.Pair{{Key: a, Version: 1}, {Key: b, Version: 1}}
	}
	for _, x := range []struct {
		l    []api.Pair
		want bool
	}{
		{nil, true},
		{[]api.Pair{}, true},
		{pairs(32), true},
		{pairs(33), false},
		{pairs(1000), false},
		{one("k", "", 1), true},
		{one("", "", 1), false},
		{one(many(16), many(64), api.MaxNumber), true},
		{one(many(17), "", 1), false},
		{one("k", many(65), 1), false},
		{one("k", "", 0), false},
		{one("k", "", -1), false},
		{one("k", "", api.MaxNumber+1), false},
		{one("k", "", math.MaxInt), false},
		{one("k", "", math.MinInt), false},
		{two("a", "b"), true},
		{two("b", "a"), false},
		{two("a", "a"), false},
		{two("a", "aa"), true},
		{two("aa", "b"), true},
		{two("b", "aa"), false},
		{two("\x7f", "\x80"), true},
		{two("\x80", "\x7f"), false},
		{two("\x00", "\x00\x00"), true},
		{two("Z", "a"), true},
		{append(two("a", "b"), two("b", "c")...), false},
		{append(pairs(3), one("", "", 1)...), false},
	} {
		if wire.IsPairs(x.l) != x.want {
			t.Errorf("P2.8: IsPairs(%v) is not %v", x.l, x.want)
		}
		mayBeTable(t, api.Table{Pairs: x.l}, x.want)
	}
}

// results: and whether they may be.
func results() map[string]struct {
	r    api.Result
	want bool
} {
	type x = struct {
		r    api.Result
		want bool
	}
	return map[string]x{
		"nothing":                {api.Result{}, true},
		"Done":                   {api.Result{Kind: api.Done, Value: "v", Version: 3, Keys: []string{"a", "b"}}, true},
		"Lost":                   {api.Result{Kind: api.Lost}, true},
		"a kind above Lost":      {api.Result{Kind: 9}, false},
		"a kind below 0":         {api.Result{Kind: -1}, false},
		"the least kind":         {api.Result{Kind: math.MinInt}, false},
		"the greatest kind":      {api.Result{Kind: math.MaxInt}, false},
		"much value":             {api.Result{Value: many(64)}, true},
		"too much value":         {api.Result{Value: many(65)}, false},
		"the greatest version":   {api.Result{Version: api.MaxNumber}, true},
		"above it":               {api.Result{Version: api.MaxNumber + 1}, false},
		"a version below 0":      {api.Result{Version: -1}, false},
		"no keys":                {api.Result{Keys: []string{}}, true},
		"many keys":              {api.Result{Keys: keys(32)}, true},
		"too many keys":          {api.Result{Keys: keys(33)}, false},
		"far too many keys":      {api.Result{Keys: keys(999)}, false},
		"an empty key":           {api.Result{Keys: []string{""}}, true},
		"an empty key and one":   {api.Result{Keys: []string{"", "a"}}, true},
		"an empty key behind":    {api.Result{Keys: []string{"a", ""}}, false},
		"an empty key twice":     {api.Result{Keys: []string{"", ""}}, false},
		"a long key":             {api.Result{Keys: []string{many(16)}}, true},
		"too long a key":         {api.Result{Keys: []string{"a", many(17)}}, false},
		"keys that fall":         {api.Result{Keys: []string{"b", "a"}}, false},
		"keys that fall later":   {api.Result{Keys: []string{"a", "c", "b"}}, false},
		"a key twice":            {api.Result{Keys: []string{"a", "a"}}, false},
		"keys compared by bytes": {api.Result{Keys: []string{"\x7f", "\xff"}}, true},
	}
}

func TestP2_8Results(t *testing.T) {
	for name, x := range results() {
		if wire.IsResult(x.r) != x.want {
			t.Errorf("P2.8: %s: IsResult(%.200s) is not %v", name, tell(x.r), x.want)
		}
		mayBeTable(t, api.Table{Sessions: []api.Session{{Client: 1}, {Client: 2, Answer: x.r}}}, x.want)
	}
	for kind := range 9 {
		if !wire.IsResult(api.Result{Kind: kind}) {
			t.Errorf("P2.8: no result of kind %d", kind)
		}
	}
}

// mayBeTable: does IsTable say so, and PutTable?
func mayBeTable(t *testing.T, x api.Table, want bool) {
	t.Helper()
	if wire.IsTable(x) != want {
		t.Errorf("P2.8: IsTable(%.300s) is not %v", tell(x), want)
	}
	if want {
		written(t, "P2.8", x, wire.PutTable, wire.GetTable)
	} else {
		mayNotBe(t, "P2.8", x, wire.PutTable, api.ErrEntry)
	}
}

func TestP2_8Tables(t *testing.T) {
	session := func(time int, l ...api.Session) api.Table { return api.Table{Time: time, Sessions: l} }
	for _, x := range []struct {
		t    api.Table
		want bool
	}{
		{api.Table{}, true},
		{api.Table{Pairs: []api.Pair{}, Sessions: []api.Session{}}, true},
		{api.Table{Time: api.MaxNumber}, true},
		{api.Table{Time: api.MaxNumber + 1}, false},
		{api.Table{Time: -1}, false},
		{api.Table{Time: math.MinInt}, false},
		{session(0, sessions(8)...), true},
		{session(0, sessions(9)...), false},
		{session(0, sessions(500)...), false},
		{session(0, api.Session{Client: 0}), false},
		{session(0, api.Session{Client: -1}), false},
		{session(0, api.Session{Client: api.MaxNumber}), true},
		{session(0, api.Session{Client: api.MaxNumber + 1}), false},
		{session(0, api.Session{Client: 2}, api.Session{Client: 1}), false},
		{session(0, api.Session{Client: 2}, api.Session{Client: 2}), false},
		{session(0, api.Session{Client: 2}, api.Session{Client: 9}), true},
		{session(0, api.Session{Client: 1}, api.Session{Client: 3}, api.Session{Client: 2}), false},
		{session(0, api.Session{Client: 1, Last: api.MaxNumber}), true},
		{session(0, api.Session{Client: 1, Last: api.MaxNumber + 1}), false},
		{session(0, api.Session{Client: 1, Last: -1}), false},
		{session(5, api.Session{Client: 1, Seen: 5}), true},
		{session(5, api.Session{Client: 1, Seen: 4}), true},
		{session(5, api.Session{Client: 1, Seen: 6}), false},
		{session(5, api.Session{Client: 1, Seen: -1}), false},
		{session(api.MaxNumber, api.Session{Client: 1, Seen: api.MaxNumber}), true},
		{session(0, api.Session{Client: 1, Answer: api.Result{Kind: api.Done}}), true},
		{api.Table{Time: 1, Pairs: pairs(33), Sessions: sessions(1)}, false},
		{api.Table{Time: 1, Pairs: pairs(32), Sessions: sessions(8)}, true},
	} {
		mayBeTable(t, x.t, x.want)
	}
}

func TestP2_8TablesAsBytes(t *testing.T) {
	for _, x := range []struct {
		t      api.Table
		digits string
	}{
		{api.Table{}, "00 00 00"},
		{api.Table{Time: 300}, "AC02 00 00"},
		{api.Table{Time: 9, Pairs: []api.Pair{{Key: "a", Value: "vw", Version: 300}, {Key: "bc", Version: 1}}}, "09 02 01 61 02 7677 AC02 02 6263 00 01 00"},
		{api.Table{Time: 9, Sessions: []api.Session{
			{Client: 1},
			{Client: 300, Last: 4, Seen: 5, Answer: api.Result{Kind: 6, Value: "v", Version: 7, Keys: []string{"a", "bc"}}},
		}}, "09 00 02 01 00 00 00 00 00 00 AC02 04 05 06 01 76 07 02 01 61 02 6263"},
		{api.Table{Time: 9, Pairs: []api.Pair{{Key: "a", Version: 2}}, Sessions: []api.Session{{Client: 1, Last: 2, Seen: 3}}}, "09 01 01 61 00 02 01 01 02 03 00 00 00 00"},
	} {
		writes(t, "P2.8", x.t, x.digits, wire.PutTable, wire.GetTable)
	}
	greatest := api.Table{Time: api.MaxNumber}
	for i := range 32 {
		greatest.Pairs = append(greatest.Pairs, api.Pair{Key: fmt.Sprintf("%016d", i), Value: many(64), Version: api.MaxNumber})
	}
	var names []string
	for _, p := range greatest.Pairs {
		names = append(names, p.Key)
	}
	for i := range 8 {
		greatest.Sessions = append(greatest.Sessions, api.Session{Client: api.MaxNumber - 8 + i, Last: api.MaxNumber, Seen: api.MaxNumber, Answer: api.Result{Kind: api.Lost, Value: many(64), Version: api.MaxNumber, Keys: names}})
	}
	if s := written(t, "P2.8", greatest, wire.PutTable, wire.GetTable); len(s) > api.MaxState {
		t.Errorf("P2.8: the greatest table has %d bytes: no snapshot can hold it", len(s))
	}
}

func TestP2_8GetTable(t *testing.T) {
	wrongFirst(t, "P2.8", wire.GetTable)
	refusesAll(t, "P2.8", wire.GetTable, map[string]api.Errno{
		"00 8000":                           api.ErrBytes,
		"00 21":                             api.ErrBound,
		"00 20":                             api.ErrShort,
		"00 01 11":                          api.ErrBound,
		"00 01 01 61 41":                    api.ErrBound,
		"00 01 01 61 8000":                  api.ErrBytes,
		"00 01 01 61 00 8000":               api.ErrBytes,
		"00 01 00 41":                       api.ErrBound,
		"00 01 00 00 01 00":                 api.ErrEntry,
		"00 01 00 00 01":                    api.ErrShort,
		"00 01 01 61 00 00 00":              api.ErrEntry,
		"00 02 01 62 00 01 01 61 00 01 00":  api.ErrEntry,
		"00 02 01 61 00 01 01 61 00 01 00":  api.ErrEntry,
		"00 02 01 61 00 01 01 61 00 01 09":  api.ErrBound,
		"00 00 09":                          api.ErrBound,
		"00 00 08":                          api.ErrShort,
		"00 00 8000":                        api.ErrBytes,
		"00 00 00 00":                       api.ErrBytes,
		"00 00 01 8000":                     api.ErrBytes,
		"00 00 01 01 8000":                  api.ErrBytes,
		"00 00 01 01 00 8000":               api.ErrBytes,
		"00 00 01 01 00 00 8000":            api.ErrBytes,
		"00 00 01 01 00 00 00 41":           api.ErrBound,
		"00 00 01 01 00 00 00 00 8000":      api.ErrBytes,
		"00 00 01 01 00 00 00 00 00 21":     api.ErrBound,
		"00 00 01 01 00 00 00 00 00 01 11":  api.ErrBound,
		"00 00 01 01 00 00 00 00 00 01":     api.ErrShort,
		"00 00 01 00 00 00 00 00 00 00":     api.ErrEntry,
		"00 00 01 00 00 00 00 00 00 00 00":  api.ErrEntry,
		"00 00 01 01 00 01 00 00 00 00":     api.ErrEntry,
		"00 00 01 01 00 00 09 00 00 00":     api.ErrEntry,
		"00 00 01 01 00 00 09 00 00 21":     api.ErrBound,
		"00 00 01 01 00 00 00 00 00 00 00":  api.ErrBytes,
		"00 00 01 01 00 00 00 00 00 020000": api.ErrEntry,
		"00 00 02 02 00 00 00 00 00 00 01 00 00 00 00 00 00": api.ErrEntry,
		"00 00 02 01 00 00 00 00 00 00 01 00 00 00 00 00 00": api.ErrEntry,
	})
	for time := range 3 {
		s := wire.PutNumbers(time) + bytesOf("00 01 01 00 01 00 00 00 00")
		if x, e := wire.GetTable(s); (e == api.OK) != (time > 0) {
			t.Errorf("P2.8: Seen 1, Time %d: %+v, %v", time, x, e)
		}
	}
}

func TestP2_8ListsStay(t *testing.T) {
	x := api.Table{
		Pairs:    append(pairs(2), api.Pair{Key: "spare"})[:2],
		Sessions: append(sessions(2), api.Session{Client: 77})[:2],
	}
	x.Sessions[1].Answer.Keys = append(keys(2), "spare")[:2]
	before := fmt.Sprint(x.Pairs[:3], x.Sessions[:3], x.Sessions[1].Answer.Keys[:3])
	s := written(t, "P2.8", x, wire.PutTable, wire.GetTable)
	if after := fmt.Sprint(x.Pairs[:3], x.Sessions[:3], x.Sessions[1].Answer.Keys[:3]); after != before {
		t.Errorf("P2.8: what is handed in was changed: %s", after)
	}
	a, _ := wire.GetTable(s)
	b, _ := wire.GetTable(s)
	a.Pairs[0].Key, a.Sessions[0].Client, a.Sessions[1].Answer.Keys[0] = "z", 9, "z"
	if tell(b) != tell(x) {
		t.Errorf("P2.8: two answers share memory: %+v", b)
	}
}
