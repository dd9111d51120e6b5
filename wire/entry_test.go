package wire_test

import (
	"math"
	"testing"

	"quorate/api"
	"quorate/wire"
)

func TestP2_4Entries(t *testing.T) {
	for _, x := range []struct {
		e      api.Entry
		digits string
	}{
		{api.Entry{Index: 1, Term: 1}, "01 01 00 00"},
		{api.Entry{Index: 300, Term: 2, Kind: api.Ask, Data: "ab"}, "AC02 02 01 02 6162"},
		{api.Entry{Index: 1, Term: 1, Kind: api.Ask}, "01 01 01 00"},
		{api.Entry{Index: api.MaxNumber, Term: api.MaxNumber, Kind: api.Change, Data: "no configuration"}, "FFFFFFFFFF1F FFFFFFFFFF1F 02 10 6E6F20636F6E66696775726174696F6E"},
		{api.Entry{Index: 2, Term: 1, Kind: api.Ask, Data: many(256)}, "02 01 01 8002" + manyHex(256)},
		{api.Entry{Index: 2, Term: 1, Kind: api.Change, Data: many(256)}, "02 01 02 8002" + manyHex(256)},
	} {
		if !wire.IsEntry(x.e) {
			t.Errorf("P2.4: not IsEntry(%+v)", x.e)
		}
		writes(t, "P2.4", x.e, x.digits, wire.PutEntry, wire.GetEntry)
	}
}

func TestP2_4EntriesRefused(t *testing.T) {
	l := []api.Entry{
		{},
		{Index: 1},
		{Term: 1},
		{Index: 1, Term: 1, Kind: 3},
		{Index: 1, Term: 1, Kind: -1},
		{Index: 1, Term: 1, Kind: math.MaxInt, Data: "d"},
		{Index: 1, Term: 1, Data: "d"},
		{Index: 1, Term: 1, Kind: api.Ask, Data: many(257)},
		{Index: 1, Term: 1, Kind: api.Change, Data: many(257)},
		{Index: 1, Term: 1, Kind: api.Ask, Data: many(100000)},
	}
	for _, n := range wrongNumbers {
		l = append(l, api.Entry{Index: n, Term: 1}, api.Entry{Index: 1, Term: n})
	}
	for _, e := range l {
		if wire.IsEntry(e) {
			t.Errorf("P2.4: IsEntry(%.200s)", tell(e))
		}
		mayNotBe(t, "P2.4", e, wire.PutEntry, api.ErrEntry)
	}
}

func TestP2_4GetEntry(t *testing.T) {
	wrongFirst(t, "P2.4", wire.GetEntry)
	refusesAll(t, "P2.4", wire.GetEntry, map[string]api.Errno{
		"01 8000":                 api.ErrBytes,
		"01 01 8000":              api.ErrBytes,
		"01 01 00 8000":           api.ErrBytes,
		"01 01 01 8102":           api.ErrBound,
		"00 01 01 8102":           api.ErrBound,
		"01 01 01 8002":           api.ErrShort,
		"00 01 03":                api.ErrShort,
		"00 01 01 00":             api.ErrEntry,
		"01 00 01 00":             api.ErrEntry,
		"01 01 03 00":             api.ErrEntry,
		"01 01 FFFFFFFFFF1F 00":   api.ErrEntry,
		"01 01 00 01 61":          api.ErrEntry,
		"01 01 00 01 61 00":       api.ErrEntry,
		"00 00 00 00 00":          api.ErrEntry,
		"01 01 00 00 00":          api.ErrBytes,
		"01 01 01 01 61 61":       api.ErrBytes,
		"FFFFFFFFFF20 01 00 00":   api.ErrBytes,
		"01 80808080808001 00 00": api.ErrBytes,
	})
}

func TestP2_5Configurations(t *testing.T) {
	nine := []int{1, 2, 3, 4, 5, 6, 7, 8, 9}
	for _, x := range []struct {
		c      api.Config
		digits string
	}{
		{api.Config{Voters: []int{1}}, "01 01 00 00"},
		{api.Config{Voters: []int{1, 2, 3}, Next: []int{2, 3, 4}, Learners: []int{5}}, "03 010203 03 020304 01 05"},
		{api.Config{Voters: []int{9}, Next: []int{}, Learners: []int{1, 8}}, "01 09 00 02 0108"},
		{api.Config{Voters: nine, Next: nine}, "09 010203040506070809 09 010203040506070809 00"},
		{api.Config{Voters: nine[:1], Learners: nine[1:]}, "01 01 00 08 0203040506070809"},
	} {
		writes(t, "P2.5", x.c, x.digits, wire.PutConfig, wire.GetConfig)
	}
	for _, c := range []api.Config{
		{},
		{Next: []int{1}},
		{Voters: []int{2, 1}},
		{Voters: []int{1, 1}},
		{Voters: []int{0}},
		{Voters: []int{10}},
		{Voters: []int{math.MinInt}},
		{Voters: []int{1}, Next: []int{3, 2}},
		{Voters: []int{1}, Next: []int{10}},
		{Voters: []int{1}, Learners: []int{1}},
		{Voters: []int{1}, Next: []int{2}, Learners: []int{2}},
		{Voters: make([]int, 1000)},
	} {
		mayNotBe(t, "P2.5", c, wire.PutConfig, api.ErrConfig)
	}
}

func TestP2_5GetConfig(t *testing.T) {
	wrongFirst(t, "P2.5", wire.GetConfig)
	refusesAll(t, "P2.5", wire.GetConfig, map[string]api.Errno{
		"0A":                             api.ErrBound,
		"FFFFFFFFFF1F":                   api.ErrBound,
		"01 01 0A":                       api.ErrBound,
		"01 01 00 0A":                    api.ErrBound,
		"09 01020304050607080A 00":       api.ErrShort,
		"00 0A":                          api.ErrBound,
		"00 00 0A":                       api.ErrBound,
		"00 00":                          api.ErrShort,
		"02 0201 00":                     api.ErrShort,
		"01 8000":                        api.ErrBytes,
		"01 01 8000":                     api.ErrBytes,
		"01 01 00 8000":                  api.ErrBytes,
		"00 00 00":                       api.ErrConfig,
		"00 01 01 00":                    api.ErrConfig,
		"00 00 00 00":                    api.ErrConfig,
		"01 00 00 00":                    api.ErrConfig,
		"01 0A 00 00":                    api.ErrConfig,
		"01 FFFFFFFFFF1F 00 00":          api.ErrConfig,
		"02 0201 00 00":                  api.ErrConfig,
		"02 0101 00 00":                  api.ErrConfig,
		"01 01 02 0302 00":               api.ErrConfig,
		"01 01 00 01 01":                 api.ErrConfig,
		"01 01 01 02 01 02":              api.ErrConfig,
		"01 01 00 00 00":                 api.ErrBytes,
		"09 010203040506070809 00 01 01": api.ErrConfig,
		"0A 0102030405060708090A 00 00":  api.ErrBound,
		"01 01 0A 0102030405060708090A":  api.ErrBound,
		"02 0101 02 0101 02 0101 000000": api.ErrConfig,
	})
}

func TestP2_5NewMemory(t *testing.T) {
	s := bytesOf("02 0102 02 0102 01 05")
	a, _ := wire.GetConfig(s)
	b, _ := wire.GetConfig(s)
	voters := a.Voters[:cap(a.Voters)]
	for i := range voters {
		voters[i] = 88
	}
	if tell(b) != "{Voters:[1 2] Next:[1 2] Learners:[5]}" || tell(a.Next) != "[1 2]" || tell(a.Learners) != "[5]" {
		t.Errorf("P2.5: lists share memory: %+v, %+v", a, b)
	}
}

func TestP2_6Snapshots(t *testing.T) {
	one := api.Config{Voters: []int{1}}
	joint := api.Config{Voters: []int{1, 2}, Next: []int{3}, Learners: []int{4}}
	for _, x := range []struct {
		s      api.Snapshot
		digits string
	}{
		{api.Snapshot{Index: 1, Term: 1, Config: one}, "01 01 01 01 00 00 00"},
		{api.Snapshot{Index: 300, Term: 2, Config: joint, Data: "ab"}, "AC02 02 02 0102 01 03 01 04 02 6162"},
		{api.Snapshot{Index: api.MaxNumber, Term: api.MaxNumber, Config: one, Data: many(8192)}, "FFFFFFFFFF1F FFFFFFFFFF1F 01 01 00 00 8040" + manyHex(8192)},
	} {
		writes(t, "P2.6", x.s, x.digits, wire.PutSnapshot, wire.GetSnapshot)
	}
}

func TestP2_6SnapshotsRefused(t *testing.T) {
	one := api.Config{Voters: []int{1}}
	l := []api.Snapshot{
		{},
		{Index: 1, Term: 1},
		{Index: 0, Term: 1, Config: one},
		{Index: 1, Term: 0, Config: one},
		{Index: 1, Term: 1, Config: api.Config{Voters: []int{2, 1}}},
		{Index: 1, Term: 1, Config: api.Config{Voters: []int{1}, Learners: []int{1}}},
		{Index: 1, Term: 1, Config: one, Data: many(8193)},
	}
	for _, n := range wrongNumbers {
		l = append(l, api.Snapshot{Index: n, Term: 1, Config: one}, api.Snapshot{Index: 1, Term: n, Config: one})
	}
	for _, x := range l {
		mayNotBe(t, "P2.6", x, wire.PutSnapshot, api.ErrEntry)
	}
}

func TestP2_6GetSnapshot(t *testing.T) {
	wrongFirst(t, "P2.6", wire.GetSnapshot)
	refusesAll(t, "P2.6", wire.GetSnapshot, map[string]api.Errno{
		"01 8000":                       api.ErrBytes,
		"01 01 0A":                      api.ErrBound,
		"01 01 01 01 0A":                api.ErrBound,
		"01 01 01 01 00 0A":             api.ErrBound,
		"01 01 01 01 00 00 8140":        api.ErrBound,
		"00 01 01 01 00 00 8140":        api.ErrBound,
		"01 01 01 01 00 00 8040":        api.ErrShort,
		"00 01 01 01 00 00":             api.ErrShort,
		"01 01 01 01 00 00 8000":        api.ErrBytes,
		"00 01 01 01 00 00 00":          api.ErrEntry,
		"01 00 01 01 00 00 00":          api.ErrEntry,
		"00 01 01 01 00 00 00 00":       api.ErrEntry,
		"01 01 01 01 00 00 00 00":       api.ErrBytes,
		"01 01 00 00 00 00":             api.ErrConfig,
		"01 01 00 00 00":                api.ErrConfig,
		"01 01 00 00 00 8000":           api.ErrConfig,
		"01 01 00 00 00 8140":           api.ErrConfig,
		"00 00 00 00 00 00":             api.ErrConfig,
		"01 01 01 01 00 01 01 00":       api.ErrConfig,
		"01 01 02 0201 00 00 05":        api.ErrConfig,
		"01 01 01 0A 00 00 00 00 00 00": api.ErrConfig,
		"01 01 00 00":                   api.ErrShort,
	})
}
