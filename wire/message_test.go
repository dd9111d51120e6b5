package wire_test

import (
	"math"
	"slices"
	"testing"

	"quorate/api"
	"quorate/wire"
)

func entries(first int, terms ...int) (l []api.Entry) {
	for i, term := range terms {
		l = append(l, api.Entry{Index: first + i, Term: term})
	}
	return l
}

// goodSnapshot: at index 7, of term 2.
func goodSnapshot() api.Snapshot {
	return api.Snapshot{Index: 7, Term: 2, Config: api.Config{Voters: []int{1, 2}}, Data: "s"}
}

// goodMessages: one of each kind that has all that it can have, by their kinds.
func goodMessages() []api.Message {
	l := []api.Message{
		{Kind: api.PreVote, Index: 4, LogTerm: 2},
		{Kind: api.PreVoteReply, Reject: true},
		{Kind: api.Vote, Index: 4, LogTerm: 2},
		{Kind: api.VoteReply, Reject: true},
		{Kind: api.AppendEntries, Index: 4, LogTerm: 2, Commit: 5, Context: 6, Entries: entries(5, 2, 3)},
		{Kind: api.AppendReply, Index: 4, Reject: true, Hint: 5, Context: 6},
		{Kind: api.Install, Context: 6, Snapshot: goodSnapshot()},
	}
	for i := range l {
		l[i].From, l[i].To, l[i].Term = 1, 2, 3
	}
	return l
}

func TestP2_7MessagesAsBytes(t *testing.T) {
	for i, digits := range []string{
		"01 01 02 03 04 02",
		"02 01 02 03 01",
		"03 01 02 03 04 02",
		"04 01 02 03 01",
		"05 01 02 03 04 02 05 06 02 05 02 00 00 06 03 00 00",
		"06 01 02 03 04 01 05 06",
		"07 01 02 03 06 07 02 02 0102 00 00 01 73",
	} {
		writes(t, "P2.7", goodMessages()[i], digits, wire.PutMessage, wire.GetMessage)
	}
	for _, x := range []struct {
		m      api.Message
		digits string
	}{
		{api.Message{Kind: api.Vote, From: 1, To: 2, Term: 3}, "03 01 02 03 00 00"},
		{api.Message{Kind: api.PreVoteReply, From: 9, To: 1, Reject: true}, "02 09 01 00 01"},
		{api.Message{Kind: api.VoteReply, From: 9, To: 1, Term: 300}, "04 09 01 AC02 00"},
		{api.Message{Kind: api.AppendReply, From: 9, To: 1, Term: 300}, "06 09 01 AC02 00 00 00 00"},
		{api.Message{Kind: api.AppendEntries, From: 9, To: 1, Term: 300}, "05 09 01 AC02 00 00 00 00 00"},
		{api.Message{Kind: api.AppendEntries, From: 9, To: 1, Term: 1, Entries: []api.Entry{{Index: 1, Term: 1, Kind: api.Ask, Data: "ab"}}}, "05 09 01 01 00 00 00 00 01 01 01 01 02 6162"},
	} {
		writes(t, "P2.7", x.m, x.digits, wire.PutMessage, wire.GetMessage)
	}
}

// mayBeMessage: does IsMessage say so, and PutMessage?
func mayBeMessage(t *testing.T, name string, m api.Message, want bool) {
	t.Helper()
	if wire.IsMessage(m) != want {
		t.Errorf("P2.7: %s: IsMessage(%.300s) is not %v", name, tell(m), want)
	}
	if want {
		written(t, "P2.7: "+name, m, wire.PutMessage, wire.GetMessage)
	} else {
		mayNotBe(t, "P2.7: "+name, m, wire.PutMessage, api.ErrMessage)
	}
}

func TestP2_7FieldsOfOtherKinds(t *testing.T) {
	// Each field that not all kinds have, set, and the kinds that have it.
	for _, x := range []struct {
		name  string
		turn  func(*api.Message)
		kinds []int
	}{
		{"Index", func(m *api.Message) { m.Index, m.LogTerm = 1, min(m.LogTerm, 1) }, []int{1, 3, 5, 6}},
		{"LogTerm", func(m *api.Message) { m.LogTerm = 1 }, []int{1, 3, 5}},
		{"Commit", func(m *api.Message) { m.Commit = 1 }, []int{5}},
		{"Entries", func(m *api.Message) { m.Entries = entries(m.Index+1, 3) }, []int{5}},
		{"Reject", func(m *api.Message) { m.Reject = true }, []int{2, 4, 6}},
		{"Hint", func(m *api.Message) { m.Hint = 1 }, []int{6}},
		{"Context", func(m *api.Message) { m.Context = 1 }, []int{5, 6, 7}},
		{"Snapshot", func(m *api.Message) { m.Snapshot = goodSnapshot() }, []int{7}},
		{"Snapshot.Index", func(m *api.Message) { m.Snapshot.Index = 1 }, []int{7}},
		{"Snapshot.Term", func(m *api.Message) { m.Snapshot.Term = 1 }, []int{7}},
		{"Snapshot.Config.Voters", func(m *api.Message) { m.Snapshot.Config.Voters = []int{1} }, []int{7}},
		{"Snapshot.Config.Next", func(m *api.Message) { m.Snapshot.Config.Next = []int{1} }, []int{7}},
		{"Snapshot.Config.Learners", func(m *api.Message) { m.Snapshot.Config.Learners = []int{3} }, []int{7}},
		{"Snapshot.Data", func(m *api.Message) { m.Snapshot.Data = "d" }, []int{7}},
	} {
		for _, m := range goodMessages() {
			if x.name == "Index" && m.Kind == api.AppendEntries {
				m.Entries = nil
			}
			x.turn(&m)
			mayBeMessage(t, x.name, m, slices.Contains(x.kinds, m.Kind))
		}
	}
}

func TestP2_7EmptyListsAreNone(t *testing.T) {
	for _, m := range goodMessages() {
		if m.Kind != api.Install {
			m.Snapshot.Config = api.Config{Voters: []int{}, Next: []int{}, Learners: []int{}}
		}
		if m.Kind != api.AppendEntries {
			m.Entries = []api.Entry{}
		}
		mayBeMessage(t, "empty lists", m, true)
	}
}

func TestP2_7WhatAllKindsHave(t *testing.T) {
	for _, good := range goodMessages() {
		for _, n := range []int{math.MinInt, -1, 0, 10, math.MaxInt} {
			from, to := good, good
			from.From, to.To = n, n
			mayBeMessage(t, "From is no node", from, false)
			mayBeMessage(t, "To is no node", to, false)
		}
		for _, n := range []int{1, 9} {
			same := good
			same.From, same.To = n, n
			mayBeMessage(t, "to itself", same, false)
			other := good
			other.From, other.To = n, 10-n
			mayBeMessage(t, "two nodes", other, true)
		}
		for _, n := range wrongNumbers {
			m := good
			m.Term = n
			mayBeMessage(t, "Term is no number", m, false)
		}
		for _, n := range []int{math.MinInt, -1, 0, 8, 9, math.MaxInt} {
			m := good
			m.Kind = n
			mayBeMessage(t, "another kind", m, false)
			bare := api.Message{Kind: n, From: 1, To: 2, Term: 3}
			mayBeMessage(t, "another kind", bare, false)
		}
		far := good
		far.Term = api.MaxNumber
		mayBeMessage(t, "the greatest Term", far, true)
	}
}

func TestP2_7TermZero(t *testing.T) {
	for kind := 1; kind <= 7; kind++ {
		for _, reject := range []bool{false, true} {
			m := api.Message{Kind: kind, From: 1, To: 2, Reject: reject}
			mayBeMessage(t, "Term 0", m, kind == api.PreVoteReply && reject)
		}
	}
}

func TestP2_7Numbers(t *testing.T) {
	for _, good := range goodMessages() {
		good.Entries = nil
		for _, n := range append(wrongNumbers, api.MaxNumber) {
			for name, turn := range map[string]func(*api.Message){
				"Index":   func(m *api.Message) { m.Index = n },
				"LogTerm": func(m *api.Message) { m.LogTerm, m.Term = n, api.MaxNumber },
				"Commit":  func(m *api.Message) { m.Commit = n },
				"Hint":    func(m *api.Message) { m.Hint = n },
				"Context": func(m *api.Message) { m.Context = n },
			} {
				kinds := map[string][]int{"Index": {1, 3, 5, 6}, "LogTerm": {1, 3, 5}, "Commit": {5}, "Hint": {6}, "Context": {5, 6, 7}}[name]
				m := good
				turn(&m)
				mayBeMessage(t, name, m, n == api.MaxNumber && slices.Contains(kinds, m.Kind))
			}
		}
	}
}

func TestP2_7IndexAndLogTerm(t *testing.T) {
	for _, kind := range []int{api.PreVote, api.Vote, api.AppendEntries} {
		for index := range 3 {
			for term := range 6 {
				m := api.Message{Kind: kind, From: 1, To: 2, Term: 3, Index: index, LogTerm: term}
				want := (index == 0) == (term == 0) && (kind != api.AppendEntries || term <= 3)
				mayBeMessage(t, "Index and LogTerm", m, want)
			}
		}
	}
	for index := range 3 {
		m := api.Message{Kind: api.AppendReply, From: 1, To: 2, Term: 3, Index: index}
		mayBeMessage(t, "Index of a reply", m, true)
	}
}

func TestP2_7Entries(t *testing.T) {
	for _, x := range []struct {
		name    string
		index   int
		logTerm int
		entries []api.Entry
		want    bool
	}{
		{"behind nothing", 0, 0, entries(1, 1, 1, 2, 5), true},
		{"behind an index", 6, 3, entries(7, 3, 4, 4, 5), true},
		{"eight", 0, 0, entries(1, 1, 1, 1, 1, 1, 1, 1, 1), true},
		{"nine", 0, 0, entries(1, 1, 1, 1, 1, 1, 1, 1, 1, 1), false},
		{"not at 1", 0, 0, entries(2, 1), false},
		{"at Index", 6, 3, entries(6, 3), false},
		{"behind a gap", 6, 3, entries(8, 3), false},
		{"a gap", 6, 3, append(entries(7, 3), entries(9, 3)...), false},
		{"one twice", 6, 3, append(entries(7, 3), entries(7, 3)...), false},
		{"going back", 6, 3, append(entries(7, 3), entries(6, 3)...), false},
		{"below LogTerm", 6, 3, entries(7, 2), false},
		{"terms fall", 6, 3, entries(7, 5, 4), false},
		{"terms fall below the first", 6, 1, entries(7, 2, 1), false},
		{"above Term", 6, 3, entries(7, 3, 6), false},
		{"above Term, alone", 0, 0, entries(1, 6), false},
		{"term 0", 0, 0, entries(1, 0), false},
		{"data of Nothing", 0, 0, []api.Entry{{Index: 1, Term: 1, Data: "d"}}, false},
		{"another kind", 0, 0, []api.Entry{{Index: 1, Term: 1, Kind: 3}}, false},
		{"much data", 0, 0, []api.Entry{{Index: 1, Term: 1, Kind: api.Ask, Data: many(256)}}, true},
		{"too much data", 0, 0, []api.Entry{{Index: 1, Term: 1, Kind: api.Ask, Data: many(257)}}, false},
		{"the last index", api.MaxNumber - 1, 1, entries(api.MaxNumber, 1), true},
		{"beyond the last index", api.MaxNumber, 1, entries(api.MaxNumber+1, 1), false},
		{"entries without LogTerm", 6, 0, entries(7, 1), false},
		{"entries without Index", 0, 3, entries(1, 3), false},
	} {
		m := api.Message{Kind: api.AppendEntries, From: 1, To: 2, Term: 5, Index: x.index, LogTerm: x.logTerm, Entries: x.entries}
		mayBeMessage(t, x.name, m, x.want)
	}
}

func TestP2_7Snapshots(t *testing.T) {
	for _, x := range []struct {
		name string
		turn func(*api.Snapshot)
		want bool
	}{
		{"as it is", func(*api.Snapshot) {}, true},
		{"of Term", func(s *api.Snapshot) { s.Term = 3 }, true},
		{"above Term", func(s *api.Snapshot) { s.Term = 4 }, false},
		{"no Index", func(s *api.Snapshot) { s.Index = 0 }, false},
		{"no Term", func(s *api.Snapshot) { s.Term = 0 }, false},
		{"Index below 0", func(s *api.Snapshot) { s.Index = -1 }, false},
		{"the last Index", func(s *api.Snapshot) { s.Index = api.MaxNumber }, true},
		{"beyond the last Index", func(s *api.Snapshot) { s.Index = api.MaxNumber + 1 }, false},
		{"nobody votes", func(s *api.Snapshot) { s.Config = api.Config{} }, false},
		{"no configuration", func(s *api.Snapshot) { s.Config.Learners = []int{2} }, false},
		{"much data", func(s *api.Snapshot) { s.Data = many(8192) }, true},
		{"too much data", func(s *api.Snapshot) { s.Data = many(8193) }, false},
		{"none", func(s *api.Snapshot) { *s = api.Snapshot{} }, false},
	} {
		m := api.Message{Kind: api.Install, From: 1, To: 2, Term: 3, Snapshot: goodSnapshot()}
		x.turn(&m.Snapshot)
		mayBeMessage(t, x.name, m, x.want)
	}
}

func TestP2_7GetMessage(t *testing.T) {
	wrongFirst(t, "P2.7", wire.GetMessage)
	refusesAll(t, "P2.7", wire.GetMessage, map[string]api.Errno{
		"01 8000":       api.ErrBytes,
		"01 01 8000":    api.ErrBytes,
		"01 01 02 8000": api.ErrBytes,
		// a kind that is none
		"00 01 02":                  api.ErrShort,
		"00 01 02 03":               api.ErrMessage,
		"08 01 02 03":               api.ErrMessage,
		"08 01 02 03 8000":          api.ErrMessage,
		"FFFFFFFFFF1F 01 02 03 00":  api.ErrMessage,
		"01 01 01 03":               api.ErrShort,
		"01 00 01 03 8000":          api.ErrBytes,
		"01 01 01 03 00 00":         api.ErrMessage,
		"01 01 01 03 00 00 00":      api.ErrMessage,
		"01 01 02 03 00 00 00":      api.ErrBytes,
		"01 0A 02 03 00 00":         api.ErrMessage,
		"01 01 00 03 00 00":         api.ErrMessage,
		"01 01 02 00 00 00":         api.ErrMessage,
		"03 01 02 03 01 00":         api.ErrMessage,
		"03 01 02 03 00 01":         api.ErrMessage,
		"03 01 02 03 01 8000":       api.ErrBytes,
		"03 01 02 03 8000":          api.ErrBytes,
		"02 01 02 00 00":            api.ErrMessage,
		"02 01 02 00 02":            api.ErrBytes,
		"02 01 02 00":               api.ErrShort,
		"02 01 02 03 80":            api.ErrBytes,
		"04 01 01 03 02":            api.ErrBytes,
		"04 01 02 03 FF":            api.ErrBytes,
		"04 01 02 03 01 01":         api.ErrBytes,
		"06 01 02 03 04 02 05 06":   api.ErrBytes,
		"06 01 02 03 04 01 8000":    api.ErrBytes,
		"06 01 02 03 04 01 05 8000": api.ErrBytes,
		"06 01 01 03 04 01 05 06":   api.ErrMessage,
		// entries
		"05 01 02 03 00 00 00 00 09":                                api.ErrBound,
		"05 01 01 03 00 00 00 00 09":                                api.ErrBound,
		"05 01 02 03 00 00 00 00 8000":                              api.ErrBytes,
		"05 01 02 03 00 00 00 00 01 01 01 01 8102":                  api.ErrBound,
		"05 01 02 03 00 00 00 00 01 00 01 01 8102":                  api.ErrBound,
		"05 01 02 03 00 00 00 00 01 00 01 00 00":                    api.ErrEntry,
		"05 01 02 03 00 00 00 00 01 01 00 00 00":                    api.ErrEntry,
		"05 01 02 03 00 00 00 00 01 01 01 03 00":                    api.ErrEntry,
		"05 01 02 03 00 00 00 00 01 01 01 00 01 61":                 api.ErrEntry,
		"05 01 02 03 00 00 00 00 01 01 01 00 01 61 00":              api.ErrEntry,
		"05 01 01 03 00 00 00 00 01 00 01 00 00":                    api.ErrEntry,
		"05 01 02 03 00 00 00 00 02 00 01 00 00":                    api.ErrEntry,
		"05 01 02 03 00 00 00 00 02 01 01 00 00 02 01 03 00":        api.ErrEntry,
		"05 01 02 03 00 00 00 00 02 01 01 00 00 02 01 00":           api.ErrShort,
		"05 01 02 03 00 00 00 00 02 02 01 00 00 02 01 00":           api.ErrShort,
		"05 01 02 03 00 00 00 00 01 02 01 00 00":                    api.ErrMessage,
		"05 01 02 03 00 00 00 00 01 01 04 00 00":                    api.ErrMessage,
		"05 01 02 03 00 00 00 00 02 01 02 00 00 02 01 00 00":        api.ErrMessage,
		"05 01 02 03 05 04 00 00 00":                                api.ErrMessage,
		"05 01 02 03 05 00 00 00 00":                                api.ErrMessage,
		"05 01 02 03 05 03 00 00 00 00":                             api.ErrBytes,
		"05 01 02 03 00 00 00 00 08 0101000002010000030100000401":   api.ErrShort,
		"05 01 02 03 FFFFFFFFFF1F 01 00 00 01 808080808020 01 0000": api.ErrBytes,
		// snapshots
		"07 01 02 03 06 07 02 0A":                         api.ErrBound,
		"07 01 02 03 06 07 02 01 01 00 00 8140":           api.ErrBound,
		"07 01 02 03 06 07 02 01 01 00 00 8040":           api.ErrShort,
		"07 01 02 03 06 07 02 00 00 00":                   api.ErrConfig,
		"07 01 02 03 06 07 02 00 00 00 8140":              api.ErrConfig,
		"07 01 01 03 06 00 00 02 0201 00 00 00":           api.ErrConfig,
		"07 01 02 03 06 07 02 01 01 00 01 01":             api.ErrConfig,
		"07 01 02 03 06 00 02 01 01 00 00 00":             api.ErrMessage,
		"07 01 02 03 06 07 00 01 01 00 00 00":             api.ErrMessage,
		"07 01 02 03 06 00 02 01 01 00 00":                api.ErrShort,
		"07 01 02 03 06 00 02 01 01 00 00 00 00":          api.ErrMessage,
		"07 01 02 03 06 07 04 01 01 00 00 00":             api.ErrMessage,
		"07 01 02 03 06 07 03 01 01 00 00 00 00":          api.ErrBytes,
		"07 01 02 03 8000":                                api.ErrBytes,
		"07 01 02 03 06 8000":                             api.ErrBytes,
		"07 01 02 03 06 07 8000":                          api.ErrBytes,
		"07 01 02 03 06 07 02 01 01 00 00 02 61":          api.ErrShort,
		"07 01 02 03 06 07 02 01 01 00 00 FFFFFFFFFF1F00": api.ErrBound,
	})
}

func TestP2_7ListsStay(t *testing.T) {
	m := goodMessages()[4]
	m.Entries = append(m.Entries, api.Entry{Index: 77})[:2]
	s := written(t, "P2.7", m, wire.PutMessage, wire.GetMessage)
	if tell(m.Entries[:3]) != tell(append(entries(5, 2, 3), api.Entry{Index: 77})) {
		t.Errorf("P2.7: entries were changed: %+v", m.Entries[:3])
	}
	a, _ := wire.GetMessage(s)
	b, _ := wire.GetMessage(s)
	a.Entries[0].Index = 88
	if b.Entries[0].Index != 5 {
		t.Error("P2.7: two answers share memory")
	}
}
