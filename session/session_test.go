package session_test

import (
	"fmt"
	"math"
	"strings"
	"testing"

	"quorate/api"
	"quorate/session"
)

// tell: a value, for a look; nil and empty lists are the same.
func tell(x any) string {
	return fmt.Sprintf("%+v", x)
}

// runs: a request makes that table of another, with that answer; what was handed in stays.
func runs(t *testing.T, promise string, in api.Table, q api.Request, index int, out api.Table, answer api.Result) {
	t.Helper()
	before := tell(in)
	got, r := session.Run(in, q, index)
	if tell(got) != tell(out) || tell(r) != tell(answer) {
		t.Errorf("%s: %+v at %d on %.300s:\n %.300s, %+v\nwant\n %.300s, %+v", promise, q, index, tell(in), tell(got), r, tell(out), answer)
	}
	if tell(in) != before {
		t.Errorf("%s: %+v at %d has changed what was handed in: %.300s", promise, q, index, tell(in))
	}
}

// two: a table with two sessions: client 3, who is old at time 1000, and client 5, who has two requests behind it.
func two() api.Table {
	return api.Table{
		Time:  900,
		Pairs: []api.Pair{{Key: "k", Value: "v", Version: 1}, {Key: "l", Version: 1}},
		Sessions: []api.Session{
			{Client: 3, Last: 1, Answer: api.Result{Kind: api.Done, Version: 1}, Seen: 599},
			{Client: 5, Last: 2, Answer: api.Result{Kind: api.Done, Keys: []string{"k", "l"}}, Seen: 800},
		},
	}
}

// seen: two, later: client 5 alone is left, and was seen last at that time.
func seen(time, last int) api.Table {
	t := two()
	t.Time = time
	t.Sessions = t.Sessions[1:]
	t.Sessions[0].Seen = last
	return t
}

// put: a request of a client.
func put(client, number, time int) api.Request {
	return api.Request{Client: client, Number: number, Time: time, Command: api.Command{Kind: api.Put, Key: "k", Value: "w"}}
}

// clients: sessions of these, last seen at these times.
func clients(numbers []int, times []int) (l []api.Session) {
	for i, n := range numbers {
		l = append(l, api.Session{Client: n, Seen: times[i]})
	}
	return l
}

// numbers: of a table's clients.
func numbers(t api.Table) (l []int) {
	for _, s := range t.Sessions {
		l = append(l, s.Client)
	}
	return l
}

// wrong: what no field may be.
var wrong = []int{math.MinInt, -1, api.MaxNumber + 1, math.MaxInt}

// badRequests: that PutRequest refuses. All come late enough to end a session of two.
func badRequests() []api.Request {
	get := api.Command{Kind: api.Get, Key: "k"}
	l := []api.Request{
		{Client: 0, Time: 1000, Command: get},
		{Client: 0, Time: 1000, Command: api.Command{Kind: api.List}},
		{Client: 0, Time: 1000, Command: api.Command{Key: "k"}},
		{Client: 0, Time: 1000, Command: api.Command{Value: "v"}},
		{Client: 0, Time: 1000, Command: api.Command{If: 1}},
		{Client: 5, Number: 3, Time: 1000},
		{Client: 5, Number: 2, Time: 1000, Command: api.Command{Kind: 7, Key: "k"}},
		{Client: 5, Number: 3, Time: 1000, Command: api.Command{Kind: api.Get}},
		{Client: 5, Number: 3, Time: 1000, Command: api.Command{Kind: api.Get, Key: "k", If: 1}},
		{Client: 5, Number: 3, Time: 1000, Command: api.Command{Kind: api.Put, Key: strings.Repeat("k", 17)}},
		{Client: 5, Number: 3, Time: 1000, Command: api.Command{Kind: api.Put, Key: "k", Value: strings.Repeat("v", 65)}},
		{Client: 77, Number: 1, Time: 1000},
	}
	for _, n := range wrong {
		l = append(l,
			api.Request{Client: n, Number: 3, Time: 1000, Command: get},
			api.Request{Client: 5, Number: n, Time: 1000, Command: get},
			api.Request{Client: 5, Number: 3, Time: n, Command: get},
			api.Request{Client: 77, Number: n, Time: 1000, Command: get},
			api.Request{Number: n, Time: 1000},
			api.Request{Time: n},
			api.Request{Client: n})
	}
	return l
}

func TestP4_1BadRequests(t *testing.T) {
	for _, q := range badRequests() {
		for _, index := range []int{9, 5, 0, -1} {
			runs(t, "P4.1", two(), q, index, two(), api.Result{Kind: api.Bad})
			runs(t, "P4.1", api.Table{}, q, index, api.Table{}, api.Result{Kind: api.Bad})
		}
	}
}

// badTables: that may not be.
func badTables() map[string]api.Table {
	change := func(f func(t *api.Table)) api.Table {
		t := two()
		f(&t)
		return t
	}
	return map[string]api.Table{
		"pairs that fall":      change(func(t *api.Table) { t.Pairs[1].Key = "a" }),
		"a version 0":          change(func(t *api.Table) { t.Pairs[0].Version = 0 }),
		"too many pairs":       {Pairs: make([]api.Pair, 33)},
		"a time below 0":       {Time: -1},
		"too great a time":     {Time: api.MaxNumber + 1},
		"the greatest time":    {Time: math.MaxInt},
		"client 0":             change(func(t *api.Table) { t.Sessions[0].Client = 0 }),
		"a client twice":       change(func(t *api.Table) { t.Sessions[0].Client = 5 }),
		"clients that fall":    change(func(t *api.Table) { t.Sessions[0].Client = 6 }),
		"seen behind the time": change(func(t *api.Table) { t.Sessions[1].Seen = 901 }),
		"seen below 0":         change(func(t *api.Table) { t.Sessions[1].Seen = -1 }),
		"the least seen":       change(func(t *api.Table) { t.Sessions[1].Seen = math.MinInt }),
		"a last below 0":       change(func(t *api.Table) { t.Sessions[1].Last = -1 }),
		"the greatest last":    change(func(t *api.Table) { t.Sessions[1].Last = math.MaxInt }),
		"an answer that falls": change(func(t *api.Table) { t.Sessions[1].Answer.Keys = []string{"b", "a"} }),
		"an answer of kind 9":  change(func(t *api.Table) { t.Sessions[0].Answer.Kind = 9 }),
		"nine sessions":        {Time: 9, Sessions: clients([]int{1, 2, 3, 4, 5, 6, 7, 8, 9}, make([]int, 9))},
		"many sessions":        {Time: 9, Sessions: make([]api.Session, 500)},
	}
}

func TestP4_1BadTables(t *testing.T) {
	for name, in := range badTables() {
		for _, q := range []api.Request{{}, {Time: 1000}, put(5, 3, 1000), put(5, 2, 0), put(77, 1, 5), put(5, -1, 5), {Client: 5}} {
			for _, index := range []int{9, 0} {
				runs(t, "P4.1: "+name, in, q, index, in, api.Result{Kind: api.Bad})
			}
		}
	}
}

func TestP4_1TheTime(t *testing.T) {
	for _, x := range []struct{ table, request, want int }{
		{0, 0, 0}, {0, 7, 7}, {7, 0, 7}, {7, 6, 7}, {7, 7, 7}, {7, 8, 8},
		{7, api.MaxNumber, api.MaxNumber}, {api.MaxNumber, 7, api.MaxNumber},
	} {
		in := api.Table{Time: x.table}
		runs(t, "P4.1", in, put(4, 1, x.request), 9, api.Table{Time: x.want}, api.Result{Kind: api.Lost})
		runs(t, "P4.1", in, api.Request{Time: x.request}, 9,
			api.Table{Time: x.want, Sessions: []api.Session{{Client: 9, Seen: x.want}}}, api.Result{Kind: api.Done, Version: 9})
		runs(t, "P4.1", in, api.Request{Time: x.request}, 0, api.Table{Time: x.want}, api.Result{Kind: api.Bad})
	}
}

func TestP4_1SessionsEnd(t *testing.T) {
	in := api.Table{Time: 500, Sessions: clients([]int{1, 2, 3, 4, 6}, []int{200, 100, 99, 101, 500})}
	for _, x := range []struct {
		time int
		left []int
	}{
		{0, []int{1, 2, 4, 6}},
		{500, []int{1, 2, 4, 6}},
		{501, []int{1, 4, 6}},
		{502, []int{1, 6}},
		{600, []int{1, 6}},
		{601, []int{6}},
		{900, []int{6}},
		{901, nil},
		{api.MaxNumber, nil},
	} {
		out, r := session.Run(in, put(5, 1, x.time), 9)
		if tell(numbers(out)) != tell(x.left) || r.Kind != api.Lost {
			t.Errorf("P4.1: at %d clients %v are left, %+v; want %v", x.time, numbers(out), r, x.left)
		}
		if out, r := session.Run(in, api.Request{Time: x.time}, 6000); tell(numbers(out)) != tell(append(x.left, 6000)) || r.Kind != api.Done {
			t.Errorf("P4.1: at %d, one more: %v, %+v", x.time, numbers(out), r)
		}
	}
	late := api.Table{Time: api.MaxNumber, Sessions: clients([]int{1, 2}, []int{api.MaxNumber - 400, api.MaxNumber - 401})}
	if out, _ := session.Run(late, api.Request{}, 1); tell(numbers(out)) != "[1]" {
		t.Errorf("P4.1: at the last time: %+v", out)
	}
}

func TestP4_1ASessionThatEndsIsLost(t *testing.T) {
	runs(t, "P4.1", two(), put(3, 2, 1000), 9, seen(1000, 800), api.Result{Kind: api.Lost})
	runs(t, "P4.1", two(), put(3, 1, 1000), 9, seen(1000, 800), api.Result{Kind: api.Lost})
	again := seen(1000, 800)
	again.Sessions = append([]api.Session{{Client: 3, Seen: 1000}}, again.Sessions...)
	runs(t, "P4.1", two(), api.Request{Time: 1000}, 3, again, api.Result{Kind: api.Done, Version: 3})
}

func TestP4_2Open(t *testing.T) {
	for _, number := range []int{0, 1, 7, api.MaxNumber} {
		runs(t, "P4.2", api.Table{}, api.Request{Number: number}, 4,
			api.Table{Sessions: []api.Session{{Client: 4}}}, api.Result{Kind: api.Done, Version: 4})
	}
	for at, index := range []int{2, 4, 6} {
		want := two()
		want.Sessions = append(append(append([]api.Session(nil), want.Sessions[:at]...), api.Session{Client: index, Seen: 900}), two().Sessions[at:]...)
		runs(t, "P4.2", two(), api.Request{Time: 3}, index, want, api.Result{Kind: api.Done, Version: index})
	}
	for _, index := range []int{1, api.MaxNumber} {
		runs(t, "P4.2", api.Table{Time: 3}, api.Request{Time: 5}, index,
			api.Table{Time: 5, Sessions: []api.Session{{Client: index, Seen: 5}}}, api.Result{Kind: api.Done, Version: index})
	}
}

func TestP4_2Bad(t *testing.T) {
	for _, index := range []int{0, -1, -5, math.MinInt, api.MaxNumber + 1, math.MaxInt, 5} {
		runs(t, "P4.2", two(), api.Request{Time: 1000}, index, seen(1000, 800), api.Result{Kind: api.Bad})
		later := two()
		later.Time = 950
		runs(t, "P4.2", two(), api.Request{Time: 950}, index, later, api.Result{Kind: api.Bad})
	}
	full := api.Table{Time: 20, Sessions: clients([]int{1, 2, 3, 4, 5, 6, 7, 8}, []int{5, 5, 5, 4, 5, 5, 5, 5})}
	later := full
	later.Time = 21
	for _, index := range []int{0, 1, 4, 8, api.MaxNumber + 1} {
		runs(t, "P4.2", full, api.Request{Time: 21}, index, later, api.Result{Kind: api.Bad})
	}
}

func TestP4_2RoomForOneMore(t *testing.T) {
	eight := []int{2, 4, 6, 8, 10, 12, 14, 16}
	for _, x := range []struct {
		seen []int
		gone int
	}{
		{[]int{3, 3, 3, 3, 3, 3, 3, 3}, 2},
		{[]int{3, 3, 3, 2, 3, 3, 3, 3}, 8},
		{[]int{9, 8, 7, 6, 5, 4, 3, 2}, 16},
		{[]int{2, 3, 4, 5, 6, 7, 8, 9}, 2},
		{[]int{9, 9, 5, 9, 5, 9, 5, 9}, 6},
		{[]int{9, 0, 5, 9, 0, 9, 5, 9}, 4},
		{[]int{9, 9, 9, 9, 9, 9, 9, 8}, 16},
	} {
		in := api.Table{Time: 9, Sessions: clients(eight, x.seen)}
		for _, index := range []int{1, 7, 17} {
			out, r := session.Run(in, api.Request{Time: 11}, index)
			if tell(r) != tell(api.Result{Kind: api.Done, Version: index}) || len(out.Sessions) != 8 {
				t.Errorf("P4.2: a ninth session: %+v, %+v", r, out)
			}
			if l := without(append(numbers(out), x.gone), index); len(l) != 8 || tell(l[:7]) != tell(without(eight, x.gone)) {
				t.Errorf("P4.2: last seen at %v, %d comes: %v; %d should go", x.seen, index, numbers(out), x.gone)
			}
		}
	}
}

// without: numbers, but for one.
func without(l []int, n int) (m []int) {
	for _, x := range l {
		if x != n {
			m = append(m, x)
		}
	}
	return m
}

func TestP4_2RoomIsMadeByTimeFirst(t *testing.T) {
	in := api.Table{Time: 400, Sessions: clients([]int{1, 2, 3, 4, 5, 6, 7, 8}, []int{50, 40, 50, 10, 60, 70, 80, 90})}
	out, r := session.Run(in, api.Request{Time: 411}, 9)
	if tell(numbers(out)) != "[1 2 3 5 6 7 8 9]" || r.Version != 9 {
		t.Errorf("P4.2: one has ended, so that there is room: %v, %+v", numbers(out), r)
	}
	if out, _ = session.Run(in, api.Request{Time: 410}, 9); tell(numbers(out)) != "[1 2 3 5 6 7 8 9]" {
		t.Errorf("P4.2: none has ended, the oldest goes: %v", numbers(out))
	}
	if out, _ = session.Run(in, api.Request{Time: 441}, 4); tell(numbers(out)) != "[1 3 4 5 6 7 8]" {
		t.Errorf("P4.2: two have ended, one of that number too: %v", numbers(out))
	}
	in.Sessions = in.Sessions[:7]
	if out, _ = session.Run(in, api.Request{Time: 410}, 9); tell(numbers(out)) != "[1 2 3 4 5 6 7 9]" {
		t.Errorf("P4.2: the eighth session: %v", numbers(out))
	}
}

func TestP4_3Lost(t *testing.T) {
	for _, client := range []int{1, 4, 6, api.MaxNumber} {
		for _, number := range []int{0, 1, 2, 3, api.MaxNumber} {
			want := two()
			want.Time = 950
			runs(t, "P4.3", two(), put(client, number, 950), client, want, api.Result{Kind: api.Lost})
		}
	}
	runs(t, "P4.3", api.Table{}, put(1, 1, 0), 1, api.Table{}, api.Result{Kind: api.Lost})
}

func TestP4_3StaleAndGap(t *testing.T) {
	for number, kind := range map[int]int{0: api.Stale, 1: api.Stale, 4: api.Gap, 5: api.Gap, api.MaxNumber: api.Gap} {
		for _, index := range []int{9, 5, 0, -1, math.MaxInt} {
			runs(t, "P4.3", two(), put(5, number, 1100), index, seen(1100, 1100), api.Result{Kind: kind})
		}
		early := two()
		early.Sessions[1].Seen = 900
		runs(t, "P4.3", two(), put(5, number, 3), 9, early, api.Result{Kind: kind})
	}
	fresh := api.Table{Sessions: []api.Session{{Client: 5, Answer: api.Result{Kind: api.Full}}}}
	runs(t, "P4.3", fresh, put(5, 0, 0), 9, fresh, api.Result{Kind: api.Stale})
	runs(t, "P4.3", fresh, put(5, 2, 0), 9, fresh, api.Result{Kind: api.Gap})
	last := api.Table{Sessions: []api.Session{{Client: 5, Last: api.MaxNumber, Answer: api.Result{Kind: api.Unequal, Value: "v", Version: 3}}}}
	runs(t, "P4.3", last, put(5, api.MaxNumber, 0), 9, last, last.Sessions[0].Answer)
	runs(t, "P4.3", last, put(5, api.MaxNumber-1, 0), 9, last, api.Result{Kind: api.Stale})
}

func TestP4_3Again(t *testing.T) {
	for _, c := range []api.Command{{Kind: api.Put, Key: "k", Value: "w"}, {Kind: api.Delete, Key: "k"}, {Kind: api.List}} {
		for _, index := range []int{9, 0, math.MinInt} {
			q := api.Request{Client: 5, Number: 2, Time: 1000, Command: c}
			runs(t, "P4.3", two(), q, index, seen(1000, 1000), api.Result{Kind: api.Done, Keys: []string{"k", "l"}})
		}
	}
	for kind := range api.Lost + 1 {
		r := api.Result{Kind: kind, Value: "v", Version: 8, Keys: []string{"", "q"}}
		in := api.Table{Sessions: []api.Session{{Client: 5, Last: 1, Answer: r}}}
		runs(t, "P4.3", in, put(5, 1, 0), 9, in, r)
	}
}

func TestP4_3Applied(t *testing.T) {
	for _, x := range []struct {
		c     api.Command
		pairs []api.Pair
		r     api.Result
	}{
		{api.Command{Kind: api.Put, Key: "k", Value: "w"}, []api.Pair{{Key: "k", Value: "w", Version: 2}, {Key: "l", Version: 1}}, api.Result{Kind: api.Done, Version: 2}},
		{api.Command{Kind: api.Append, Key: "k", Value: "w"}, []api.Pair{{Key: "k", Value: "vw", Version: 2}, {Key: "l", Version: 1}}, api.Result{Kind: api.Done, Version: 2}},
		{api.Command{Kind: api.Append, Key: "k", Value: strings.Repeat("w", 64)}, two().Pairs, api.Result{Kind: api.Full}},
		{api.Command{Kind: api.Get, Key: "k"}, two().Pairs, api.Result{Kind: api.Done, Value: "v", Version: 1}},
		{api.Command{Kind: api.Get, Key: "m"}, two().Pairs, api.Result{Kind: api.Missing}},
		{api.Command{Kind: api.Swap, Key: "k", Value: "w", If: 9}, two().Pairs, api.Result{Kind: api.Unequal, Value: "v", Version: 1}},
		{api.Command{Kind: api.Delete, Key: "k"}, two().Pairs[1:], api.Result{Kind: api.Done, Version: 1}},
		{api.Command{Kind: api.List}, two().Pairs, api.Result{Kind: api.Done, Keys: []string{"k", "l"}}},
	} {
		want := seen(1001, 1001)
		want.Pairs, want.Sessions[0].Last, want.Sessions[0].Answer = x.pairs, 3, x.r
		for _, index := range []int{9, 5, 0, -1, math.MaxInt} {
			runs(t, "P4.3", two(), api.Request{Client: 5, Number: 3, Time: 1001, Command: x.c}, index, want, x.r)
		}
	}
	last := api.Table{Sessions: []api.Session{{Client: 5, Last: api.MaxNumber - 1}}}
	out, r := session.Run(last, put(5, api.MaxNumber, 0), 9)
	if r.Kind != api.Done || out.Sessions[0].Last != api.MaxNumber || len(out.Pairs) != 1 {
		t.Errorf("P4.3: the last number: %+v, %+v", out, r)
	}
}
