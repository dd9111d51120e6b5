package shard_test

import (
	"fmt"
	"math"
	"slices"
	"testing"

	"quorate/api"
	"quorate/shard"
)

func TestP19_1New(t *testing.T) {
	for hosts := 1; hosts <= api.MaxNode; hosts++ {
		s := begin(t, hosts)
		way(t, s, 0)
		for id := 1; id <= hosts; id++ {
			has(t, s, id)
			says(t, s, id, b("", 1))
			is(t, s, get(id, "k"), []api.ShardAnswer{missing(1), names(1)}[min(id-1, 1)])
		}
		for _, id := range []int{math.MinInt, -1, 0, hosts + 1, math.MaxInt} {
			if l, k, there := s.Look(id); len(l) != 0 || len(k) != 0 || there {
				t.Errorf("P19.1: of %d hosts: Look(%d): %v, %v, %v", hosts, id, l, k, there)
			}
		}
	}
}

func TestP19_1NewRefuses(t *testing.T) {
	for _, hosts := range []int{math.MinInt, -1, 0, api.MaxNode + 1, math.MaxInt} {
		if s, e := shard.New(hosts); s != nil || e != api.ErrBound {
			t.Errorf("P19.1: New(%d): %v, %d", hosts, s, e)
		}
	}
}

// Shards have nothing to do with one another.
func TestP19_1NewIsNew(t *testing.T) {
	one, two := begin(t, 2), begin(t, 2)
	run(t, one, set(1, "k", "v"), move(1, 2, "", ""), send(1))
	has(t, two, 1)
	says(t, two, 1, b("", 1))
	way(t, two, 0)
}

func TestP19_2SetAt(t *testing.T) {
	s := begin(t, 2)
	is(t, s, set(1, "b", "v"), done(1))
	is(t, s, set(1, "a", ""), done(1))
	is(t, s, set(1, "aa", "x"), done(1))
	is(t, s, set(1, "\xff", "y"), done(1))
	is(t, s, set(1, "\x00", "z"), done(1))
	is(t, s, set(1, many(16), many(64)), done(1))
	has(t, s, 1, "\x00", "z", "a", "", "aa", "x", "b", "v", many(16), many(64), "\xff", "y")
	is(t, s, set(1, "b", "w"), done(1))
	is(t, s, set(1, "\xff", ""), done(1))
	has(t, s, 1, "\x00", "z", "a", "", "aa", "x", "b", "w", many(16), many(64), "\xff", "")
	way(t, s, 0)
}

func TestP19_2GetAt(t *testing.T) {
	s := begin(t, 2)
	run(t, s, set(1, "b", "v"), set(1, "d", ""))
	changesNothing(t, s, get(1, "b"), value(1, "v"))
	changesNothing(t, s, get(1, "d"), done(1))
	for _, key := range []string{"a", "b\x00", "c", "dd", "e", "B", many(16)} {
		changesNothing(t, s, get(1, key), missing(1))
	}
}

func TestP19_2DeleteAt(t *testing.T) {
	s := begin(t, 2)
	run(t, s, set(1, "a", "1"), set(1, "b", "2"), set(1, "c", "3"))
	changesNothing(t, s, del(1, "bb"), missing(1))
	is(t, s, del(1, "b"), done(1))
	has(t, s, 1, "a", "1", "c", "3")
	changesNothing(t, s, del(1, "b"), missing(1))
	is(t, s, del(1, "c"), done(1))
	is(t, s, del(1, "a"), done(1))
	has(t, s, 1)
	is(t, s, set(1, "b", "4"), done(1))
	has(t, s, 1, "b", "4")
}

// Fields that a kind has no use for say nothing, as long as they are not too long.
func TestP19_2OtherFields(t *testing.T) {
	s := begin(t, 2)
	is(t, s, api.ShardStep{Kind: api.SetAt, Host: 1, Key: "b", Value: "v", Other: 77, N: -5, Upto: "a"}, done(1))
	is(t, s, api.ShardStep{Kind: api.GetAt, Host: 1, Key: "b", Value: "w", Other: math.MinInt, N: 3, Upto: many(16)}, value(1, "v"))
	is(t, s, api.ShardStep{Kind: api.MoveFrom, Host: 1, Other: 2, Key: "b", Value: "w", N: 9}, names(1))
	is(t, s, api.ShardStep{Kind: api.SendAll, Host: 1, Other: 1, Key: "z", Upto: "b", Value: many(64), N: -1}, nothing)
	is(t, s, api.ShardStep{Kind: api.Arrive, Host: 77, Other: 77, Key: many(17), Upto: many(17), Value: many(65)}, nothing)
	has(t, s, 2, "b", "v")
	way(t, s, 1)
}

// Whoever has not the key names who has it, by its own delegation, and does nothing.
func TestP19_2AnotherHas(t *testing.T) {
	s := begin(t, 3)
	run(t, s, set(1, "a", "1"), set(1, "c", "3"))
	for _, host := range []int{2, 3} {
		for _, x := range []api.ShardStep{set(host, "a", "x"), get(host, "a"), get(host, "none"), del(host, "a")} {
			changesNothing(t, s, x, names(1))
		}
	}
	run(t, s, move(1, 2, "b", "d"))
	for _, x := range []api.ShardStep{set(1, "c", "x"), set(1, "b", "x"), get(1, "c"), del(1, "c\xff")} {
		changesNothing(t, s, x, names(2))
	}
	for _, x := range []api.ShardStep{set(2, "c", "x"), get(2, "c"), del(2, "c"), set(3, "c", "x"), get(3, "c"), del(3, "c")} {
		changesNothing(t, s, x, names(1))
	}
	changesNothing(t, s, get(1, "a"), value(1, "1"))
	changesNothing(t, s, get(1, "d"), missing(1))
}

// There is no such host, of all kinds below Arrive.
func TestP19_2NoHost(t *testing.T) {
	s := begin(t, 3)
	run(t, s, set(1, "a", "1"), move(1, 2, "b", "c"))
	for _, kind := range []int{math.MinInt, -1, 0, 1, 2, 3, 4, 5} {
		for _, host := range []int{math.MinInt, -1, 0, 4, 10, math.MaxInt} {
			changesNothing(t, s, api.ShardStep{Kind: kind, Host: host, Other: 2, Key: "a"}, refused(api.ErrWorld, 0))
			changesNothing(t, s, api.ShardStep{Kind: kind, Host: host, Other: host, Key: many(17)}, refused(api.ErrWorld, 0))
		}
	}
}

// Texts that are too long, of all kinds below Arrive.
func TestP19_2LongTexts(t *testing.T) {
	s := begin(t, 3)
	run(t, s, set(1, "a", "1"), move(1, 2, "b", "c"))
	for _, kind := range []int{math.MinInt, -1, 0, 1, 2, 3, 4, 5} {
		for _, x := range []api.ShardStep{
			{Key: many(17)},
			{Key: many(100000)},
			{Key: "a", Upto: many(17)},
			{Key: "a", Value: many(65)},
			{Key: many(17), Upto: many(17), Value: many(65)},
		} {
			for host := 1; host <= 2; host++ {
				x.Kind, x.Host, x.Other = kind, host, 77 // that Other is none comes later
				changesNothing(t, s, x, refused(api.ErrCommand, 0))
			}
		}
	}
}

// No key: of kinds below MoveFrom.
func TestP19_2NoKey(t *testing.T) {
	for _, kind := range []int{math.MinInt, -1, 0, 1, 2, 3} {
		s := begin(t, 2)
		changesNothing(t, s, api.ShardStep{Kind: kind, Host: 1, Value: "v"}, refused(api.ErrCommand, 0))
		changesNothing(t, s, api.ShardStep{Kind: kind, Host: 2, Value: "v"}, refused(api.ErrCommand, 0))
	}
	s := begin(t, 2)
	is(t, s, move(1, 2, "", "b"), names(1))
	is(t, s, send(1), nothing)
	way(t, s, 1)
}

// Kinds that are none: nothing.
func TestP19_2OtherKinds(t *testing.T) {
	s := begin(t, 2)
	run(t, s, set(1, "a", "1"), move(1, 2, "b", "c"), send(1))
	for _, kind := range []int{math.MinInt, -1, 0} {
		changesNothing(t, s, api.ShardStep{Kind: kind, Host: 1, Other: 2, Key: "a", Value: "v"}, nothing)
		changesNothing(t, s, api.ShardStep{Kind: kind, Host: 1, Other: 77, Key: "a"}, nothing)
	}
	for _, kind := range []int{9, 10, math.MaxInt} {
		changesNothing(t, s, api.ShardStep{Kind: kind, Host: 1, Other: 2, Key: "a", Value: "v"}, nothing)
		changesNothing(t, s, api.ShardStep{Kind: kind}, nothing)
	}
}

func TestP19_2MoveFrom(t *testing.T) {
	for _, x := range []struct {
		from, upto string
		stay, goes []string
		keys       []api.Bound
	}{
		{"b", "d", []string{"a", "1", "d", "4", "e", "5"}, []string{"b", "2", "c", "3"}, []api.Bound{b("", 1), b("b", 2), b("d", 1)}},
		{"", "", nil, []string{"a", "1", "b", "2", "c", "3", "d", "4", "e", "5"}, []api.Bound{b("", 2)}},
		{"", "b", []string{"b", "2", "c", "3", "d", "4", "e", "5"}, []string{"a", "1"}, []api.Bound{b("", 2), b("b", 1)}},
		{"", "a", []string{"a", "1", "b", "2", "c", "3", "d", "4", "e", "5"}, nil, []api.Bound{b("", 2), b("a", 1)}},
		{"d", "", []string{"a", "1", "b", "2", "c", "3"}, []string{"d", "4", "e", "5"}, []api.Bound{b("", 1), b("d", 2)}},
		{"f", "", []string{"a", "1", "b", "2", "c", "3", "d", "4", "e", "5"}, nil, []api.Bound{b("", 1), b("f", 2)}},
		{"b\x00", "c", []string{"a", "1", "b", "2", "c", "3", "d", "4", "e", "5"}, nil, []api.Bound{b("", 1), b("b\x00", 2), b("c", 1)}},
		{"b", "b\x00", []string{"a", "1", "c", "3", "d", "4", "e", "5"}, []string{"b", "2"}, []api.Bound{b("", 1), b("b", 2), b("b\x00", 1)}},
		{"bb", "ee", []string{"a", "1", "b", "2"}, []string{"c", "3", "d", "4", "e", "5"}, []api.Bound{b("", 1), b("bb", 2), b("ee", 1)}},
		{"a", many(16), nil, []string{"a", "1", "b", "2", "c", "3", "d", "4", "e", "5"}, []api.Bound{b("", 1), b("a", 2), b(many(16), 1)}},
	} {
		s := begin(t, 3)
		run(t, s, set(1, "e", "5"), set(1, "a", "1"), set(1, "c", "3"), set(1, "b", "2"), set(1, "d", "4"))
		is(t, s, move(1, 2, x.from, x.upto), names(1))
		has(t, s, 1, x.stay...)
		says(t, s, 1, x.keys...)
		has(t, s, 2)
		says(t, s, 2, b("", 1))
		way(t, s, 0) // it waits at host 1
		is(t, s, send(1), nothing)
		way(t, s, 1)
		is(t, s, arrive(0), nothing)
		has(t, s, 1, x.stay...)
		has(t, s, 2, x.goes...)
		says(t, s, 1, x.keys...)
		says(t, s, 2, x.keys...) // all others are host 1's, as far as it knows
		has(t, s, 3)
		says(t, s, 3, b("", 1))
		way(t, s, 1) // the Ack
	}
}

// Other must be another host. That comes behind wrong texts, and ahead of who has the keys.
func TestP19_2MoveFromToNone(t *testing.T) {
	s := begin(t, 3)
	run(t, s, set(1, "b", "v"))
	for host := 1; host <= 3; host++ {
		for _, other := range []int{math.MinInt, -1, 0, 4, 9, 10, math.MaxInt, host} {
			changesNothing(t, s, move(host, other, "a", "c"), refused(api.ErrWorld, 0))
			changesNothing(t, s, move(host, other, "c", "a"), refused(api.ErrWorld, 0))
			changesNothing(t, s, move(host, other, many(17), "c"), refused(api.ErrCommand, 0))
		}
	}
	alone := begin(t, 1)
	for _, other := range []int{0, 1, 2} {
		changesNothing(t, alone, move(1, other, "", ""), refused(api.ErrWorld, 0))
	}
}

// A host that has not all keys of a range gives none of them; nor of a range that holds none.
func TestP19_2MoveFromNotAll(t *testing.T) {
	s := begin(t, 3)
	run(t, s, set(1, "a", "1"), set(1, "c", "3"), set(1, "e", "5"), move(1, 2, "b", "d"), send(1))
	for _, x := range [][2]string{{"b", "d"}, {"b", "c"}, {"c", "d"}, {"a", "c"}, {"a", "b\x00"}, {"c", "e"}, {"", ""}, {"a", "e"}, {"c\xff", ""},
		{"a", "a"}, {"e", "d"}, {"e", "a"}, {"c", "b"}} {
		changesNothing(t, s, move(1, 2, x[0], x[1]), refused(api.ErrLeader, 1))
		changesNothing(t, s, move(1, 3, x[0], x[1]), refused(api.ErrLeader, 1))
		changesNothing(t, s, move(2, 1, x[0], x[1]), refused(api.ErrLeader, 2))
		changesNothing(t, s, move(3, 1, x[0], x[1]), refused(api.ErrLeader, 3))
	}
	run(t, s, arrive(0))
	is(t, s, move(2, 3, "c", "e"), refused(api.ErrLeader, 2))
	is(t, s, move(2, 3, "c", "d"), names(2))
	is(t, s, move(2, 3, "c", "d"), refused(api.ErrLeader, 2))
	is(t, s, move(1, 3, "d", ""), names(1))
	is(t, s, move(1, 3, "", "b"), names(1))
	has(t, s, 1)
	says(t, s, 1, b("", 3), b("b", 2), b("d", 3))
	says(t, s, 2, b("", 1), b("b", 2), b("c", 3), b("d", 1))
}

// letter: the n-th.
func letter(n int) string {
	return string(rune('a' + n))
}

// So many wait, of each other host its own: the next is refused, and stays.
func TestP19_2MoveFromTooMany(t *testing.T) {
	s := begin(t, 3)
	for n := range 20 {
		run(t, s, set(1, letter(n), letter(n)))
	}
	for n := range api.MaxWaiting {
		is(t, s, move(1, 2, letter(n), letter(n+1)), names(1))
	}
	has(t, s, 1, "q", "q", "r", "r", "s", "s", "t", "t")
	changesNothing(t, s, move(1, 2, "q", "r"), refused(api.ErrBound, 1))
	changesNothing(t, s, move(1, 2, "q", ""), refused(api.ErrBound, 1))
	changesNothing(t, s, move(1, 2, "p", ""), refused(api.ErrLeader, 1))
	changesNothing(t, s, get(1, "q"), value(1, "q"))
	is(t, s, move(1, 3, "q", "r"), names(1)) // that another host is full is nothing to this one
	run(t, s, send(1))
	way(t, s, 17)
	run(t, s, arrive(0)) // it waits on, till its Ack has come
	is(t, s, move(1, 2, "r", "s"), refused(api.ErrBound, 1))
	run(t, s, arrive(-1))
	is(t, s, move(1, 2, "r", "s"), names(1))
	is(t, s, move(1, 2, "s", "t"), refused(api.ErrBound, 1))
	s.Heal(1)
	says(t, s, 1, b("", 1), b("a", 2), b("q", 3), b("r", 2), b("s", 1))
	has(t, s, 3, "q", "q")
	if l, _, _ := s.Look(2); len(l) != 17 {
		t.Errorf("P19.2: host 2 has %d items", len(l))
	}
}

// All that waits is sent, each time anew, by rising hosts and numbers, at the end of what is on its way.
func TestP19_2SendAll(t *testing.T) {
	s := begin(t, 3)
	run(t, s, set(1, "a", "1"), set(1, "b", "2"), set(1, "c", "3"))
	is(t, s, send(1), nothing)
	way(t, s, 0)
	run(t, s, move(1, 3, "a", "b"), move(1, 2, "b", "c"), move(1, 3, "c", "d"))
	is(t, s, send(2), nothing)
	way(t, s, 0)
	is(t, s, send(1), nothing)
	way(t, s, 3)
	is(t, s, send(1), nothing)
	way(t, s, 6)
	run(t, s, arrive(3)) // the first of the second time: to host 2
	has(t, s, 2, "b", "2")
	run(t, s, arrive(2)) // the last of the first time: the second that goes to host 3: not yet
	has(t, s, 3)
	way(t, s, 5) // it brings no Ack, since nothing has come
	run(t, s, arrive(1))
	has(t, s, 3, "a", "1")
	run(t, s, arrive(2))
	has(t, s, 3, "a", "1", "c", "3")
	way(t, s, 5)
	run(t, s, arrive(-1), send(1)) // all that went to host 3 is acknowledged
	way(t, s, 5)
	run(t, s, arrive(2), send(1)) // what went to host 2, too
	way(t, s, 4)
}

// Ranges go round, and come back with what was done to them.
func TestP19_2ThereAndBack(t *testing.T) {
	s := begin(t, 3)
	run(t, s, set(1, "b", "1"), set(1, "c", "1"), set(1, "x", "1"), move(1, 2, "a", "m"), send(1), arrive(0))
	is(t, s, set(2, "b", "2"), done(2))
	is(t, s, del(2, "c"), done(2))
	is(t, s, set(2, "d", "2"), done(2))
	run(t, s, move(2, 3, "b", "d"), send(2), arrive(-1))
	has(t, s, 2, "d", "2")
	has(t, s, 3, "b", "2")
	says(t, s, 3, b("", 1), b("b", 3), b("d", 1))
	is(t, s, get(2, "b"), names(3))
	is(t, s, get(1, "b"), names(2))
	is(t, s, get(3, "d"), names(1))
	run(t, s, move(3, 1, "b", "d"), send(3), arrive(-1))
	has(t, s, 1, "b", "2", "x", "1")
	says(t, s, 1, b("", 1), b("a", 2), b("b", 1), b("d", 2), b("m", 1))
	is(t, s, get(1, "b"), value(1, "2"))
	is(t, s, get(1, "c"), missing(1))
	is(t, s, get(2, "b"), names(3))
	is(t, s, get(3, "b"), names(1))
}

// The answer's Host is Host, whatever comes of it; a host that has the key is answered with Result alone.
func TestP19_2Values(t *testing.T) {
	s := begin(t, 2)
	for _, v := range []string{"", "v", " =", "\x00", "\xff\xfe", many(64)} {
		is(t, s, set(1, "b", v), done(1))
		is(t, s, get(1, "b"), value(1, v))
		is(t, s, move(1, 2, "b", "c"), names(1))
		run(t, s, send(1), arrive(-1))
		is(t, s, get(2, "b"), value(2, v))
		is(t, s, move(2, 1, "b", "c"), names(2))
		run(t, s, send(2), arrive(-1))
		is(t, s, get(1, "b"), value(1, v))
		s.Heal(1)
	}
}

// Many items, of which no chapter names a greatest number.
func TestP19_2ManyItems(t *testing.T) {
	s := begin(t, 2)
	const count = 3000
	for n := range count {
		run(t, s, set(1, fmt.Sprintf("%05d", n*7919%count), many(64)))
	}
	run(t, s, move(1, 2, "01000", "02000"), send(1), arrive(0))
	for id, want := range []int{2000, 1000} {
		l, _, _ := s.Look(id + 1)
		if len(l) != want || !slices.IsSortedFunc(l, func(a, b api.Item) int { return slices.Compare([]byte(a.Key), []byte(b.Key)) }) {
			t.Errorf("P19.2: host %d has %d items", id+1, len(l))
		}
	}
}

// Look's lists are new memory, their spare room too.
func TestP19_4LookIsNew(t *testing.T) {
	s := begin(t, 2)
	run(t, s, set(1, "a", "1"), set(1, "b", "2"), set(1, "c", "3"), move(1, 2, "b", "c"))
	was := all(s)
	items, keys, _ := s.Look(1)
	for i := range items[:cap(items)] {
		items[:cap(items)][i] = api.Item{Key: "over", Value: "over"}
	}
	for i := range keys[:cap(keys)] {
		keys[:cap(keys)][i] = b("over", 9)
	}
	if now := all(s); now != was {
		t.Errorf("P19.4: Look shares memory: %s; it was %s", now, was)
	}
	before, _, _ := s.Look(1)
	copied := slices.Clone(before)
	run(t, s, set(1, "a", "9"), set(1, "aa", "9"), del(1, "c"))
	if !slices.Equal(before, copied) {
		t.Errorf("P19.4: what Look told changes: %v", before)
	}
}
