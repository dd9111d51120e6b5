package shard_test

import (
	"fmt"
	"slices"
	"strings"
	"testing"

	"quorate/api"
	"quorate/shard"
)

// begin: so many hosts.
func begin(t *testing.T, hosts int) *shard.Shards {
	t.Helper()
	s, e := shard.New(hosts)
	if s == nil || e != api.OK {
		t.Fatalf("P19.1: New(%d): %d", hosts, e)
	}
	return s
}

// many: a text of so many bytes.
func many(n int) string {
	return strings.Repeat("k", n)
}

// tell: a value, for a look; nil and empty lists are the same.
func tell(x any) string {
	return fmt.Sprintf("%+v", x)
}

// Steps.

func set(host int, key, value string) api.ShardStep {
	return api.ShardStep{Kind: api.SetAt, Host: host, Key: key, Value: value}
}

func get(host int, key string) api.ShardStep {
	return api.ShardStep{Kind: api.GetAt, Host: host, Key: key}
}

func del(host int, key string) api.ShardStep {
	return api.ShardStep{Kind: api.DeleteAt, Host: host, Key: key}
}

func move(host, other int, key, upto string) api.ShardStep {
	return api.ShardStep{Kind: api.MoveFrom, Host: host, Other: other, Key: key, Upto: upto}
}

func send(host int) api.ShardStep {
	return api.ShardStep{Kind: api.SendAll, Host: host}
}

func arrive(n int) api.ShardStep {
	return api.ShardStep{Kind: api.Arrive, N: n}
}

func lose(n int) api.ShardStep {
	return api.ShardStep{Kind: api.LosePacket, N: n}
}

func double(n int) api.ShardStep {
	return api.ShardStep{Kind: api.DoublePacket, N: n}
}

// Answers.

func done(host int) api.ShardAnswer {
	return api.ShardAnswer{Host: host, Result: api.Result{Kind: api.Done}}
}

func value(host int, v string) api.ShardAnswer {
	return api.ShardAnswer{Host: host, Result: api.Result{Kind: api.Done, Value: v}}
}

func missing(host int) api.ShardAnswer {
	return api.ShardAnswer{Host: host, Result: api.Result{Kind: api.Missing}}
}

// names: another host is to be asked, or the step has no result.
func names(host int) api.ShardAnswer {
	return api.ShardAnswer{Host: host}
}

func refused(e api.Errno, host int) api.ShardAnswer {
	return api.ShardAnswer{Err: e, Host: host}
}

// nothing: is answered by steps that ask nobody for anything.
var nothing = api.ShardAnswer{}

// is: a step is answered so.
func is(t *testing.T, s *shard.Shards, x api.ShardStep, want api.ShardAnswer) {
	t.Helper()
	if got := s.Do(x); tell(got) != tell(want) {
		t.Errorf("P19: %.300s: %+v; want %+v", tell(x), got, want)
	}
}

// run: steps that have no result, and are not refused.
func run(t *testing.T, s *shard.Shards, l ...api.ShardStep) {
	t.Helper()
	for _, x := range l {
		if a := s.Do(x); a.Err != api.OK {
			t.Fatalf("P19: %.300s: %+v", tell(x), a)
		}
	}
}

// has: a host has just these items: keys and values, by turns.
func has(t *testing.T, s *shard.Shards, host int, texts ...string) {
	t.Helper()
	var want []api.Item
	for i := 0; i < len(texts); i += 2 {
		want = append(want, api.Item{Key: texts[i], Value: texts[i+1]})
	}
	l, _, there := s.Look(host)
	if !slices.Equal(l, want) || !there {
		t.Errorf("P19.4: host %d has %.300q, %v; want %.300q", host, l, there, want)
	}
}

// says: a host's delegation is this one.
func says(t *testing.T, s *shard.Shards, host int, want ...api.Bound) {
	t.Helper()
	_, l, there := s.Look(host)
	if !slices.Equal(l, want) || !there {
		t.Errorf("P19.4: host %d says %v, %v; want %v", host, l, there, want)
	}
}

// b: a bound.
func b(from string, host int) api.Bound {
	return api.Bound{From: from, Host: host}
}

// way: so many packets are on their way.
func way(t *testing.T, s *shard.Shards, want int) {
	t.Helper()
	if got := s.Way(); got != want {
		t.Errorf("P19.4: %d packets are on their way; want %d", got, want)
	}
}

// all: that is to be seen.
func all(s *shard.Shards) string {
	var l []string
	for id := 1; id <= api.MaxNode; id++ {
		items, keys, there := s.Look(id)
		l = append(l, fmt.Sprintf("%q %v %v", items, keys, there))
	}
	return fmt.Sprint(l, s.Way())
}

// changesNothing: a step is answered so, and nothing that is to be seen changes.
func changesNothing(t *testing.T, s *shard.Shards, x api.ShardStep, want api.ShardAnswer) {
	t.Helper()
	was := all(s)
	is(t, s, x, want)
	if now := all(s); now != was {
		t.Errorf("P19: %.300s: %s; it was %s", tell(x), now, was)
	}
}
