package shard_test

import (
	"fmt"
	"maps"
	"math/rand"
	"slices"
	"testing"

	"quorate/api"
	"quorate/deleg"
	"quorate/shard"
)

// model: a second telling of shards: what each host was told of ranges, last at the end; all that was ever sent; one map besides.
type model struct {
	hosts  int
	told   [10][]told
	items  [10]map[string]string
	sent   [10][10][]gift // from, to
	acked  [10][10]int    // of what one sent the other
	come   [10][10]int    // from one to the other
	way    []note
	single map[string]string // what a single map would have
}

// told: a range is a host's.
type told struct {
	from, upto string
	host       int
}

// gift: a range that is given, with its items.
type gift struct {
	from, upto string
	items      map[string]string
}

// note: that a gift is sent, or acknowledged.
type note struct {
	from, to, number int
	ack              bool
}

func newModel(hosts int) *model {
	m := &model{hosts: hosts, single: map[string]string{}}
	for id := range m.items {
		m.items[id] = map[string]string{}
		m.told[id] = []told{{host: 1}}
	}
	return m
}

func holds(from, upto, key string) bool {
	return key >= from && (key < upto || upto == "")
}

func (m *model) at(id int, key string) (host int) {
	for _, x := range m.told[id] {
		if holds(x.from, x.upto, key) {
			host = x.host
		}
	}
	return host
}

// edges: all keys at which something that a host was told begins or ends, and these.
func (m *model) edges(id int, keys ...string) []string {
	for _, x := range m.told[id] {
		keys = append(keys, x.from, x.upto)
	}
	slices.Sort(keys)
	return slices.Compact(keys)
}

func (m *model) hasAll(id int, from, upto string) bool {
	for _, key := range m.edges(id, from) {
		if holds(from, upto, key) && m.at(id, key) != id {
			return false
		}
	}
	return holds(from, upto, from)
}

// delegation: as few bounds as can be.
func (m *model) delegation(id int) (l []api.Bound) {
	for _, key := range m.edges(id) {
		if host := m.at(id, key); len(l) == 0 || l[len(l)-1].Host != host {
			l = append(l, api.Bound{From: key, Host: host})
		}
	}
	return l
}

func (m *model) list(id int) (l []api.Item) {
	for _, key := range slices.Sorted(maps.Keys(m.items[id])) {
		l = append(l, api.Item{Key: key, Value: m.items[id][key]})
	}
	return l
}

func (m *model) isHost(id int) bool {
	return id >= 1 && id <= m.hosts
}

func (m *model) do(x api.ShardStep) api.ShardAnswer {
	if x.Kind >= 6 {
		m.carry(x)
		return api.ShardAnswer{}
	}
	switch {
	case !m.isHost(x.Host):
		return api.ShardAnswer{Err: api.ErrWorld}
	case len(x.Key) > 16, len(x.Upto) > 16, len(x.Value) > 64, x.Key == "" && x.Kind < 4:
		return api.ShardAnswer{Err: api.ErrCommand}
	case x.Kind < 1:
		return api.ShardAnswer{}
	case x.Kind == 5:
		m.send(x.Host)
		return api.ShardAnswer{}
	case x.Kind == 4 && (!m.isHost(x.Other) || x.Other == x.Host):
		return api.ShardAnswer{Err: api.ErrWorld}
	case x.Kind == 4:
		return api.ShardAnswer{Err: m.move(x), Host: x.Host}
	}
	return m.ask(x)
}

func (m *model) ask(x api.ShardStep) api.ShardAnswer {
	a := api.ShardAnswer{Host: m.at(x.Host, x.Key)}
	if a.Host != x.Host {
		return a
	}
	v, there := m.single[x.Key]
	a.Result.Kind = api.Done
	switch {
	case x.Kind == 1:
		m.single[x.Key], m.items[x.Host][x.Key] = x.Value, x.Value
	case !there:
		a.Result.Kind = api.Missing
	case x.Kind == 2:
		a.Result.Value = v
	default:
		delete(m.single, x.Key)
		delete(m.items[x.Host], x.Key)
	}
	return a
}

func (m *model) move(x api.ShardStep) api.Errno {
	if !m.hasAll(x.Host, x.Key, x.Upto) {
		return api.ErrLeader
	}
	sent := &m.sent[x.Host][x.Other]
	if len(*sent)-m.acked[x.Host][x.Other] >= 16 {
		return api.ErrBound
	}
	g := gift{x.Key, x.Upto, map[string]string{}}
	for key, v := range m.items[x.Host] {
		if holds(x.Key, x.Upto, key) {
			g.items[key] = v
		}
	}
	for key := range g.items {
		delete(m.items[x.Host], key)
	}
	*sent = append(*sent, g)
	m.told[x.Host] = append(m.told[x.Host], told{x.Key, x.Upto, x.Other})
	return api.OK
}

func (m *model) send(id int) {
	for to := 1; to <= m.hosts; to++ {
		for n := m.acked[id][to] + 1; n <= len(m.sent[id][to]); n++ {
			m.way = append(m.way, note{id, to, n, false})
		}
	}
}

func (m *model) carry(x api.ShardStep) {
	if len(m.way) == 0 || x.Kind > 8 {
		return
	}
	at := x.N % len(m.way)
	for at < 0 {
		at += len(m.way)
	}
	p := m.way[at]
	if x.Kind == 8 {
		m.way = append(m.way, p)
		return
	}
	m.way = slices.Delete(m.way, at, at+1)
	if x.Kind == 6 {
		m.receive(p)
	}
}

func (m *model) receive(p note) {
	if p.ack {
		m.acked[p.to][p.from] = max(m.acked[p.to][p.from], p.number)
		return
	}
	come := &m.come[p.from][p.to]
	if p.number == *come+1 {
		*come++
		g := m.sent[p.from][p.to][p.number-1]
		m.told[p.to] = append(m.told[p.to], told{g.from, g.upto, p.to})
		maps.Copy(m.items[p.to], g.items)
	}
	if *come > 0 {
		m.way = append(m.way, note{p.to, p.from, *come, true})
	}
}

func (m *model) heal(times int) {
	for range min(times, 100) {
		for id := 1; id <= m.hosts; id++ {
			m.send(id)
		}
		for n := 0; n < 2000 && len(m.way) > 0; n++ {
			m.carry(api.ShardStep{Kind: 6})
		}
	}
}

// same: shards are as the model says.
func (m *model) same(t *testing.T, s *shard.Shards, what string) {
	t.Helper()
	if s.Way() != len(m.way) {
		t.Fatalf("P19.4: %s: %d packets are on their way; want %d", what, s.Way(), len(m.way))
	}
	for id := 1; id <= m.hosts; id++ {
		items, keys, there := s.Look(id)
		if !there || !slices.Equal(items, m.list(id)) || !slices.Equal(keys, m.delegation(id)) || !deleg.Valid(keys) {
			t.Fatalf("P19: %s: host %d: %q, %v; want %q, %v", what, id, items, keys, m.list(id), m.delegation(id))
		}
	}
}

// keys: of chance, and the edges between them.
var keys = []string{"", "a", "b", "bb", "c", "d", "e", "\xff", "kkkkkkkkkkkkkkkk"}

// shared: no key has two hosts; an item is just where its key's host is.
func (m *model) shared(t *testing.T, s *shard.Shards, what string) {
	t.Helper()
	for _, key := range keys {
		owners := 0
		for id := 1; id <= m.hosts; id++ {
			items, l, _ := s.Look(id)
			own := deleg.At(l, key) == id
			if own {
				owners++
			}
			there := slices.ContainsFunc(items, func(x api.Item) bool { return x.Key == key })
			if _, want := m.single[key]; there != (own && want) {
				t.Fatalf("P19: %s: host %d has an item %q: %v; want %v", what, id, key, there, own && want)
			}
		}
		if owners > 1 {
			t.Fatalf("P19: %s: %q has %d hosts", what, key, owners)
		}
	}
}

// found: from any host on one finds who has a key, in as many steps as there are hosts, and what a single map has.
func (m *model) found(t *testing.T, s *shard.Shards, what string) {
	t.Helper()
	for _, key := range keys[1:] {
		for first := 1; first <= m.hosts; first++ {
			host := first
			var a api.ShardAnswer
			for n := 0; n < m.hosts && a.Result.Kind == 0; n++ {
				a = s.Do(get(host, key))
				host = a.Host
			}
			v, there := m.single[key]
			if want := []int{api.Missing, api.Done}[count(there)]; a.Err != api.OK || a.Result.Kind != want || a.Result.Value != v {
				t.Fatalf("P19: %s: %q, from host %d on: %+v; want %d %q", what, key, first, a, want, v)
			}
		}
	}
}

func count(is bool) int {
	if is {
		return 1
	}
	return 0
}

// chance: a step; now and then a wrong one.
func chance(r *rand.Rand, m *model) api.ShardStep {
	x := api.ShardStep{
		Kind: []int{1, 1, 1, 2, 3, 4, 4, 4, 4, 5, 5, 6, 6, 6, 6, 6, 6, 7, 8}[r.Intn(19)],
		Host: 1 + r.Intn(m.hosts), Other: 1 + r.Intn(m.hosts), N: r.Intn(9) - 4,
		Key: keys[r.Intn(len(keys))], Upto: keys[r.Intn(len(keys))], Value: fmt.Sprint(r.Intn(100)),
	}
	if r.Intn(2) == 0 { // who has the key, so that something comes of it
		for id := 1; id <= m.hosts; id++ {
			if m.at(id, x.Key) == id {
				x.Host = id
			}
		}
	}
	if r.Intn(20) == 0 {
		switch r.Intn(6) {
		case 0:
			x.Host = []int{-1, 0, m.hosts + 1}[r.Intn(3)]
		case 1:
			x.Other = []int{-1, 0, m.hosts + 1}[r.Intn(3)]
		case 2:
			x.Key = many(17)
		case 3:
			x.Upto = many(17)
		case 4:
			x.Value = many(65)
		case 5:
			x.Kind = []int{-1, 0, 9, 10}[r.Intn(4)]
		}
	}
	return x
}

func TestP19ChanceScripts(t *testing.T) {
	r := rand.New(rand.NewSource(19))
	kinds := map[api.Errno]int{}
	results := map[int]int{}
	for k := range 150 {
		m := newModel(1 + r.Intn(api.MaxNode))
		if k%2 == 0 {
			m = newModel(2 + k%3)
		}
		s := begin(t, m.hosts)
		for i := range 150 {
			x := chance(r, m)
			what := fmt.Sprintf("run %d of %d hosts, step %d: %+v", k, m.hosts, i, x)
			got, want := s.Do(x), m.do(x)
			if tell(got) != tell(want) {
				t.Fatalf("P19: %s: %+v; want %+v", what, got, want)
			}
			kinds[got.Err]++
			results[got.Result.Kind]++
			m.same(t, s, what)
			m.shared(t, s, what)
			if r.Intn(60) == 0 {
				times := r.Intn(3)
				s.Heal(times)
				m.heal(times)
				m.same(t, s, what+", healed")
			}
		}
		s.Heal(2)
		m.heal(2)
		what := fmt.Sprintf("run %d of %d hosts, healed", k, m.hosts)
		m.same(t, s, what)
		m.shared(t, s, what)
		m.found(t, s, what)
	}
	if kinds[api.ErrWorld] < 100 || kinds[api.ErrCommand] < 100 || kinds[api.ErrLeader] < 100 || results[api.Done] < 1000 || results[api.Missing] < 100 {
		t.Errorf("P19: too few of some: errors %v, results %v", kinds, results)
	}
}

// Packets that are hardly ever delivered: so many wait that some can't be sent.
func TestP19ChanceFull(t *testing.T) {
	r := rand.New(rand.NewSource(20))
	full := 0
	for k := range 20 {
		m := newModel(2 + k%2)
		s := begin(t, m.hosts)
		for i := range 120 {
			n := r.Intn(90)
			x := move(1, 2, fmt.Sprintf("%02d", n), fmt.Sprintf("%02d", n+1))
			if r.Intn(8) == 0 {
				x = []api.ShardStep{send(1), arrive(0), arrive(-1), arrive(-1), set(1, x.Key, "v")}[r.Intn(5)]
			}
			got, want := s.Do(x), m.do(x)
			if tell(got) != tell(want) {
				t.Fatalf("P19.2: run %d, step %d: %+v: %+v; want %+v", k, i, x, got, want)
			}
			full += count(got.Err == api.ErrBound)
		}
		m.same(t, s, "many moves")
		s.Heal(1)
		m.heal(1)
		m.same(t, s, "many moves, healed")
	}
	if full < 100 {
		t.Errorf("P19.2: just %d could not be sent", full)
	}
}
