package shard

import (
	"fmt"
	"slices"
	"strings"
	"testing"

	"quorate/api"
	"quorate/deleg"
	"quorate/wire"
)

// frames: of texts, one behind the other.
func frames(texts ...string) string {
	var b strings.Builder
	for _, s := range texts {
		f, _ := wire.Frame(s)
		b.WriteString(f)
	}
	return b.String()
}

// What is sent: the frames that the chapter names, in this order.
func TestP19_2Body(t *testing.T) {
	s, _ := New(2)
	for _, key := range []string{"d", "b", "c", "a", "e"} {
		s.Do(api.ShardStep{Kind: api.SetAt, Host: 1, Key: key, Value: key + "!"})
	}
	s.Do(api.ShardStep{Kind: api.MoveFrom, Host: 1, Other: 2, Key: "b", Upto: "d"})
	s.Do(api.ShardStep{Kind: api.MoveFrom, Host: 1, Other: 2, Key: "f", Upto: "g"})
	s.Do(api.ShardStep{Kind: api.MoveFrom, Host: 1, Other: 2, Key: "", Upto: "b"})
	s.Do(api.ShardStep{Kind: api.MoveFrom, Host: 1, Other: 2, Key: "h", Upto: ""})
	s.Do(api.ShardStep{Kind: api.SendAll, Host: 1})
	want := []string{frames("b", "d", "b", "b!", "c", "c!"), frames("f", "g"), frames("", "b", "a", "a!"), frames("h", "")}
	if len(s.way) != len(want) {
		t.Fatalf("P19.2: %d packets", len(s.way))
	}
	for i, p := range s.way {
		if (p != api.Packet{From: 1, To: 2, Number: i + 1, Body: want[i]}) {
			t.Errorf("P19.2: packet %d: %+v; want %q", i, p, want[i])
		}
	}
}

// A body that is no such says nothing.
func TestP19_3WrongBodies(t *testing.T) {
	good := frames("b", "d", "b", "1", "c", "2")
	for name, body := range map[string]string{
		"nothing":              "",
		"no frames":            "hello",
		"one frame":            frames("b"),
		"three frames":         frames("b", "d", "b"),
		"five frames":          frames("b", "d", "b", "1", "c"),
		"cut":                  good[:len(good)-1],
		"cut in the middle":    good[:10],
		"a byte more":          good + "\x00",
		"a byte ahead":         "\x00" + good,
		"a byte turned":        "\x01c" + good[2:],
		"a sum turned":         good[:len(good)-1] + "\x00",
		"a key behind":         frames("b", "d", "d", "1"),
		"a key ahead":          frames("b", "d", "b", "1", "a", "2"),
		"no key is in there":   frames("d", "b", "c", "1"),
		"nor in an empty one":  frames("b", "b", "b", "1"),
		"what is not a number": "\xff\xff\xff\xff\xff\xff\xff",
	} {
		s, _ := New(2)
		h := s.hosts[1]
		h.take(body)
		if len(h.items) != 0 || !slices.Equal(h.keys, deleg.New(1)) {
			t.Errorf("P19.3: %s: %q, %v", name, h.items, h.keys)
		}
	}
	s, _ := New(2)
	h := s.hosts[1]
	h.set(api.Item{Key: "c", Value: "old"})
	h.set(api.Item{Key: "x", Value: "stays"})
	h.take(good)
	if fmt.Sprint(h.items) != "[{b 1} {c 2} {x stays}]" || fmt.Sprint(h.keys) != "[{ 1} {b 2} {d 1}]" {
		t.Errorf("P19.3: %v, %v", h.items, h.keys)
	}
}

// A body that is no such comes in a packet: it is acknowledged, and says nothing.
func TestP19_3WrongPacket(t *testing.T) {
	s, _ := New(2)
	s.way = append(s.way, api.Packet{From: 1, To: 2, Number: 1, Body: "hello"})
	s.Do(api.ShardStep{Kind: api.Arrive})
	if !slices.Equal(s.way, []api.Packet{{From: 2, To: 1, Number: 1, Ack: true}}) || len(s.hosts[1].items) != 0 || !slices.Equal(s.hosts[1].keys, deleg.New(1)) {
		t.Errorf("P19.3: %v, %v, %v", s.way, s.hosts[1].items, s.hosts[1].keys)
	}
}

// What is written comes back.
func TestP19_2PackAndUnpack(t *testing.T) {
	for _, l := range [][]api.Item{
		nil,
		{{Key: "a"}},
		{{Key: "a", Value: "\x00\xff"}, {Key: "b", Value: strings.Repeat("v", api.MaxValue)}, {Key: strings.Repeat("k", api.MaxKey)}},
	} {
		from, upto, items, is := unpack(pack("a", "", l))
		if from != "a" || upto != "" || !slices.Equal(items, l) || !is {
			t.Errorf("P19.2: %q: %q, %q, %q, %v", l, from, upto, items, is)
		}
	}
}

// Nothing that was taken off stays in memory.
func TestP19_3TakenOff(t *testing.T) {
	for at := range 4 {
		whole := []api.Packet{{Number: 1}, {Number: 2}, {Number: 3}, {Number: 4}}
		s := Shards{way: whole}
		if p := s.takeOff(at); p.Number != at+1 {
			t.Errorf("P19.3: %d: %+v is taken off", at, p)
		}
		want := slices.Delete([]api.Packet{{Number: 1}, {Number: 2}, {Number: 3}, {Number: 4}}, at, at+1)
		if !slices.Equal(s.way, want) || whole[0] != (api.Packet{}) {
			t.Errorf("P19.3: %d: %v, in %v", at, s.way, whole)
		}
	}
}

// script: how a place was come to: the host that gives all keys away, and to whom; that one sends; that a packet comes, which may come again.
type script []api.ShardStep

// mostMoves: that a script has.
const mostMoves = 4

// play: the shards behind a script, and how often all was given away. What is on its way stays there for good, once each: it may come at any moment, and again.
func play(t *testing.T, l script) (*Shards, int) {
	t.Helper()
	s, _ := New(3)
	moves := 0
	for _, x := range l {
		if x.Kind == api.MoveFrom {
			moves++
			s.Do(api.ShardStep{Kind: api.SetAt, Host: x.Host, Key: "k", Value: fmt.Sprint(moves)})
		}
		if x.Kind == api.Arrive {
			s.Do(api.ShardStep{Kind: api.DoublePacket, N: x.N})
		}
		if a := s.Do(x); a.Err != api.OK {
			t.Fatalf("P19: %+v: %+v", l, a)
		}
		slices.SortFunc(s.way, func(a, b api.Packet) int { return strings.Compare(fmt.Sprint(a), fmt.Sprint(b)) })
		s.way = slices.Compact(s.way)
	}
	return s, moves
}

func (s *Shards) name() string {
	var b strings.Builder
	for _, h := range s.hosts {
		fmt.Fprintln(&b, h.items, h.keys, *h.Relay)
	}
	return fmt.Sprint(b.String(), s.way)
}

// owner: who has all keys; 0, while they are on their way. It has what was set last.
func owner(t *testing.T, s *Shards, l script, moves int) (id int) {
	t.Helper()
	for _, h := range s.hosts {
		if deleg.At(h.keys, "k") != h.id {
			if len(h.items) > 0 {
				t.Fatalf("P19: %+v: host %d has %v", l, h.id, h.items)
			}
			continue
		}
		if id != 0 {
			t.Fatalf("P19: %+v: both %d and %d have the keys", l, id, h.id)
		}
		id = h.id
		if moves > 0 && (len(h.items) != 1 || h.items[0].Value != fmt.Sprint(moves)) {
			t.Fatalf("P19: %+v: host %d has %v behind %d moves", l, h.id, h.items, moves)
		}
	}
	return id
}

// heals: once packets come there is an owner, and any host leads to it.
func heals(t *testing.T, l script) {
	t.Helper()
	s, moves := play(t, l)
	s.Heal(2)
	id := owner(t, s, l, moves)
	for first := 1; first <= 3; first++ {
		host := first
		for range 2 {
			host = s.Do(api.ShardStep{Kind: api.GetAt, Host: host, Key: "k"}).Host
		}
		if host != id || id == 0 {
			t.Fatalf("P19: %+v: healed: from host %d on one comes to %d; the owner is %d", l, first, host, id)
		}
	}
	if s.Way() > 0 {
		t.Fatalf("P19.4: %+v: healed: %d packets", l, s.Way())
	}
}

// next: steps that may follow.
func next(s *Shards, id, moves int) (l []api.ShardStep) {
	for host := 1; host <= 3; host++ {
		if id != 0 && host != id && moves < mostMoves {
			l = append(l, api.ShardStep{Kind: api.MoveFrom, Host: id, Other: host})
		}
		l = append(l, api.ShardStep{Kind: api.SendAll, Host: host})
	}
	for n := range s.way {
		l = append(l, api.ShardStep{Kind: api.Arrive, N: n})
	}
	return l
}

// All keys go from host to host, and packets are lost, doubled and turned round: in every order.
func TestP19EveryOrder(t *testing.T) {
	seen := map[string]bool{}
	for l := []script{nil}; len(l) > 0; {
		way := l[len(l)-1]
		l = l[:len(l)-1]
		s, moves := play(t, way)
		id := owner(t, s, way, moves)
		heals(t, way)
		for _, x := range next(s, id, moves) {
			longer := append(slices.Clone(way), x)
			s, _ := play(t, longer)
			if name := s.name(); !seen[name] {
				seen[name] = true
				l = append(l, longer)
			}
		}
	}
	if len(seen) < 600 {
		t.Errorf("P19: just %d places", len(seen))
	}
}
