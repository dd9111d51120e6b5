package shard_test

import (
	"fmt"
	"math"
	"slices"
	"testing"

	"quorate/api"
	"quorate/shard"
)

// three: packets on their way from host 1: to host 2 with b, to host 3 with c, to host 4 with d, in this order.
func three(t *testing.T) *shard.Shards {
	t.Helper()
	s := begin(t, 4)
	for host := 2; host <= 4; host++ {
		key := letter(host - 1)
		run(t, s, set(1, key, "v"), move(1, host, key, key+"\x00"))
	}
	run(t, s, send(1))
	way(t, s, 3)
	return s
}

// came: the hosts to which something has come.
func came(s *shard.Shards) (l []int) {
	for id := 2; id <= api.MaxNode; id++ {
		if items, _, _ := s.Look(id); len(items) > 0 {
			l = append(l, id)
		}
	}
	return l
}

// places: numbers of steps, and which of three packets they mean.
func places() map[int]int {
	return map[int]int{
		0: 0, 1: 1, 2: 2, 3: 0, 4: 1, 5: 2, 6: 0, 3000: 0, 3001: 1,
		-1: 2, -2: 1, -3: 0, -4: 2, -5: 1, -6: 0, -3000: 0, -3001: 2,
		math.MaxInt: math.MaxInt % 3, math.MinInt: (math.MinInt%3 + 3) % 3,
	}
}

func TestP19_3Arrive(t *testing.T) {
	for n, at := range places() {
		s := three(t)
		is(t, s, arrive(n), nothing)
		if l := came(s); !slices.Equal(l, []int{at + 2}) {
			t.Errorf("P19.3: Arrive %d: to hosts %v something has come; want to %d", n, l, at+2)
		}
		has(t, s, at+2, letter(at+1), "v")
		says(t, s, at+2, b("", 1), b(letter(at+1), at+2), b(letter(at+1)+"\x00", 1))
		way(t, s, 3) // the other two, and an Ack at the end
		run(t, s, arrive(2), send(1))
		way(t, s, 4) // two are sent again, the one that was acknowledged is not
		run(t, s, arrive(0), arrive(0))
		if l := came(s); len(l) != 3 {
			t.Errorf("P19.3: Arrive %d, then the other two: to hosts %v something has come", n, l)
		}
	}
}

func TestP19_3LosePacket(t *testing.T) {
	for n, at := range places() {
		s := three(t)
		is(t, s, lose(n), nothing)
		way(t, s, 2)
		run(t, s, arrive(0), arrive(0))
		want := slices.Delete([]int{2, 3, 4}, at, at+1)
		if l := came(s); !slices.Equal(l, want) {
			t.Errorf("P19.3: LosePacket %d: to hosts %v something has come; want to %v", n, l, want)
		}
		run(t, s, lose(0), lose(0)) // the two Acks
		way(t, s, 0)
		run(t, s, send(1)) // it waits on
		way(t, s, 3)
		run(t, s, arrive(at))
		has(t, s, at+2, letter(at+1), "v")
	}
}

func TestP19_3DoublePacket(t *testing.T) {
	for n, at := range places() {
		s := three(t)
		is(t, s, double(n), nothing)
		way(t, s, 4)
		run(t, s, arrive(3)) // the last one is the double
		if l := came(s); !slices.Equal(l, []int{at + 2}) {
			t.Errorf("P19.3: DoublePacket %d: to hosts %v something has come; want to %d", n, l, at+2)
		}
		for range 3 {
			run(t, s, arrive(0))
		}
		if l := came(s); len(l) != 3 {
			t.Errorf("P19.3: DoublePacket %d: the three stay where they are: %v", n, l)
		}
		way(t, s, 4) // an Ack of each that came
	}
}

// Nothing is on its way: nothing.
func TestP19_3NoPacket(t *testing.T) {
	s := begin(t, 2)
	run(t, s, set(1, "a", "1"), move(1, 2, "b", "c"))
	for _, n := range []int{math.MinInt, -1, 0, 1, math.MaxInt} {
		for _, x := range []api.ShardStep{arrive(n), lose(n), double(n)} {
			changesNothing(t, s, x, nothing)
		}
	}
}

// What comes again is nothing, but for an Ack; however late it is.
func TestP19_3Again(t *testing.T) {
	s := begin(t, 2)
	run(t, s, set(1, "b", "old"), move(1, 2, "a", "c"), send(1), double(0), double(0), arrive(0))
	way(t, s, 3)
	run(t, s, set(2, "b", "new"))
	run(t, s, arrive(0))
	way(t, s, 3) // one packet, two Acks
	has(t, s, 2, "b", "new")
	run(t, s, move(2, 1, "b", "c"), arrive(0))
	has(t, s, 2)
	is(t, s, get(2, "b"), names(1))
}

// Keys went there and back: an old packet changes nothing any more.
func TestP19_3LateBehindAll(t *testing.T) {
	s := begin(t, 2)
	run(t, s, set(1, "b", "old"), move(1, 2, "a", "c"), send(1), double(0), arrive(0))
	run(t, s, set(2, "b", "new"), move(2, 1, "a", "c"), send(2), arrive(-1))
	has(t, s, 1, "b", "new")
	was := all(s)
	run(t, s, arrive(0), lose(-1), double(0)) // the double of the first; its Ack is lost, another one doubled, so that as many are on their way
	if now := all(s); now != was {
		t.Errorf("P19.3: an old packet came: %s; it was %s", now, was)
	}
	has(t, s, 1, "b", "new")
	is(t, s, get(2, "b"), names(1))
}

// What was sent later waits for what was sent first.
func TestP19_3TurnedRound(t *testing.T) {
	s := begin(t, 2)
	run(t, s, set(1, "b", "1"), set(1, "d", "2"), move(1, 2, "a", "c"), move(1, 2, "c", "e"), send(1))
	run(t, s, arrive(1))
	has(t, s, 2)
	way(t, s, 1)
	run(t, s, arrive(0))
	has(t, s, 2, "b", "1")
	says(t, s, 2, b("", 1), b("a", 2), b("c", 1))
	way(t, s, 1)
	run(t, s, send(1), lose(1)) // the first one is not needed any more
	run(t, s, arrive(1))
	has(t, s, 2, "b", "1", "d", "2")
	says(t, s, 2, b("", 1), b("a", 2), b("e", 1))
	way(t, s, 2)
	run(t, s, arrive(1), send(1)) // the second Ack acknowledges both
	way(t, s, 1)
}

// What comes is put between the items that a host has.
func TestP19_3ItemsBetween(t *testing.T) {
	s := begin(t, 3)
	for n := range 10 {
		run(t, s, set(1, letter(n), "1"))
	}
	run(t, s, move(1, 2, "b", "d"), move(1, 2, "f", "g"), move(1, 3, "g", ""))
	s.Heal(1)
	run(t, s, set(2, "cc", "2"), set(3, "z", "3"), set(1, "ee", "4"), move(3, 2, "h", "i"), move(1, 2, "d", "f"))
	s.Heal(1)
	has(t, s, 2, "b", "1", "c", "1", "cc", "2", "d", "1", "e", "1", "ee", "4", "f", "1", "h", "1")
	says(t, s, 2, b("", 1), b("b", 2), b("g", 1), b("h", 2), b("i", 1))
	has(t, s, 3, "g", "1", "i", "1", "j", "1", "z", "3")
	has(t, s, 1, "a", "1")
}

// Example 11 of the document's whole.
func TestP19_4Example11(t *testing.T) {
	s := begin(t, 2)
	is(t, s, set(1, "b", "v"), done(1))
	is(t, s, move(1, 2, "a", "c"), names(1))
	is(t, s, get(2, "b"), names(1))
	s.Heal(1)
	is(t, s, get(1, "b"), names(2))
	is(t, s, get(2, "b"), value(2, "v"))
}

// Heal of no times: nothing.
func TestP19_4HealNever(t *testing.T) {
	s := begin(t, 2)
	run(t, s, set(1, "b", "v"), move(1, 2, "a", "c"), send(1))
	for _, times := range []int{math.MinInt, -1, 0} {
		was := all(s)
		s.Heal(times)
		if now := all(s); now != was {
			t.Errorf("P19.4: Heal(%d): %s; it was %s", times, now, was)
		}
	}
}

func TestP19_4Heal(t *testing.T) {
	for _, times := range []int{1, 2, 100, 101, math.MaxInt} {
		s := begin(t, 4)
		for n := range 4 {
			run(t, s, set(1, letter(n), "v"))
		}
		run(t, s, move(1, 2, "a", "b"), move(1, 3, "b", "c"), send(1), double(0), move(1, 4, "c", "d"), move(1, 2, "d", "e"))
		s.Heal(times)
		way(t, s, 0)
		has(t, s, 1)
		has(t, s, 2, "a", "v", "d", "v")
		has(t, s, 3, "b", "v")
		has(t, s, 4, "c", "v")
		for id := 1; id <= 4; id++ {
			run(t, s, send(id)) // nothing waits any more
		}
		way(t, s, 0)
	}
}

// Heal of nothing at all.
func TestP19_4HealNothing(t *testing.T) {
	s := begin(t, api.MaxNode)
	was := all(s)
	s.Heal(100)
	if now := all(s); now != was {
		t.Errorf("P19.4: Heal: %s; it was %s", now, was)
	}
}

// crowd: each of nine hosts has sixteen ranges waiting for each other one.
func crowd(t *testing.T) *shard.Shards {
	t.Helper()
	s := begin(t, api.MaxNode)
	for id := 2; id <= api.MaxNode; id++ {
		run(t, s, move(1, id, letter(id), letter(id+1)))
		s.Heal(1)
	}
	for id := 1; id <= api.MaxNode; id++ {
		n := 0
		for other := 1; other <= api.MaxNode; other++ {
			for range api.MaxWaiting * min(1, (other-id)*(other-id)) {
				run(t, s, move(id, other, fmt.Sprintf("%s%03d", letter(id), n), fmt.Sprintf("%s%03d", letter(id), n+1)))
				n++
			}
		}
	}
	return s
}

// Of 1152 packets and as many Acks 2000 come, the first time; the hosts send first, in their order.
func TestP19_4HealComesToABound(t *testing.T) {
	s := crowd(t)
	way(t, s, 0)
	s.Heal(1)
	way(t, s, 304)
	for id := 1; id <= api.MaxNode; id++ {
		was := s.Way()
		run(t, s, send(id))
		// 848 Acks have come by then: all of what hosts 1 to 6 sent, and of what host 7 sent to hosts 1 to 5.
		want := 0
		switch id {
		case 7:
			want = 48
		case 8, 9:
			want = 128
		}
		if got := s.Way() - was; got != want {
			t.Errorf("P19.4: behind Heal(1) host %d has %d packets that wait; want %d", id, got, want)
		}
	}
}

func TestP19_4HealTwice(t *testing.T) {
	s := crowd(t)
	s.Heal(2)
	way(t, s, 0)
}

// What was on its way comes first, then what the hosts send.
func TestP19_4HealInOrder(t *testing.T) {
	s := begin(t, 3)
	run(t, s, set(1, "b", "v"), move(1, 2, "a", "c"), send(1), arrive(0)) // an Ack is on its way
	for range 1997 {
		run(t, s, double(0))
	}
	run(t, s, move(1, 3, "d", "e"), move(1, 3, "e", "f"))
	s.Heal(1) // 1998 Acks come; what host 2 was sent, once more; d, but not e
	says(t, s, 3, b("", 1), b("d", 3), b("e", 1))
	way(t, s, 3) // e, and two Acks
}

// A hundred times, at most.
func TestP19_4HealAHundredTimes(t *testing.T) {
	for times, want := range map[int]int{99: 201001 - 198000, 100: 1001, 101: 1001, math.MaxInt: 1001} {
		s := begin(t, 2)
		run(t, s, move(1, 2, "a", "c"), send(1), arrive(0))
		for range 200999 {
			s.Do(double(0))
		}
		way(t, s, 201000)
		s.Heal(times) // once more what waits is sent, ahead of the first Ack
		way(t, s, want)
	}
}
