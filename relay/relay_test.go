package relay_test

import (
	"fmt"
	"math"
	"slices"
	"strings"
	"testing"

	"quorate/api"
	"quorate/relay"
)

// noNodes: numbers of none.
var noNodes = []int{math.MinInt, -1, 0, 10, 11, math.MaxInt}

func TestP18_1New(t *testing.T) {
	for id := 1; id <= api.MaxNode; id++ {
		waits(t, begin(t, id))
	}
	for _, id := range noNodes {
		if r, e := relay.New(id); r != nil || e != api.ErrStart {
			t.Errorf("P18.1: New(%d): %v, %d; want ErrStart", id, r, e)
		}
	}
}

func TestP18_1SendToNobody(t *testing.T) {
	for id := 1; id <= api.MaxNode; id++ {
		r := begin(t, id)
		for _, to := range append([]int{id}, noNodes...) {
			for range api.MaxWaiting + 2 { // however often
				if e := r.Send(to, "x"); e != api.ErrStart {
					t.Errorf("P18.1: %d sends to %d: %d; want ErrStart", id, to, e)
				}
			}
		}
		waits(t, r)
	}
}

// Each of the others has numbers of its own, from 1 on.
func TestP18_1Numbers(t *testing.T) {
	for id := 1; id <= api.MaxNode; id++ {
		r := begin(t, id)
		var want []api.Packet
		for to := 1; to <= api.MaxNode; to++ {
			for n := 1; to != id && n <= to; n++ {
				body := fmt.Sprint(to, n)
				sends(t, r, to, body)
				want = append(want, packet(id, to, n, body))
			}
		}
		waits(t, r, want...)
	}
}

// sixteen: bodies of which no more may wait, and their packets.
func sixteen(from, to int) (bodies []string, packets []api.Packet) {
	for n := 1; n <= api.MaxWaiting; n++ {
		bodies = append(bodies, fmt.Sprint("body ", n))
		packets = append(packets, packet(from, to, n, bodies[n-1]))
	}
	return bodies, packets
}

func TestP18_1NoRoom(t *testing.T) {
	r := begin(t, 1)
	bodies, want := sixteen(1, 2)
	sends(t, r, 2, bodies...)
	for range 3 {
		if e := r.Send(2, "more"); e != api.ErrBound {
			t.Errorf("P18.1: the seventeenth: %d; want ErrBound", e)
		}
	}
	waits(t, r, want...)
	sends(t, r, 3, bodies...) // another host's are not counted
	if e := r.Send(3, "more"); e != api.ErrBound {
		t.Errorf("P18.1: the seventeenth to another: %d; want ErrBound", e)
	}
	silent(t, r, ack(2, 1, 1))
	sends(t, r, 2, "more") // what was refused has no number
	if e := r.Send(2, "still more"); e != api.ErrBound {
		t.Errorf("P18.1: again sixteen: %d; want ErrBound", e)
	}
	_, others := sixteen(1, 3)
	waits(t, r, slices.Concat(want[1:], []api.Packet{packet(1, 2, 17, "more")}, others)...)
	silent(t, r, ack(2, 1, 17))
	sends(t, r, 2, bodies...)
	if e := r.Send(2, "more"); e != api.ErrBound {
		t.Errorf("P18.1: again sixteen: %d; want ErrBound", e)
	}
}

func TestP18_1AnyBody(t *testing.T) {
	r, x := begin(t, 4), begin(t, 9)
	bodies := []string{"", "a", "", "a", "\x00\xff\x80", strings.Repeat("long ", 100000)}
	sends(t, r, 9, bodies...)
	for i, p := range r.Packets() {
		if p != packet(4, 9, i+1, bodies[i]) {
			t.Errorf("P18.2: body %d: %.100s", i, tell(p))
		}
		comes(t, x, p)
	}
}

// By rising hosts, whenever they were sent to, then by rising numbers; asked twice the same.
func TestP18_2Order(t *testing.T) {
	r := begin(t, 5)
	waits(t, r)
	for _, to := range []int{9, 1, 6, 9, 4, 1, 9} {
		sends(t, r, to, fmt.Sprint("to ", to))
	}
	for range 3 {
		waits(t, r, packet(5, 1, 1, "to 1"), packet(5, 1, 2, "to 1"), packet(5, 4, 1, "to 4"), packet(5, 6, 1, "to 6"), packet(5, 9, 1, "to 9"), packet(5, 9, 2, "to 9"), packet(5, 9, 3, "to 9"))
	}
	silent(t, r, ack(9, 5, 1))
	silent(t, r, ack(1, 5, 2))
	sends(t, r, 1, "last")
	waits(t, r, packet(5, 1, 3, "last"), packet(5, 4, 1, "to 4"), packet(5, 6, 1, "to 6"), packet(5, 9, 2, "to 9"), packet(5, 9, 3, "to 9"))
}

// wrongPackets: of which host 5 hears nothing, though they have a number that it would take.
func wrongPackets(number int) (l []api.Packet) {
	for to := range 12 {
		if to != 5 {
			l = append(l, packet(2, to, number, "x"))
		}
	}
	for _, n := range noNodes {
		l = append(l, packet(2, n, number, "x"), packet(n, 5, number, "x"), packet(n, n, number, "x"))
	}
	for _, n := range []int{0, -1, math.MinInt} {
		l = append(l, packet(2, 5, n, "x"))
	}
	return append(l, packet(5, 5, number, "x"), packet(5, 2, number, "x"), api.Packet{})
}

func TestP18_3WrongPackets(t *testing.T) {
	r := begin(t, 5)
	ignores := func(number int) {
		t.Helper()
		for _, x := range wrongPackets(number) {
			silent(t, r, x)
			x.Ack = true
			silent(t, r, x)
		}
	}
	ignores(1)
	comes(t, r, packet(2, 5, 1, "x"))
	sends(t, r, 2, "a", "b")
	ignores(1) // now there is something to acknowledge, and to be acknowledged
	ignores(2)
	waits(t, r, packet(5, 2, 1, "a"), packet(5, 2, 2, "b"))
	comes(t, r, packet(2, 5, 2, "y"))
}

func TestP18_3Acks(t *testing.T) {
	for number, left := range map[int]int{math.MinInt: 4, -1: 4, 0: 4, 1: 3, 2: 2, 3: 1, 4: 0, 5: 4, 6: 4, math.MaxInt: 4} {
		r := begin(t, 1)
		all := []api.Packet{packet(1, 2, 1, "a"), packet(1, 2, 2, "b"), packet(1, 2, 3, "c"), packet(1, 2, 4, "d")}
		sends(t, r, 2, "a", "b", "c", "d")
		sends(t, r, 3, "e")
		for range 2 {
			silent(t, r, api.Packet{From: 2, To: 1, Number: number, Ack: true, Body: "what stands there says nothing"})
			waits(t, r, append(all[4-left:], packet(1, 3, 1, "e"))...)
		}
	}
}

func TestP18_3AcksOfOld(t *testing.T) {
	r := begin(t, 1)
	silent(t, r, ack(2, 1, 1)) // nothing was sent
	sends(t, r, 2, "a", "b", "c")
	silent(t, r, ack(2, 1, 2))
	for _, n := range []int{1, 2, 0, -1, 4, 5, math.MaxInt, math.MinInt} {
		silent(t, r, ack(2, 1, n))
		waits(t, r, packet(1, 2, 3, "c"))
	}
	silent(t, r, ack(3, 1, 3)) // it was not sent to that host
	waits(t, r, packet(1, 2, 3, "c"))
	silent(t, r, ack(2, 1, 3))
	waits(t, r)
	silent(t, r, ack(2, 1, 4))
	silent(t, r, ack(2, 1, 3))
	sends(t, r, 2, "d", "e")
	silent(t, r, ack(2, 1, 3))
	waits(t, r, packet(1, 2, 4, "d"), packet(1, 2, 5, "e"))
	silent(t, r, ack(2, 1, 4))
	waits(t, r, packet(1, 2, 5, "e"))
}

// An Ack brings nothing, is not answered, and says nothing of what comes from there.
func TestP18_3AcksBringNothing(t *testing.T) {
	r := begin(t, 1)
	sends(t, r, 2, "a", "b")
	comes(t, r, packet(2, 1, 1, "x"))
	silent(t, r, api.Packet{From: 2, To: 1, Number: 2, Ack: true, Body: "y"})
	comes(t, r, packet(2, 1, 2, "z"))
	known(t, r, packet(2, 1, 1, "x"), 2)
}

func TestP18_3Comes(t *testing.T) {
	r := begin(t, 1)
	for _, n := range []int{2, 3, 100, math.MaxInt} { // ahead of the first nothing has come
		silent(t, r, packet(2, 1, n, "early"))
	}
	comes(t, r, packet(2, 1, 1, "a"))
	for _, n := range []int{1, 1, 3, 4, math.MaxInt} { // known, or too early: what came last is acknowledged
		known(t, r, packet(2, 1, n, "other"), 1)
	}
	comes(t, r, packet(2, 1, 2, "b"))
	for _, n := range []int{1, 2, 4, 17, math.MaxInt} {
		known(t, r, packet(2, 1, n, "other"), 2)
	}
	silent(t, r, packet(2, 1, 0, "nought"))
	comes(t, r, packet(2, 1, 3, ""))
	known(t, r, packet(2, 1, 3, ""), 3)
	waits(t, r) // Acks don't wait
}

// Of each host its own: what has come, and what was sent, have nothing to do with one another.
func TestP18_3EachHost(t *testing.T) {
	r := begin(t, 5)
	for from := 1; from <= api.MaxNode; from++ {
		for n := 1; from != 5 && n <= from; n++ {
			comes(t, r, packet(from, 5, n, fmt.Sprint(from, n)))
		}
	}
	for from := 1; from <= api.MaxNode; from++ {
		if from != 5 {
			known(t, r, packet(from, 5, 1, "x"), from)
		}
	}
	waits(t, r)
	sends(t, r, 9, "a")
	waits(t, r, packet(5, 9, 1, "a"))
	silent(t, r, ack(9, 5, 2))
	waits(t, r, packet(5, 9, 1, "a"))
	known(t, r, packet(9, 5, 11, "x"), 9)
	comes(t, r, packet(9, 5, 10, "x"))
}

// More than may wait at once comes, one behind the other.
func TestP18_3Long(t *testing.T) {
	a, b := begin(t, 1), begin(t, 2)
	for n := 1; n <= 1000; n++ {
		body := fmt.Sprint("body ", n)
		sends(t, a, 2, body)
		waits(t, a, packet(1, 2, n, body))
		comes(t, b, packet(1, 2, n, body))
		silent(t, a, ack(2, 1, n))
	}
	known(t, b, packet(1, 2, 1, "body 1"), 1000)
}

// What is told is new memory, its spare room too; relays have nothing to do with one another.
func TestP18_2Memory(t *testing.T) {
	r, other := begin(t, 1), begin(t, 1)
	sends(t, r, 2, "a", "b", "c")
	l := r.Packets()
	l = l[:cap(l)]
	for i := range l {
		l[i] = packet(9, 9, 9, "over")
	}
	waits(t, r, packet(1, 2, 1, "a"), packet(1, 2, 2, "b"), packet(1, 2, 3, "c"))
	was := r.Packets()
	silent(t, r, ack(2, 1, 2))
	sends(t, r, 2, "d")
	if !slices.Equal(was, []api.Packet{packet(1, 2, 1, "a"), packet(1, 2, 2, "b"), packet(1, 2, 3, "c")}) {
		t.Errorf("P18.2: what was told has changed: %+v", was)
	}
	come, acks := r.Receive(packet(2, 1, 1, "x"))
	again, acksAgain := r.Receive(packet(2, 1, 2, "y"))
	come[:cap(come)][0].Body = "over"
	acks[:cap(acks)][0].Number = 99
	if again[0] != (api.Parcel{From: 2, Body: "y"}) || acksAgain[0] != ack(1, 2, 2) {
		t.Errorf("P18.3: what was told has changed: %+v, %+v", again, acksAgain)
	}
	waits(t, other)
	comes(t, other, packet(2, 1, 1, "z"))
}
