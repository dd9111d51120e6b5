package relay_test

import (
	"fmt"
	"slices"
	"testing"

	"quorate/api"
	"quorate/relay"
)

// begin: a host's relay.
func begin(t *testing.T, id int) *relay.Relay {
	t.Helper()
	r, e := relay.New(id)
	if r == nil || e != api.OK {
		t.Fatalf("P18.1: New(%d): %d", id, e)
	}
	return r
}

// sends: bodies go to a host, and none is refused.
func sends(t *testing.T, r *relay.Relay, to int, bodies ...string) {
	t.Helper()
	for _, s := range bodies {
		if e := r.Send(to, s); e != api.OK {
			t.Fatalf("P18.1: Send(%d, %.20q): %d", to, s, e)
		}
	}
}

// packet: with a body.
func packet(from, to, number int, body string) api.Packet {
	return api.Packet{From: from, To: to, Number: number, Body: body}
}

// ack: a packet that acknowledges.
func ack(from, to, number int) api.Packet {
	return api.Packet{From: from, To: to, Number: number, Ack: true}
}

// waits: just these packets do.
func waits(t *testing.T, r *relay.Relay, want ...api.Packet) {
	t.Helper()
	if got := r.Packets(); !slices.Equal(got, want) {
		t.Errorf("P18.2: Packets: %.500s; want %.500s", tell(got), tell(want))
	}
}

// comes: a packet does, and brings its body.
func comes(t *testing.T, r *relay.Relay, x api.Packet) {
	t.Helper()
	a, b := r.Receive(x)
	if !slices.Equal(a, []api.Parcel{{From: x.From, Body: x.Body}}) || !slices.Equal(b, []api.Packet{ack(x.To, x.From, x.Number)}) {
		t.Errorf("P18.3: Receive(%+v): %.300s, %+v; want its body, and its Ack", x, tell(a), b)
	}
}

// known: a packet comes, and brings nothing but an Ack of that number.
func known(t *testing.T, r *relay.Relay, x api.Packet, number int) {
	t.Helper()
	a, b := r.Receive(x)
	if len(a) != 0 || !slices.Equal(b, []api.Packet{ack(x.To, x.From, number)}) {
		t.Errorf("P18.3: Receive(%+v): %.300s, %+v; want an Ack of %d alone", x, tell(a), b, number)
	}
}

// silent: a packet comes, and nothing is told of it.
func silent(t *testing.T, r *relay.Relay, x api.Packet) {
	t.Helper()
	if a, b := r.Receive(x); len(a) != 0 || len(b) != 0 {
		t.Errorf("P18.3: Receive(%+v): %.300s, %+v; want nothing", x, tell(a), b)
	}
}

// tell: a value, for a look; nil and empty lists are the same.
func tell(x any) string {
	return fmt.Sprintf("%+v", x)
}
