package relay

import (
	"fmt"
	"maps"
	"slices"
	"testing"

	"quorate/api"
)

// place: where two relays may be at some moment. A packet that was ever sent may come at any moment, and again; one that is lost just does not come any more.
type place struct {
	hosts [3]Relay // by their numbers
	ever  map[api.Packet]bool
	sent  [3]int       // how many bodies each has sent the other
	came  [3][]string  // what has come to each
	way   []api.Packet // all of ever, in order
}

// most: bodies that each sends.
const most = 3

func bodyOf(from, n int) string {
	return fmt.Sprintf("%d of %d", n, from)
}

func (w place) name() string {
	return fmt.Sprint(w.hosts[1].others[2], w.hosts[2].others[1], w.sent, w.came, w.way)
}

// copy: that shares nothing with it.
func (w place) copy() place {
	w.ever = maps.Clone(w.ever)
	for id := 1; id <= 2; id++ {
		w.came[id] = slices.Clone(w.came[id])
		for i := range w.hosts[id].others {
			w.hosts[id].others[i].waiting = slices.Clone(w.hosts[id].others[i].waiting)
		}
	}
	return w
}

func (w *place) put(l []api.Packet) {
	for _, x := range l {
		w.ever[x] = true
	}
	w.way = slices.SortedFunc(maps.Keys(w.ever), func(a, b api.Packet) int {
		return slices.Compare([]byte(fmt.Sprint(a)), []byte(fmt.Sprint(b)))
	})
}

// arrive: a packet comes to its host, which answers with acks.
func (w *place) arrive(t *testing.T, x api.Packet) (acks []api.Packet) {
	t.Helper()
	come, acks := w.hosts[x.To].Receive(x)
	w.put(acks)
	for _, p := range come {
		w.came[x.To] = append(w.came[x.To], p.Body)
		if n := len(w.came[x.To]); n > w.sent[p.From] || p.Body != bodyOf(p.From, n) {
			t.Fatalf("P18.3: to %d came %q, of %d that were sent", x.To, w.came[x.To], w.sent[p.From])
		}
	}
	return acks
}

// behind: all places that one step leads to.
func (w place) behind(t *testing.T) (l []place) {
	t.Helper()
	for id := 1; id <= 2; id++ {
		if w.sent[id] < most {
			next := w.copy()
			next.sent[id]++
			next.hosts[id].Send(3-id, bodyOf(id, next.sent[id]))
			l = append(l, next)
		}
		next := w.copy()
		next.put(next.hosts[id].Packets())
		l = append(l, next)
	}
	for _, x := range w.way {
		next := w.copy()
		next.arrive(t, x)
		l = append(l, next)
	}
	return l
}

// heals: from here on all that was sent comes, and waits no more.
func (w place) heals(t *testing.T) {
	t.Helper()
	w = w.copy()
	for id := 1; id <= 2; id++ {
		for _, x := range w.hosts[id].Packets() {
			for _, a := range w.arrive(t, x) {
				w.arrive(t, a)
			}
		}
		if len(w.came[3-id]) != w.sent[id] || len(w.hosts[id].Packets()) > 0 {
			t.Fatalf("P18.3: behind healing came %q, of %d that were sent: %s", w.came[3-id], w.sent[id], w.name())
		}
	}
}

// Whatever is lost, doubled or turned round: in every order.
func TestP18_3EveryOrder(t *testing.T) {
	first := place{ever: map[api.Packet]bool{}}
	for id := 1; id <= 2; id++ {
		r, _ := New(id)
		first.hosts[id] = *r
	}
	seen := map[string]bool{first.name(): true}
	for l := []place{first}; len(l) > 0; {
		w := l[len(l)-1]
		l = l[:len(l)-1]
		w.heals(t)
		for _, next := range w.behind(t) {
			if !seen[next.name()] {
				seen[next.name()] = true
				l = append(l, next)
			}
		}
	}
	t.Logf("%d places", len(seen))
	if len(seen) < 100 {
		t.Errorf("P18.3: just %d places were come to", len(seen))
	}
}

// What waits no more is not kept, nor is what has come.
func TestP18_3KeepsNoMoreThanWaits(t *testing.T) {
	r, _ := New(1)
	for n := 1; n <= 100; n++ {
		r.Send(2, "body")
		r.Send(2, "body")
		r.Receive(api.Packet{From: 2, To: 1, Number: n, Body: "come"})
		r.Receive(api.Packet{From: 2, To: 1, Number: 2*n - n%2, Ack: true})
		l := r.others[2].waiting
		if len(l) != n%2 || slices.Contains(l[len(l):cap(l)], "body") || cap(l) > 2*api.MaxWaiting {
			t.Fatalf("P18.3: behind %d there is kept %q", n, l[:cap(l)])
		}
	}
}
