package client_test

import (
	"math"
	"slices"
	"testing"

	"quorate/api"
	"quorate/client"
)

// wrongNumbers: under which nothing was asked, if it was asked up to 5 times.
var wrongNumbers = []int{math.MinInt, -1, 0, 6, 7, math.MaxInt}

// Nothing is wanted: no answer says anything.
func TestP14_5NothingWanted(t *testing.T) {
	c, _ := client.New([]int{1, 2}, 1)
	for id := -1; id <= 2; id++ {
		c.Answer(id, api.OK, done(3))
		c.Answer(id, api.ErrLeader, api.Result{})
		stands(t, c, api.ClientStatus{Node: 1})
	}
	c = seated(t, 1)
	asks(t, c, 2, 2, api.Request{Client: 7, Number: 1, Command: get})
	c.Answer(2, api.OK, done(1))
	for _, r := range []api.Result{done(2), {Kind: api.Lost}, {Kind: api.Missing}} {
		c.Answer(2, api.OK, r)
		c.Answer(2, api.ErrLeader, r)
		stands(t, c, api.ClientStatus{Session: 7, Number: 1, Node: 2})
	}
	ends(t, c, done(1))
	c.Answer(2, api.OK, done(2))
	open(t, c)
	stands(t, c, api.ClientStatus{Session: 7, Number: 1, Node: 2})
}

func TestP14_5NotAsked(t *testing.T) {
	c := begun(t, 1, 2, 5, 9)
	for _, id := range append([]int{1, 2, 3, 4, 5}, wrongNumbers...) {
		c.Answer(id, api.OK, done(3))
		c.Answer(id, api.ErrLeader, api.Result{})
		stands(t, c, api.ClientStatus{Node: 2, Busy: true})
	}
	for i := range 5 {
		c.Tick()
		c.Next()
		if i < 4 {
			c.Tick()
		}
	}
	for _, id := range wrongNumbers {
		c.Answer(id, api.OK, done(3))
		c.Answer(id, api.ErrLeader, api.Result{})
		stands(t, c, api.ClientStatus{Node: 5, Waits: true, Busy: true})
	}
}

// An error of the last that was asked, while it is waited for: the next node; else it says nothing.
func TestP14_5Errors(t *testing.T) {
	for e := api.ErrBytes; e <= api.ErrJob+1; e++ {
		c := begun(t, 1, 2, 5)
		asks(t, c, 1, 2, opens)
		c.Answer(1, e, done(3)) // what comes with an error is nothing
		stands(t, c, api.ClientStatus{Node: 5, Busy: true})
	}
	c := begun(t, 1, 2, 5, 9)
	asks(t, c, 1, 2, opens)
	c.Answer(1, -1, done(3))
	stands(t, c, api.ClientStatus{Node: 5, Busy: true})
	c.Answer(1, api.ErrLeader, done(3)) // it does not wait
	stands(t, c, api.ClientStatus{Node: 5, Busy: true})
	asks(t, c, 2, 5, opens)
	c.Answer(1, api.ErrLeader, done(3)) // it is not the last
	stands(t, c, api.ClientStatus{Node: 5, Waits: true, Busy: true})
	c.Tick()
	c.Answer(2, api.ErrLeader, done(3)) // the last, but it has waited long enough already
	stands(t, c, api.ClientStatus{Node: 9, Busy: true})
	asks(t, c, 3, 9, opens)
	c.Answer(3, api.ErrDown, api.Result{})
	stands(t, c, api.ClientStatus{Node: 2, Busy: true}) // behind the last the first
}

func TestP14_5ErrorsWithASession(t *testing.T) {
	c := seated(t, 1)
	q := api.Request{Client: 7, Number: 1, Command: get}
	asks(t, c, 2, 2, q)
	c.Answer(2, api.ErrLeader, done(5))
	stands(t, c, api.ClientStatus{Session: 7, Node: 5, Busy: true})
	open(t, c)
	c.Answer(2, api.OK, done(5)) // it was refused, and is answered yet
	stands(t, c, api.ClientStatus{Session: 7, Number: 1, Node: 5})
	ends(t, c, done(5))
}

// Without a session: Done gives one, whichever of those that were asked it answers.
func TestP14_5Opened(t *testing.T) {
	for id := 1; id <= 3; id++ {
		c := begun(t, 1, 2, 5)
		for i := range 3 {
			c.Next()
			if i < 2 {
				c.Tick()
			}
		}
		c.Answer(id, api.OK, done(30+id))
		stands(t, c, api.ClientStatus{Session: 30 + id, Node: 2, Busy: true})
		for other := 1; other <= 3; other++ { // they are old
			c.Answer(other, api.OK, done(50))
			c.Answer(other, api.ErrLeader, api.Result{})
		}
		stands(t, c, api.ClientStatus{Session: 30 + id, Node: 2, Busy: true})
		asks(t, c, 4, 2, api.Request{Client: 30 + id, Number: 1, Command: get})
		for other := 1; other <= 3; other++ {
			c.Answer(other, api.OK, done(50))
			c.Answer(other, api.ErrLeader, api.Result{})
		}
		stands(t, c, api.ClientStatus{Session: 30 + id, Node: 2, Waits: true, Busy: true})
		open(t, c)
	}
}

// Without a session: of another result none comes; the same node is asked again, and what was asked is not old.
func TestP14_5NotOpened(t *testing.T) {
	for kind := -1; kind <= api.Lost+1; kind++ {
		if kind == api.Done {
			continue
		}
		c := begun(t, 1, 2, 5)
		asks(t, c, 1, 2, opens)
		c.Answer(1, api.OK, api.Result{Kind: kind, Version: 3})
		stands(t, c, api.ClientStatus{Node: 2, Busy: true})
		open(t, c)
		asks(t, c, 2, 2, opens)
		c.Answer(1, api.OK, api.Result{Kind: kind, Version: 3})
		stands(t, c, api.ClientStatus{Node: 2, Busy: true})
		asks(t, c, 3, 2, opens)
		c.Answer(1, api.OK, done(8))
		stands(t, c, api.ClientStatus{Session: 8, Node: 2, Busy: true})
	}
}

// With a session: the result, and one more is answered; some results end it.
func TestP14_5Finished(t *testing.T) {
	for kind := -1; kind <= api.Lost+1; kind++ {
		c := seated(t, 2)
		for i := range 3 {
			asks(t, c, 2+i, 2, api.Request{Client: 7, Number: 1 + i, Command: get})
			c.Answer(2+i, api.OK, done(i))
			stands(t, c, api.ClientStatus{Session: 7, Number: 1 + i, Node: 2})
			ends(t, c, done(i))
			wants(t, c, get, api.OK)
		}
		asks(t, c, 5, 2, api.Request{Client: 7, Number: 4, Command: get})
		r := api.Result{Kind: kind, Version: 6, Value: "v", Keys: []string{"a", "b"}}
		c.Answer(5, api.OK, r)
		want := api.ClientStatus{Session: 7, Number: 4, Node: 2}
		next := api.Request{Client: 7, Number: 5, Command: get}
		if kind == api.Stale || kind == api.Gap || kind == api.Lost {
			want, next = api.ClientStatus{Node: 2}, opens
		}
		stands(t, c, want)
		ends(t, c, r)
		wants(t, c, get, api.OK)
		asks(t, c, 6, 2, next)
	}
}

// With a session that came behind one that was lost, requests are counted anew.
func TestP14_5Again(t *testing.T) {
	c := seated(t, 1)
	asks(t, c, 2, 2, api.Request{Client: 7, Number: 1, Command: get})
	c.Answer(2, api.OK, api.Result{Kind: api.Lost})
	ends(t, c, api.Result{Kind: api.Lost})
	wants(t, c, get, api.OK)
	asks(t, c, 3, 2, opens)
	c.Answer(2, api.OK, done(9)) // old
	c.Answer(1, api.OK, done(7))
	stands(t, c, api.ClientStatus{Node: 2, Waits: true, Busy: true})
	c.Answer(3, api.OK, done(20))
	asks(t, c, 4, 2, api.Request{Client: 20, Number: 1, Command: get})
	stands(t, c, api.ClientStatus{Session: 20, Node: 2, Waits: true, Busy: true})
}

// An answer to what was asked of a node that was left already counts.
func TestP14_5Late(t *testing.T) {
	c := seated(t, 1)
	q := api.Request{Client: 7, Number: 1, Command: get}
	asks(t, c, 2, 2, q)
	c.Tick()
	asks(t, c, 3, 5, q)
	c.Answer(2, api.OK, done(1))
	stands(t, c, api.ClientStatus{Session: 7, Number: 1, Node: 5})
	ends(t, c, done(1))
	wants(t, c, get, api.OK)
	c.Answer(3, api.OK, done(1)) // the same thing once more: it is old
	stands(t, c, api.ClientStatus{Session: 7, Number: 1, Node: 5, Busy: true})
	asks(t, c, 4, 5, api.Request{Client: 7, Number: 2, Command: get})
}

// A result's keys are not kept, nor changed; what Done gives is nobody else's.
func TestP14_6Memory(t *testing.T) {
	c := seated(t, 1)
	c.Next()
	room := []string{"a", "b", "c"}
	c.Answer(2, api.OK, api.Result{Kind: api.Done, Keys: room[:2]})
	if !slices.Equal(room, []string{"a", "b", "c"}) {
		t.Errorf("P14.5: Answer changed its keys: %q", room)
	}
	room[0] = "z"
	r, is := c.Done()
	if !is || !slices.Equal(r.Keys, []string{"a", "b"}) {
		t.Errorf("P14.6: Done: %q", r.Keys)
	}
	_ = append(r.Keys, "y")
	if room[2] != "c" {
		t.Errorf("P14.6: Done shares room with what Answer was given: %q", room)
	}
}

// Done: nothing ahead of a result, nothing behind it was taken.
func TestP14_6Once(t *testing.T) {
	c, _ := client.New([]int{1}, 5)
	open(t, c)
	wants(t, c, get, api.OK)
	open(t, c)
	asks(t, c, 1, 1, opens)
	open(t, c)
	c.Answer(1, api.OK, done(2))
	open(t, c) // the session is no result
	stands(t, c, api.ClientStatus{Session: 2, Node: 1, Busy: true})
	asks(t, c, 2, 1, api.Request{Client: 2, Number: 1, Command: get})
	open(t, c)
	stands(t, c, api.ClientStatus{Session: 2, Node: 1, Waits: true, Busy: true})
	c.Answer(2, api.OK, api.Result{})
	stands(t, c, api.ClientStatus{Session: 2, Number: 1, Node: 1})
	ends(t, c, api.Result{})
	stands(t, c, api.ClientStatus{Session: 2, Number: 1, Node: 1})
}
