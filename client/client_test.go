package client_test

import (
	"math"
	"slices"
	"strings"
	"testing"

	"quorate/api"
	"quorate/client"
)

func TestP14_1Start(t *testing.T) {
	for _, x := range []struct {
		nodes    []int
		patience int
	}{
		{[]int{1}, 1},
		{[]int{9}, 1},
		{[]int{3, 4}, api.MaxTicks},
		{[]int{1, 2, 3, 4, 5, 6, 7, 8, 9}, 50},
	} {
		c, e := client.New(x.nodes, x.patience)
		if c == nil || e != api.OK {
			t.Errorf("P14.1: New(%v, %d): %v, %d", x.nodes, x.patience, c, e)
			continue
		}
		stands(t, c, api.ClientStatus{Node: x.nodes[0]})
		silent(t, c)
		open(t, c)
		wants(t, c, get, api.OK)
		asks(t, c, 1, x.nodes[0], opens)
	}
}

func TestP14_1Refused(t *testing.T) {
	for _, x := range []struct {
		nodes    []int
		patience int
	}{
		{nil, 1},
		{[]int{}, 1},
		{[]int{0}, 1},
		{[]int{0, 1}, 1},
		{[]int{-1}, 1},
		{[]int{10}, 1},
		{[]int{1, 10}, 1},
		{[]int{math.MinInt, 1}, 1},
		{[]int{1, math.MaxInt}, 1},
		{[]int{2, 1}, 1},
		{[]int{1, 1}, 1},
		{[]int{1, 3, 2}, 1},
		{[]int{1, 2, 2}, 1},
		{[]int{1, 2, 3, 4, 5, 6, 7, 8, 9, 9}, 1},
		{[]int{1}, 0},
		{[]int{1}, -1},
		{[]int{1}, math.MinInt},
		{[]int{1}, api.MaxTicks + 1},
		{[]int{1}, math.MaxInt},
		{nil, 0},
	} {
		if c, e := client.New(x.nodes, x.patience); c != nil || e != api.ErrStart {
			t.Errorf("P14.1: New(%v, %d): %v, %d", x.nodes, x.patience, c, e)
		}
	}
}

// The nodes are neither kept nor changed, and clients have nothing to do with one another.
func TestP14_1Memory(t *testing.T) {
	room := []int{1, 2, 3, 4}
	c, _ := client.New(room[:2], 1)
	d, _ := client.New(room[:2], 1)
	if !slices.Equal(room, []int{1, 2, 3, 4}) {
		t.Errorf("P14.1: New changed its nodes: %v", room)
	}
	room[0], room[1] = 8, 9
	wants(t, c, get, api.OK)
	asks(t, c, 1, 1, opens)
	c.Tick()
	asks(t, c, 2, 2, opens)
	stands(t, d, api.ClientStatus{Node: 1})
	wants(t, d, get, api.OK)
	asks(t, d, 1, 1, opens)
}

func TestP14_2Commands(t *testing.T) {
	for _, x := range []api.Command{
		{},
		{Kind: -1, Key: "k"},
		{Kind: 7, Key: "k"},
		{Kind: api.Get},
		{Kind: api.Get, Key: strings.Repeat("k", 17)},
		{Kind: api.Get, Key: "k", Value: "v"},
		{Kind: api.Put, Key: "k", Value: strings.Repeat("v", 65)},
		{Kind: api.Put, Key: "k", If: 1},
		{Kind: api.Swap, Key: "k", If: -1},
		{Kind: api.List, If: api.MaxNumber + 1},
	} {
		c, _ := client.New([]int{1}, 1)
		wants(t, c, x, api.ErrCommand)
		stands(t, c, api.ClientStatus{Node: 1})
		silent(t, c)
	}
	for _, x := range []api.Command{
		{Kind: api.Put, Key: "k", Value: strings.Repeat("v", 64)},
		{Kind: api.Get, Key: strings.Repeat("k", 16)},
		{Kind: api.Delete, Key: "k"},
		{Kind: api.Swap, Key: "k", If: api.MaxNumber},
		{Kind: api.Append, Key: "\x00"},
		{Kind: api.List},
	} {
		c := begun(t, 1, 1)
		asks(t, c, 1, 1, opens)
		c.Answer(1, api.OK, done(3))
		asks(t, c, 2, 1, api.Request{Client: 3, Number: 1, Command: get})
		c.Answer(2, api.OK, done(9))
		ends(t, c, done(9))
		wants(t, c, x, api.OK)
		stands(t, c, api.ClientStatus{Session: 3, Number: 1, Node: 1, Busy: true})
		asks(t, c, 3, 1, api.Request{Client: 3, Number: 2, Command: x})
	}
}

// One thing behind the other: till the result of the one ahead is taken nothing else may be wanted.
func TestP14_2Busy(t *testing.T) {
	other := api.Command{Kind: api.Delete, Key: "d"}
	c := begun(t, 2, 1, 2)
	busy := func() {
		t.Helper()
		wants(t, c, api.Command{}, api.ErrCommand) // it is told first
		wants(t, c, other, api.ErrBusy)
		wants(t, c, get, api.ErrBusy)
	}
	busy()
	asks(t, c, 1, 1, opens)
	busy()
	stands(t, c, api.ClientStatus{Node: 1, Waits: true, Busy: true})
	c.Answer(1, api.OK, done(4)) // nothing that was refused has made it old
	busy()
	asks(t, c, 2, 1, api.Request{Client: 4, Number: 1, Command: get})
	busy()
	c.Tick()
	c.Tick()
	busy()
	asks(t, c, 3, 2, api.Request{Client: 4, Number: 1, Command: get})
	c.Answer(2, api.OK, done(5))
	busy()
	stands(t, c, api.ClientStatus{Session: 4, Number: 1, Node: 2})
	ends(t, c, done(5))
	wants(t, c, other, api.OK)
	asks(t, c, 4, 2, api.Request{Client: 4, Number: 2, Command: other})
}

// Answers to what was asked for the thing ahead say nothing of the next.
func TestP14_2Old(t *testing.T) {
	c := seated(t, 1)
	for i := 2; i <= 4; i++ {
		asks(t, c, i, []int{2, 5, 9}[i-2], api.Request{Client: 7, Number: 1, Command: get})
		c.Tick()
	}
	c.Answer(3, api.OK, done(1))
	ends(t, c, done(1))
	wants(t, c, get, api.OK)
	want := api.ClientStatus{Session: 7, Number: 1, Node: 2, Busy: true}
	for id := -1; id <= 4; id++ {
		c.Answer(id, api.OK, done(2))
		c.Answer(id, api.ErrLeader, api.Result{})
		stands(t, c, want)
	}
	asks(t, c, 5, 2, api.Request{Client: 7, Number: 2, Command: get})
	want.Waits = true
	for id := -1; id <= 4; id++ {
		c.Answer(id, api.OK, api.Result{Kind: api.Lost})
		c.Answer(id, api.ErrLeader, api.Result{})
		stands(t, c, want)
	}
	c.Answer(5, api.OK, done(3))
	ends(t, c, done(3))
}

func TestP14_3Next(t *testing.T) {
	c := begun(t, 1, 3, 4)
	asks(t, c, 1, 3, opens)
	silent(t, c)
	silent(t, c)
	c.Tick()
	asks(t, c, 2, 4, opens)
	silent(t, c)
	c.Answer(2, api.OK, done(11))
	put := api.Request{Client: 11, Number: 1, Command: get}
	asks(t, c, 3, 4, put)
	silent(t, c)
	c.Tick()
	asks(t, c, 4, 3, put)
	c.Answer(4, api.OK, done(1))
	silent(t, c) // a result that was not taken
	ends(t, c, done(1))
	silent(t, c)
	for i := range 5 {
		wants(t, c, get, api.OK)
		asks(t, c, 5+i, 3, api.Request{Client: 11, Number: 2 + i, Command: get})
		silent(t, c)
		c.Answer(5+i, api.OK, done(1))
		silent(t, c)
		ends(t, c, done(1))
	}
}

// It waits since 0 ticks, whatever it has waited for ahead.
func TestP14_3WaitsAnew(t *testing.T) {
	c := seated(t, 3)
	q := api.Request{Client: 7, Number: 1, Command: get}
	asks(t, c, 2, 2, q)
	c.Tick()
	c.Tick()
	c.Answer(2, api.ErrLeader, api.Result{})
	asks(t, c, 3, 5, q)
	c.Tick()
	c.Tick()
	stands(t, c, api.ClientStatus{Session: 7, Node: 5, Waits: true, Busy: true})
	c.Tick()
	stands(t, c, api.ClientStatus{Session: 7, Node: 9, Busy: true})
	asks(t, c, 4, 9, q)
	c.Tick()
	c.Tick()
	stands(t, c, api.ClientStatus{Session: 7, Node: 9, Waits: true, Busy: true})
}

func TestP14_4Patience(t *testing.T) {
	for _, patience := range []int{1, 2, 3, api.MaxTicks} {
		c := begun(t, patience, 2, 5, 9)
		for i, node := range []int{2, 5, 9, 2, 5, 9, 2} {
			for range 3 * patience { // while it does not wait ticks are nothing
				c.Tick()
			}
			stands(t, c, api.ClientStatus{Node: node, Busy: true})
			asks(t, c, i+1, node, opens)
			for range patience - 1 {
				c.Tick()
				stands(t, c, api.ClientStatus{Node: node, Waits: true, Busy: true})
			}
			c.Tick()
		}
	}
}

// One node alone is asked again and again; who wants nothing has time.
func TestP14_4Alone(t *testing.T) {
	c, _ := client.New([]int{6}, 1)
	for range 10 {
		c.Tick()
		stands(t, c, api.ClientStatus{Node: 6})
	}
	wants(t, c, get, api.OK)
	for i := range 10 {
		asks(t, c, i+1, 6, opens)
		c.Tick()
	}
	c.Answer(10, api.OK, done(1))
	asks(t, c, 11, 6, api.Request{Client: 1, Number: 1, Command: get})
	c.Answer(11, api.OK, api.Result{Kind: api.Missing})
	for range 10 {
		c.Tick()
		stands(t, c, api.ClientStatus{Session: 1, Number: 1, Node: 6})
	}
	ends(t, c, api.Result{Kind: api.Missing})
	for range 10 {
		c.Tick()
		stands(t, c, api.ClientStatus{Session: 1, Number: 1, Node: 6})
	}
}
