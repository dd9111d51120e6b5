package client_test

import (
	"fmt"
	"testing"

	"quorate/api"
	"quorate/client"
)

// get: something that may be wanted.
var get = api.Command{Kind: api.Get, Key: "k"}

// done: a result with that version.
func done(version int) api.Result {
	return api.Result{Kind: api.Done, Version: version}
}

// opens: a request that opens a session.
var opens api.Request

// begun: a client of nodes that wants something.
func begun(t *testing.T, patience int, nodes ...int) *client.Client {
	t.Helper()
	c, e := client.New(nodes, patience)
	if c == nil || e != api.OK {
		t.Fatalf("P14.1: New(%v, %d): %d", nodes, patience, e)
	}
	wants(t, c, get, api.OK)
	return c
}

// seated: a client of nodes 2, 5 and 9 with the session 7, that wants something and has asked for it nothing yet; 1 was asked till now.
func seated(t *testing.T, patience int) *client.Client {
	t.Helper()
	c := begun(t, patience, 2, 5, 9)
	asks(t, c, 1, 2, opens)
	c.Answer(1, api.OK, done(7))
	return c
}

// wants: the client is told that, and says so.
func wants(t *testing.T, c *client.Client, x api.Command, want api.Errno) {
	t.Helper()
	if e := c.Want(x); e != want {
		t.Errorf("P14.2: Want(%+v): %d; want %d", x, e, want)
	}
}

// asks: that is asked next.
func asks(t *testing.T, c *client.Client, id, node int, q api.Request) {
	t.Helper()
	want := api.Asked{ID: id, Node: node, Request: q}
	if a, is := c.Next(); a != want || !is {
		t.Errorf("P14.3: Next: %+v, %v; want %+v", a, is, want)
	}
}

// silent: nothing is asked.
func silent(t *testing.T, c *client.Client) {
	t.Helper()
	if a, is := c.Next(); a != (api.Asked{}) || is {
		t.Errorf("P14.3: Next: %+v, %v; want nothing", a, is)
	}
}

// stands: the client does so.
func stands(t *testing.T, c *client.Client, want api.ClientStatus) {
	t.Helper()
	if s := c.Look(); s != want {
		t.Errorf("P14.6: Look: %+v; want %+v", s, want)
	}
}

// ends: what was wanted has that result, once.
func ends(t *testing.T, c *client.Client, want api.Result) {
	t.Helper()
	if r, is := c.Done(); tell(r) != tell(want) || !is {
		t.Errorf("P14.6: Done: %+v, %v; want %+v", r, is, want)
	}
	open(t, c)
}

// open: there is no result.
func open(t *testing.T, c *client.Client) {
	t.Helper()
	if r, is := c.Done(); tell(r) != tell(api.Result{}) || is {
		t.Errorf("P14.6: Done: %+v, %v; want nothing", r, is)
	}
}

// tell: a value, for a look; nil and empty lists are the same.
func tell(x any) string {
	return fmt.Sprintf("%+v", x)
}
