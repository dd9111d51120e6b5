// Package own: copies that share no memory with what they are made of.
package own

import (
	"slices"

	"quorate/api"
)

// Config: in memory of its own.
func Config(c api.Config) api.Config {
	return api.Config{Voters: slices.Clone(c.Voters), Next: slices.Clone(c.Next), Learners: slices.Clone(c.Learners)}
}

// Snapshot: in memory of its own.
func Snapshot(x api.Snapshot) api.Snapshot {
	x.Config = Config(x.Config)
	return x
}

// Table: in memory of its own.
func Table(t api.Table) api.Table {
	t.Pairs = slices.Clone(t.Pairs)
	t.Sessions = slices.Clone(t.Sessions)
	for i := range t.Sessions {
		t.Sessions[i].Answer = Result(t.Sessions[i].Answer)
	}
	return t
}

// Result: in memory of its own.
func Result(r api.Result) api.Result {
	r.Keys = slices.Clone(r.Keys)
	return r
}

// Calls: in memory of their own.
func Calls(l []api.Call) []api.Call {
	l = slices.Clone(l)
	for i := range l {
		l[i].Result = Result(l[i].Result)
	}
	return l
}
