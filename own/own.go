// Package own: copies that share no memory with what they are made of.
package own

import (
	"slices"

	"quorate/api"
)

// Config: in memory of its own.
func Config(c api.Config) api.Config {
	return api.Config{Voters: slices.Clone(c.Voters), Next: slices.Clone(c.Next), Learners: slices.Clone(c.Learners)}
}

// Snapshot: in memory of its own.
func Snapshot(x api.Snapshot) api.Snapshot {
	x.Config = Config(x.Config)
	return x
}
