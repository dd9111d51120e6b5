// Package config: who votes: see the document's chapter.
package config

import (
	"slices"

	"quorate/api"
	"quorate/bound"
)

// MaxOps: of one change.
const MaxOps = 6

// Valid: may a configuration be?
func Valid(c api.Config) bool {
	if len(c.Voters) == 0 || !bound.AreRising(c.Voters) || !bound.AreRising(c.Next) || !bound.AreRising(c.Learners) {
		return false
	}
	voting := func(n int) bool { return Votes(c, n) }
	return !slices.ContainsFunc(c.Learners, voting)
}

// Same: two configurations.
func Same(a, b api.Config) bool {
	return slices.Equal(a.Voters, b.Voters) && slices.Equal(a.Next, b.Next) && slices.Equal(a.Learners, b.Learners)
}

// Joint: is a change under way?
func Joint(c api.Config) bool {
	return len(c.Next) > 0
}

// Members: all nodes that there are.
func Members(c api.Config) []int {
	l := slices.Concat(c.Voters, c.Next, c.Learners)
	slices.Sort(l)
	return slices.Compact(l)
}

// Votes: may a node vote?
func Votes(c api.Config, n int) bool {
	return slices.Contains(c.Voters, n) || slices.Contains(c.Next, n)
}

// Quorum: are nodes enough?
func Quorum(c api.Config, have []int) bool {
	return isMajority(c.Voters, have) && (!Joint(c) || isMajority(c.Next, have))
}

// Lost: can nodes never be enough, without those?
func Lost(c api.Config, without []int) bool {
	gone := func(n int) bool { return slices.Contains(without, n) }
	return !Quorum(c, slices.DeleteFunc(Members(c), gone))
}

// isMajority: are more than half of the voters among these?
func isMajority(voters, have []int) bool {
	count := 0
	// The voters are counted, not those who are there: a node may be there twice.
	for _, n := range voters {
		if slices.Contains(have, n) {
			count++
		}
	}
	return 2*count > len(voters)
}
