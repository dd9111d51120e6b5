package config_test

import (
	"fmt"
	"math"
	"slices"
	"testing"

	"quorate/api"
	"quorate/config"
)

// set: nodes as bits, the node 1 as the lowest: a second way to reckon with nodes.
type set int

func (s set) nodes() (l []int) {
	for n := 1; s>>(n-1) > 0; n++ {
		if s.has(n) {
			l = append(l, n)
		}
	}
	return l
}

func (s set) has(n int) bool {
	return 1 <= n && n <= 9 && s>>(n-1)&1 == 1
}

func (s set) size() int {
	return len(s.nodes())
}

// most: are more than half of these among those?
func (s set) most(of set) bool {
	return (s & of).size() > of.size()/2
}

// sets: a configuration as bits.
type sets struct {
	voters, next, learners set
}

func (s sets) config() api.Config {
	return api.Config{Voters: s.voters.nodes(), Next: s.next.nodes(), Learners: s.learners.nodes()}
}

func (s sets) mayBe() bool {
	return s.voters != 0 && s.learners&(s.voters|s.next) == 0
}

func (s sets) quorum(have set) bool {
	return have.most(s.voters) && (s.next == 0 || have.most(s.next))
}

// all: configurations of rising lists of the nodes up to one, those that may not be too.
func all(nodes int) (l []sets) {
	most := set(1) << nodes
	for voters := range most {
		for next := range most {
			for learners := range most {
				l = append(l, sets{voters, next, learners})
			}
		}
	}
	return l
}

// mayBe: those of them that may be.
func mayBe(nodes int) []sets {
	return slices.DeleteFunc(all(nodes), func(s sets) bool { return !s.mayBe() })
}

// strange: configurations that may not be.
func strange() []api.Config {
	one := []int{1}
	return []api.Config{
		{},
		{Voters: []int{}},
		{Next: one},
		{Learners: one},
		{Next: one, Learners: []int{2}},
		{Voters: []int{0}},
		{Voters: []int{10}},
		{Voters: []int{-1}},
		{Voters: []int{1, 10}},
		{Voters: []int{0, 1}},
		{Voters: []int{math.MinInt, 1, math.MaxInt}},
		{Voters: []int{2, 1}},
		{Voters: []int{1, 1}},
		{Voters: []int{1, 3, 2}},
		{Voters: []int{1, 2, 3, 3}},
		{Voters: []int{1, 2, 3, 4, 5, 6, 7, 8, 9, 9}},
		{Voters: one, Next: []int{0}},
		{Voters: one, Next: []int{10}},
		{Voters: one, Next: []int{3, 2}},
		{Voters: one, Next: []int{2, 2}},
		{Voters: one, Learners: []int{0}},
		{Voters: one, Learners: []int{10}},
		{Voters: one, Learners: []int{3, 2}},
		{Voters: one, Learners: []int{2, 2}},
		{Voters: one, Learners: one},
		{Voters: []int{1, 2, 3}, Learners: []int{2, 4}},
		{Voters: []int{1, 2, 3}, Learners: []int{4, 5, 3}},
		{Voters: one, Next: []int{2}, Learners: []int{2}},
		{Voters: one, Next: []int{2, 5}, Learners: []int{4, 5}},
	}
}

func TestP1_1Valid(t *testing.T) {
	for _, c := range strange() {
		if config.Valid(c) {
			t.Errorf("P1.1: Valid(%v)", c)
		}
	}
	for _, s := range all(4) {
		if config.Valid(s.config()) != s.mayBe() {
			t.Errorf("P1.1: Valid(%v) is not %v", s.config(), s.mayBe())
		}
	}
	for _, c := range []api.Config{
		{Voters: []int{9}},
		{Voters: []int{1, 2, 3, 4, 5, 6, 7, 8, 9}, Next: []int{1, 2, 3, 4, 5, 6, 7, 8, 9}},
		{Voters: []int{1}, Next: []int{9}, Learners: []int{2, 3, 4, 5, 6, 7, 8}},
		{Voters: []int{1}, Next: []int{}, Learners: []int{9}},
	} {
		if !config.Valid(c) {
			t.Errorf("P1.1: not Valid(%v)", c)
		}
	}
}

func TestP1_1Same(t *testing.T) {
	l := []api.Config{
		{},
		{Voters: []int{1}},
		{Next: []int{1}},
		{Learners: []int{1}},
		{Voters: []int{1, 2}},
		{Voters: []int{2, 1}},
		{Voters: []int{1, 1}},
		{Voters: []int{2}},
		{Voters: []int{1}, Next: []int{2}},
		{Voters: []int{1}, Next: []int{2, 3}},
		{Voters: []int{1}, Next: []int{3}},
		{Voters: []int{1}, Learners: []int{2}},
		{Voters: []int{1}, Learners: []int{2, 3}},
		{Voters: []int{1}, Learners: []int{3}},
		{Voters: []int{1}, Next: []int{2}, Learners: []int{3}},
	}
	for i, a := range l {
		for j, b := range l {
			if config.Same(a, b) != (i == j) {
				t.Errorf("P1.1: Same(%v, %v) is not %v", a, b, i == j)
			}
		}
	}
	none := api.Config{Voters: []int{}, Next: []int{}, Learners: []int{}}
	if !config.Same(none, api.Config{}) || !config.Same(api.Config{}, none) {
		t.Error("P1.1: Same: nil and empty lists are the same")
	}
}

func TestP1_1Joint(t *testing.T) {
	for _, s := range all(3) {
		if config.Joint(s.config()) != (s.next != 0) {
			t.Errorf("P1.1: Joint(%v) is not %v", s.config(), s.next != 0)
		}
	}
	if config.Joint(api.Config{Voters: []int{1}, Next: []int{}}) {
		t.Error("P1.1: Joint, with an empty Next")
	}
}

func TestP1_2MembersAndVotes(t *testing.T) {
	for _, s := range append(mayBe(4), sets{voters: 0x1ff}, sets{voters: 1, next: 0x100, learners: 0x0fe}) {
		c := s.config()
		members := s.voters | s.next | s.learners
		if got := config.Members(c); !slices.Equal(got, members.nodes()) {
			t.Errorf("P1.2: Members(%v): %v", c, got)
		}
		for _, n := range []int{math.MinInt, -1, 0, 1, 2, 3, 4, 5, 8, 9, 10, math.MaxInt} {
			if want := (s.voters | s.next).has(n); config.Votes(c, n) != want {
				t.Errorf("P1.2: Votes(%v, %d) is not %v", c, n, want)
			}
		}
	}
}

func TestP1_2QuorumAndLost(t *testing.T) {
	for _, s := range mayBe(4) {
		c := s.config()
		for have := range set(32) {
			if config.Quorum(c, have.nodes()) != s.quorum(have) {
				t.Errorf("P1.2: Quorum(%v, %v) is not %v", c, have.nodes(), s.quorum(have))
			}
			members := s.voters | s.next | s.learners
			if want := !s.quorum(members &^ have); config.Lost(c, have.nodes()) != want {
				t.Errorf("P1.2: Lost(%v, %v) is not %v", c, have.nodes(), want)
			}
		}
	}
}

func TestP1_2QuorumOfNine(t *testing.T) {
	nine := api.Config{Voters: set(0x1ff).nodes()}
	if config.Quorum(nine, []int{1, 3, 5, 7}) || !config.Quorum(nine, []int{1, 3, 5, 7, 9}) {
		t.Error("P1.2: of nine voters five are a quorum, four are none")
	}
	if config.Lost(nine, []int{1, 3, 5, 7}) || !config.Lost(nine, []int{1, 3, 5, 7, 9}) {
		t.Error("P1.2: without five of nine voters the rest is lost, without four it is not")
	}
}

func TestP1_2ListsInAnyOrder(t *testing.T) {
	c := api.Config{Voters: []int{1, 2, 3, 4}, Next: []int{3, 4, 5}, Learners: []int{6}}
	for _, x := range []struct {
		list         []int
		quorum, lost bool
	}{
		{nil, false, false},
		{[]int{}, false, false},
		{[]int{4, 3, 1}, true, true},
		{[]int{4, -7, 3, 100, 1, 0, math.MaxInt, math.MinInt}, true, true},
		{[]int{3, 3, 3, 3, 3}, false, false},
		{[]int{1, 1, 2, 2, 2}, false, true},
		{[]int{6, 6, 6, 6, 3}, false, false},
		{[]int{5, 5, 4}, false, true},
		{[]int{5, 2, 1, 4, 4}, true, true},
		{[]int{6, 10, 11, 12, 13}, false, false},
	} {
		if got := config.Quorum(c, x.list); got != x.quorum {
			t.Errorf("P1.2: Quorum(%v, %v): %v", c, x.list, got)
		}
		if got := config.Lost(c, x.list); got != x.lost {
			t.Errorf("P1.2: Lost(%v, %v): %v", c, x.list, got)
		}
	}
}

func TestP1_2StrangeOnesEnd(t *testing.T) {
	for _, c := range strange() {
		for _, l := range [][]int{nil, {1}, {math.MinInt, 0, 1, 1, math.MaxInt}} {
			config.Members(c)
			config.Votes(c, 1)
			config.Quorum(c, l)
			config.Lost(c, l)
		}
	}
}

func TestQuorumsShareANode(t *testing.T) {
	for _, s := range mayBe(4) {
		for a := range set(16) {
			for b := range set(16) {
				if a&b == 0 && config.Quorum(s.config(), a.nodes()) && config.Quorum(s.config(), b.nodes()) {
					t.Errorf("P1.2: two quorums of %v share no node: %v, %v", s.config(), a.nodes(), b.nodes())
				}
			}
		}
	}
}

// told: a configuration and an error, for a look; nil and empty are the same.
func told(c api.Config, e api.Errno) string {
	return fmt.Sprint(c.Voters, c.Next, c.Learners, " ", int(e))
}
