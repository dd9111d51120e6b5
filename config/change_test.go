package config_test

import (
	"math"
	"slices"
	"testing"

	"quorate/api"
	"quorate/config"
)

func op(kind, node int) api.Op {
	return api.Op{Kind: kind, Node: node}
}

func TestP1_3Begin(t *testing.T) {
	three := api.Config{Voters: []int{1, 2, 3}}
	learning := api.Config{Voters: []int{2}, Learners: []int{1, 4}}
	for _, x := range []struct {
		c    api.Config
		ops  []api.Op
		want string
	}{
		{three, []api.Op{op(api.AddVoter, 4), op(api.RemoveNode, 1)}, "[1 2 3] [2 3 4] [] 0"},
		{three, []api.Op{op(api.AddVoter, 9)}, "[1 2 3] [1 2 3 9] [] 0"},
		{three, []api.Op{op(api.RemoveNode, 2)}, "[1 2 3] [1 3] [] 0"},
		{three, []api.Op{op(api.RemoveNode, 2), op(api.AddVoter, 2)}, "[1 2 3] [] [] 0"},
		{three, []api.Op{op(api.AddVoter, 4), op(api.RemoveNode, 4)}, "[1 2 3] [] [] 0"},
		{three, []api.Op{op(api.AddLearner, 4), op(api.AddVoter, 4)}, "[1 2 3] [1 2 3 4] [] 0"},
		{three, []api.Op{op(api.AddLearner, 4), op(api.RemoveNode, 4)}, "[1 2 3] [] [] 0"},
		{three, []api.Op{op(api.AddLearner, 7), op(api.AddLearner, 4), op(api.AddLearner, 9), op(api.AddLearner, 5)}, "[1 2 3] [] [4 5 7 9] 0"},
		{three, []api.Op{op(api.AddVoter, 5), op(api.RemoveNode, 5), op(api.AddLearner, 5)}, "[1 2 3] [] [5] 0"},
		{api.Config{Voters: []int{1}}, []api.Op{op(api.AddLearner, 2)}, "[1] [] [2] 0"},
		{api.Config{Voters: []int{1}, Next: []int{}, Learners: []int{}}, []api.Op{op(api.AddLearner, 2)}, "[1] [] [2] 0"},
		{api.Config{Voters: []int{1}}, []api.Op{op(api.RemoveNode, 1), op(api.AddVoter, 2)}, "[1] [2] [] 0"},
		{learning, []api.Op{op(api.AddVoter, 1)}, "[2] [1 2] [4] 0"},
		{learning, []api.Op{op(api.RemoveNode, 4)}, "[2] [] [1] 0"},
		{learning, []api.Op{op(api.AddLearner, 3)}, "[2] [] [1 3 4] 0"},
		{learning, []api.Op{op(api.AddVoter, 3)}, "[2] [2 3] [1 4] 0"},
	} {
		if got := told(config.Begin(x.c, x.ops)); got != x.want {
			t.Errorf("P1.3: Begin(%v, %v): %s, want %s", x.c, x.ops, got, x.want)
		}
	}
}

func TestP1_3Refused(t *testing.T) {
	one := api.Config{Voters: []int{1}}
	two := api.Config{Voters: []int{1, 2}, Learners: []int{3}}
	for _, x := range []struct {
		c   api.Config
		ops []api.Op
	}{
		{one, []api.Op{op(api.RemoveNode, 1)}},
		{one, []api.Op{op(api.AddVoter, 1)}},
		{one, []api.Op{op(api.AddLearner, 1)}},
		{one, []api.Op{op(api.RemoveNode, 2)}},
		{one, []api.Op{op(api.AddVoter, 2), op(api.AddVoter, 2)}},
		{one, []api.Op{op(api.AddVoter, 2), op(api.AddLearner, 2)}},
		{one, []api.Op{op(api.AddLearner, 2), op(api.AddLearner, 2)}},
		{one, []api.Op{op(api.AddLearner, 2), op(api.RemoveNode, 1)}},
		{one, []api.Op{op(api.RemoveNode, 1), op(api.RemoveNode, 1), op(api.AddVoter, 2)}},
		{one, []api.Op{op(api.AddVoter, 2), op(api.RemoveNode, 1), op(api.AddLearner, 1)}},
		{two, []api.Op{op(api.RemoveNode, 1), op(api.RemoveNode, 2)}},
		{two, []api.Op{op(api.AddLearner, 3)}},
		{two, []api.Op{op(api.AddVoter, 4), op(9, 5)}},
	} {
		if got := told(config.Begin(x.c, x.ops)); got != "[] [] [] 8" {
			t.Errorf("P1.3: Begin(%v, %v): %s, want ErrConfig", x.c, x.ops, got)
		}
	}
	for _, n := range []int{math.MinInt, -1, 0, 10, math.MaxInt} {
		for kind := range 5 {
			if got := told(config.Begin(two, []api.Op{op(kind, n)})); got != "[] [] [] 8" {
				t.Errorf("P1.3: Begin with %v, of no node: %s", op(kind, n), got)
			}
		}
	}
	for _, kind := range []int{math.MinInt, -1, 0, 4, 5, math.MaxInt} {
		for n := 1; n <= 9; n++ {
			if got := told(config.Begin(two, []api.Op{op(kind, n)})); got != "[] [] [] 8" {
				t.Errorf("P1.3: Begin with %v, of no kind: %s", op(kind, n), got)
			}
		}
	}
}

func TestP1_3OrderOfErrors(t *testing.T) {
	good, joint := api.Config{Voters: []int{1}}, api.Config{Voters: []int{1}, Next: []int{2}}
	bad := op(api.AddVoter, 1)
	for _, c := range strange() {
		for _, ops := range [][]api.Op{nil, {bad}, make([]api.Op, 7)} {
			if got := told(config.Begin(c, ops)); got != "[] [] [] 8" {
				t.Errorf("P1.3: Begin(%v, %v): %s, want ErrConfig", c, ops, got)
			}
		}
	}
	for _, ops := range [][]api.Op{nil, {}, {bad}, {op(api.AddVoter, 3)}, make([]api.Op, 7)} {
		if got := told(config.Begin(joint, ops)); got != "[] [] [] 9" {
			t.Errorf("P1.3: Begin(%v, %v): %s, want ErrJoint", joint, ops, got)
		}
	}
	for _, ops := range [][]api.Op{nil, {}, slices.Repeat([]api.Op{bad}, 7), slices.Repeat([]api.Op{bad}, 1000)} {
		if got := told(config.Begin(good, ops)); got != "[] [] [] 4" {
			t.Errorf("P1.3: Begin(%v, %d operations): %s, want ErrBound", good, len(ops), got)
		}
	}
}

func TestP1_3MaxOps(t *testing.T) {
	var ops []api.Op
	for n := 2; n <= 8; n++ {
		ops = append(ops, op(api.AddVoter, n))
	}
	one := api.Config{Voters: []int{1}}
	if got := told(config.Begin(one, ops[:6])); config.MaxOps != 6 || got != "[1] [1 2 3 4 5 6 7] [] 0" {
		t.Errorf("P1.3: six operations: %s", got)
	}
	if got := told(config.Begin(one, ops)); got != "[] [] [] 4" {
		t.Errorf("P1.3: seven operations: %s", got)
	}
}

// begin: by bits what Begin promises; false: ErrConfig.
func begin(s sets, ops []api.Op) (sets, bool) {
	next, learners := s.voters, s.learners
	for _, o := range ops {
		bit := set(1) << (o.Node - 1)
		switch {
		case o.Kind == 1 && next&bit == 0:
			next, learners = next|bit, learners&^bit
		case o.Kind == 2 && (next|learners|s.voters)&bit == 0:
			learners |= bit
		case o.Kind == 3 && (next|learners)&bit != 0:
			next, learners = next&^bit, learners&^bit
		default:
			return sets{}, false
		}
	}
	if next == s.voters {
		return sets{s.voters, 0, learners}, true
	}
	return sets{s.voters, next, learners}, next != 0
}

// changes: all lists of operations on three nodes, of so many at most.
func changes(most int) (l [][]api.Op) {
	l = [][]api.Op{nil}
	for i := 0; i < len(l); i++ {
		if len(l[i]) == most {
			break
		}
		for kind := 1; kind <= 3; kind++ {
			for n := 1; n <= 3; n++ {
				l = append(l, append(slices.Clone(l[i]), op(kind, n)))
			}
		}
	}
	return l[1:]
}

func TestP1_3AllOfThreeNodes(t *testing.T) {
	for _, s := range mayBe(3) {
		if s.next != 0 {
			continue
		}
		for _, ops := range changes(4) {
			b, ok := begin(s, ops)
			want := "[] [] [] 8"
			if ok {
				want = told(b.config(), api.OK)
			}
			if got := told(config.Begin(s.config(), ops)); got != want {
				t.Fatalf("P1.3: Begin(%v, %v): %s, want %s", s.config(), ops, got, want)
			}
		}
	}
}

func TestP1_4Finish(t *testing.T) {
	for _, s := range all(4) {
		want := "[] [] [] 8"
		if s.mayBe() && s.next != 0 {
			want = told(sets{voters: s.next, learners: s.learners}.config(), api.OK)
		}
		if got := told(config.Finish(s.config())); got != want {
			t.Errorf("P1.4: Finish(%v): %s, want %s", s.config(), got, want)
		}
	}
	for _, c := range strange() {
		if got := told(config.Finish(c)); got != "[] [] [] 8" {
			t.Errorf("P1.4: Finish(%v): %s, want ErrConfig", c, got)
		}
	}
}

// apart: a quorum of one and one of the other that share no node.
func apart(a, b api.Config) bool {
	for x := range set(8) {
		for y := range set(8) {
			if x&y == 0 && config.Quorum(a, x.nodes()) && config.Quorum(b, y.nodes()) {
				return true
			}
		}
	}
	return false
}

func TestChangesShareANode(t *testing.T) {
	for _, s := range mayBe(3) {
		for _, ops := range changes(3) {
			c, e := config.Begin(s.config(), ops)
			if e != api.OK {
				continue
			}
			if !config.Valid(c) || apart(s.config(), c) {
				t.Errorf("P1.3: Begin(%v, %v): %v", s.config(), ops, c)
			}
			if f, e := config.Finish(c); e == api.OK && (!config.Valid(f) || apart(c, f)) {
				t.Errorf("P1.4: Finish(%v): %v", c, f)
			}
		}
	}
}

// roomy: a list with spare room, which is filled with 77.
func roomy(l ...int) []int {
	return append(slices.Clone(l), 77, 77, 77)[:len(l)]
}

// isRoomy: is such a list as it was?
func isRoomy(l []int, want ...int) bool {
	return slices.Equal(l[:len(want)+3], append(slices.Clone(want), 77, 77, 77))
}

// spoil: a list, and its spare room.
func spoil(l []int) {
	l = l[:cap(l)]
	for i := range l {
		l[i] = 88
	}
}

func TestListsHandedInStay(t *testing.T) {
	c := api.Config{Voters: roomy(2, 4), Next: roomy(), Learners: roomy(3)}
	joint := api.Config{Voters: roomy(2, 4), Next: roomy(4, 5), Learners: roomy(3)}
	have := roomy(9, 4, 2)
	ops := []api.Op{op(api.RemoveNode, 2), op(api.AddVoter, 1), op(api.AddVoter, 3), op(api.AddLearner, 6)}
	for _, x := range []api.Config{c, joint} {
		config.Valid(x)
		config.Same(x, x)
		config.Votes(x, 4)
		config.Quorum(x, have)
		config.Lost(x, have)
		spoil(config.Members(x))
		begun, _ := config.Begin(x, ops)
		ended, _ := config.Finish(x)
		for _, l := range [][]int{begun.Voters, begun.Next, begun.Learners, ended.Voters, ended.Next, ended.Learners} {
			spoil(l)
		}
	}
	if !isRoomy(c.Voters, 2, 4) || !isRoomy(c.Next) || !isRoomy(c.Learners, 3) || !isRoomy(have, 9, 4, 2) {
		t.Errorf("what is handed in is changed: %v, %v", c, have)
	}
	if !isRoomy(joint.Voters, 2, 4) || !isRoomy(joint.Next, 4, 5) || !isRoomy(joint.Learners, 3) {
		t.Errorf("what is handed in is changed: %v", joint)
	}
	if len(ops) != 4 || ops[0] != op(api.RemoveNode, 2) || ops[3] != op(api.AddLearner, 6) {
		t.Errorf("what is handed in is changed: %v", ops)
	}
}

func TestListsThatComeOutAreApart(t *testing.T) {
	c := api.Config{Voters: []int{1, 2}, Learners: []int{5}}
	for _, ops := range [][]api.Op{{op(api.AddLearner, 4)}, {op(api.AddVoter, 4)}, {op(api.AddVoter, 5)}} {
		for i := range 3 {
			b, _ := config.Begin(c, ops)
			l := [][]int{b.Voters, b.Next, b.Learners}
			spoil(l[i])
			again, _ := config.Begin(c, ops)
			for j, m := range [][]int{again.Voters, again.Next, again.Learners} {
				if j != i && !slices.Equal(l[j], m) {
					t.Errorf("P1.3: Begin(%v, %v): lists of one answer share memory: %v", c, ops, b)
				}
			}
		}
	}
}
