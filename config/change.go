package config

import (
	"slices"

	"quorate/api"
	"quorate/bound"
)

// draft: of a change: who votes now, who is to vote, who is to learn.
type draft struct {
	voters, next, learners []int
}

// Begin: a change: who votes then beside who votes now; or, if just learners change, at once.
func Begin(c api.Config, ops []api.Op) (api.Config, api.Errno) {
	if !Valid(c) {
		return api.Config{}, api.ErrConfig
	}
	if Joint(c) {
		return api.Config{}, api.ErrJoint
	}
	if len(ops) == 0 || len(ops) > MaxOps {
		return api.Config{}, api.ErrBound
	}
	d := draft{voters: slices.Clone(c.Voters), next: slices.Clone(c.Voters), learners: slices.Clone(c.Learners)}
	for _, op := range ops {
		if !d.do(op) {
			return api.Config{}, api.ErrConfig
		}
	}
	if len(d.next) == 0 {
		return api.Config{}, api.ErrConfig
	}
	return d.config(), api.OK
}

// Finish: a change that is under way is done.
func Finish(c api.Config) (api.Config, api.Errno) {
	if !Valid(c) || !Joint(c) {
		return api.Config{}, api.ErrConfig
	}
	return api.Config{Voters: slices.Clone(c.Next), Learners: slices.Clone(c.Learners)}, api.OK
}

// do: an operation; false: it can't be done, and nothing changes.
func (d *draft) do(op api.Op) bool {
	n := op.Node
	voting, learning := slices.Contains(d.next, n), slices.Contains(d.learners, n)
	switch {
	case !bound.IsNode(n):
		return false
	case op.Kind == api.AddVoter && !voting:
		d.next, d.learners = with(d.next, n), without(d.learners, n)
	// Who votes till the change is done can't be a learner beside that, even if it is to vote no more.
	case op.Kind == api.AddLearner && !voting && !learning && !slices.Contains(d.voters, n):
		d.learners = with(d.learners, n)
	case op.Kind == api.RemoveNode && (voting || learning):
		d.next, d.learners = without(d.next, n), without(d.learners, n)
	default:
		return false
	}
	return true
}

// config: what comes of a draft: no change needs to be under way if the same nodes are to vote.
func (d *draft) config() api.Config {
	if slices.Equal(d.voters, d.next) {
		return api.Config{Voters: d.voters, Learners: d.learners}
	}
	return api.Config{Voters: d.voters, Next: d.next, Learners: d.learners}
}

// with: a rising list, and a node that is not in it.
func with(l []int, n int) []int {
	at, _ := slices.BinarySearch(l, n)
	return slices.Insert(l, at, n)
}

// without: a list, less a node.
func without(l []int, n int) []int {
	return slices.DeleteFunc(l, func(m int) bool { return m == n })
}
