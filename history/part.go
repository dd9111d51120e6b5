package history

import (
	"slices"
	"strings"

	"quorate/api"
	"quorate/kv"
	"quorate/wire"
)

// part: calls whose results hang on one another alone: those of one key, or of some keys that a List tells of. (A history has fewer calls than a map has room for keys, so that none takes another's room.) Orders of the parts, in which no call stands behind one that began when it was answered, can always be put together to such an order of all: so whether there is a way is asked of each part for itself, and ways through one are not tried again for each way through another.
type part struct {
	*search
	members calls
	seen    []string // values that were answered
	done    calls
	pairs   []api.Pair
	dead    map[place]struct{} // there is no way from these
}

// place: on a way through a part: what is done, and what the pairs look like.
type place struct {
	done calls
	look string
}

func (p *part) take(i int) {
	p.members = p.members.with(i)
	if c := p.history[i]; isAnswered(c) {
		p.seen = append(p.seen, c.Result.Value)
	}
}

// step: a call is done, if it can be, and there is a way behind it.
func (p *part) step(i int) bool {
	pairs, ok := p.try(p.pairs, i)
	if !ok || !p.hasWay(p.done.with(i), pairs) {
		return false
	}
	p.done, p.pairs = p.done.with(i), pairs
	return true
}

// try: what the pairs are behind a call; and does it have its result there?
func (p *part) try(pairs []api.Pair, i int) ([]api.Pair, bool) {
	c := p.history[i]
	next, r := kv.Apply(pairs, c.Command)
	return next, !isAnswered(c) || isSame(r, c.Result)
}

func isSame(a, b api.Result) bool {
	return a.Kind == b.Kind && a.Value == b.Value && a.Version == b.Version && slices.Equal(a.Keys, b.Keys)
}

// hasWay: can all of the part that were answered be done from there on?
func (p *part) hasWay(done calls, pairs []api.Pair) bool {
	if p.members&p.answered&^done == 0 {
		return true
	}
	here := place{done, p.look(pairs)}
	if _, known := p.dead[here]; known {
		return false
	}
	for i := range p.history {
		if p.mayCome(i, p.members, done) && p.leads(i, done, pairs) {
			return true
		}
	}
	p.dead[here] = struct{}{}
	return false
}

// leads: is there a way that begins with a call? One that was not answered, and changes nothing, is left out: the way is one without it, too.
func (p *part) leads(i int, done calls, pairs []api.Pair) bool {
	next, ok := p.try(pairs, i)
	if !ok || !p.answered.has(i) && slices.Equal(next, pairs) {
		return false
	}
	return p.hasWay(done.with(i), next)
}

// look: all of the pairs that a result can hang on. A value that is no beginning of one that was answered never becomes one, whatever is put behind it; of that just its length counts, since it may grow too long. (Else each order in which values were put together were a place of its own: more than can be gone through.)
func (p *part) look(pairs []api.Pair) string {
	var b strings.Builder
	for _, x := range pairs {
		b.WriteString(wire.PutNumbers(len(x.Key), x.Version, len(x.Value)))
		b.WriteString(x.Key)
		if p.isSeen(x.Value) {
			b.WriteString(wire.PutNumbers(1))
			b.WriteString(x.Value)
		} else {
			b.WriteString(wire.PutNumbers(0))
		}
	}
	return b.String()
}

// isSeen: does a value that was answered begin so?
func (p *part) isSeen(value string) bool {
	return slices.ContainsFunc(p.seen, func(s string) bool {
		return strings.HasPrefix(s, value)
	})
}
