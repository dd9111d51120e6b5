package cell

import (
	"quorate/api"
	"quorate/kv"
)

// maps: of the groups, the first one's first.
type maps [][]api.Pair

// Find: in which group's map a key is, its value and version (false: it has none); 0: it is in none.
func Find(l [][]api.Pair, key string) (int, api.Pair, bool) {
	m := maps(l)
	at := firstGroup
	for range m {
		if !m.has(at) {
			break
		}
		c := m.say(at, key)
		if !m.handedOver(c, key) {
			p, is := c.pair(key)
			return at, p, is
		}
		at = c.group
	}
	return 0, api.Pair{}, false
}

// has: is there such a group?
func (m maps) has(group int) bool {
	return group <= len(m)
}

// say: what a group's map says of a key.
func (m maps) say(group int, key string) cell {
	_, r := kv.Apply(m[group-1], getCommand(key))
	return saw(group, r).cell
}

// handedOver: is the key with the group that its cell names? One that is moving is there as soon as that group says so.
func (m maps) handedOver(c cell, key string) bool {
	switch c.says {
	case gone:
		return true
	case moving:
		return m.has(c.group) && m.say(c.group, key).hops >= c.hops
	}
	return false
}
