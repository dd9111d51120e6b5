package cell

import (
	"strconv"
	"strings"

	"quorate/api"
	"quorate/bound"
	"quorate/kv"
)

// What a cell says of its key.
const (
	here   = iota // it is in this group
	moving        // it is being handed over to another
	gone          // it was handed over to another
)

// words: what cells begin with.
var words = [...]string{here: "here", moving: "moving", gone: "gone"}

// mark: stands between a cell's numbers and the value.
const mark = " ="

// firstGroup: where all keys are at first.
const firstGroup = 1

// content: what a key has: its value and version; of none the version is 0.
type content struct {
	value   string
	version int
}

// cell: what a group's map says of a key; of one that is gone the content is none.
type cell struct {
	content
	says  int
	hops  int // how often the key was handed over
	group int // to which; 0, if it is here
}

// sight: a cell as it was seen, with the version that it had in its map.
type sight struct {
	cell
	stamp int
}

// pair: of a key that has this; false: it has none.
func (c content) pair(key string) (api.Pair, bool) {
	if c == (content{}) {
		return api.Pair{}, false
	}
	return api.Pair{Key: key, Value: c.value, Version: c.version}, true
}

// apply: what a key has behind a command, as the only one of a map, and the result.
func (c content) apply(x api.Command) (content, api.Result) {
	var l []api.Pair
	if p, is := c.pair(x.Key); is {
		l = append(l, p)
	}
	l, r := kv.Apply(l, x)
	if len(l) == 0 {
		return content{}, r
	}
	return content{value: l[0].Value, version: l[0].Version}, r
}

// fits: may it stand in a cell?
func (c content) fits() bool {
	return len(c.value) <= api.MaxText && c.version <= api.MaxChanges
}

// tail: what stands in a cell behind its other words.
func (c content) tail() string {
	if c == (content{}) {
		return ""
	}
	return " " + strconv.Itoa(c.version) + mark + c.value
}

// text: as it stands in the map.
func (c cell) text() string {
	s := words[c.says] + " " + strconv.Itoa(c.hops)
	if c.says != here {
		s += " " + strconv.Itoa(c.group)
	}
	return s + c.tail()
}

// towards: handed over to a group, once more.
func (c cell) towards(group int) cell {
	return cell{content: c.content, says: moving, hops: c.hops + 1, group: group}
}

// arrived: what the group says to which it was moving.
func (c cell) arrived() cell {
	return cell{content: c.content, says: here, hops: c.hops}
}

// left: what the group says from which it was moving.
func (c cell) left() cell {
	return cell{says: gone, hops: c.hops, group: c.group}
}

// unsaid: what a group says of a key that has no cell there.
func unsaid(group int) cell {
	if group == firstGroup {
		return cell{says: here}
	}
	return cell{says: gone, group: firstGroup}
}

// saw: what a group says, by the result of a Get of the cell.
func saw(group int, r api.Result) sight {
	if r.Kind != api.Done {
		return sight{cell: unsaid(group)}
	}
	c, is := read(r.Value)
	if !is {
		c = unsaid(group)
	}
	return sight{cell: c, stamp: r.Version}
}

// read: what a text says; false: it is no cell.
func read(text string) (cell, bool) {
	head, value, full := strings.Cut(text, mark)
	l := strings.Split(head, " ")
	says, is := saysOf(l[0])
	if !is || full && says == gone || len(value) > api.MaxText {
		return cell{}, false
	}
	c := cell{content: content{value: value}, says: says}
	if !readAll(l[1:], c.numbers(full)) {
		return cell{}, false
	}
	return c, true
}

func saysOf(word string) (int, bool) {
	for says, w := range words {
		if w == word {
			return says, true
		}
	}
	return 0, false
}

// number: one of a cell's, and from where up to where it may be.
type number struct {
	into        *int
	least, most int
}

// numbers: those that stand in a cell that says this, in order; full: it has a value.
func (c *cell) numbers(full bool) []number {
	l := []number{{&c.hops, 0, api.MaxHops}}
	if c.says != here {
		l = append(l, number{&c.group, 1, api.MaxGroups})
	}
	if full {
		l = append(l, number{&c.version, 1, api.MaxChanges})
	}
	return l
}

// readAll: each word is one of the numbers; false: they are others, or not as many.
func readAll(l []string, into []number) bool {
	if len(l) != len(into) {
		return false
	}
	for i, x := range into {
		n, is := bound.Decimal(l[i], x.least, x.most)
		if !is {
			return false
		}
		*x.into = n
	}
	return true
}

func cellKey(key string) string {
	return "c" + key
}

func getCommand(key string) api.Command {
	return api.Command{Kind: api.Get, Key: cellKey(key)}
}

func swapCommand(key string, c cell, stamp int) api.Command {
	return api.Command{Kind: api.Swap, Key: cellKey(key), Value: c.text(), If: stamp}
}
