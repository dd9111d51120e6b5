package front

import (
	"quorate/api"
	"quorate/bound"
)

// reader: of a line's words, from the left.
type reader struct {
	left []word
	end  int // the line's length
}

// wrong: what a reader throws when it can't go on: why, and at which byte.
type wrong struct {
	reason api.Errno
	at     int
}

// read: all of a line, by one of the reader's methods; what it throws is caught here.
func read[T any](line string, get func(*reader) T) (value T, at int, e api.Errno) {
	defer func() {
		thrown := recover()
		if thrown == nil {
			return
		}
		stop, known := thrown.(wrong)
		if !known {
			panic(thrown) // a fault of the program must not pass for one of the line
		}
		var none T
		value, at, e = none, stop.at, stop.reason
	}()
	r := reader{left: split(line), end: len(line)}
	value = get(&r)
	if len(r.left) > 0 {
		panic(wrong{reason: api.ErrCommand, at: r.left[0].at})
	}
	return value, -1, api.OK
}

// must: a reader gives up, unless this holds.
func must(holds bool, reason api.Errno, at int) {
	if !holds {
		panic(wrong{reason: reason, at: at})
	}
}

// has: are there so many words more?
func (r *reader) has(count int) bool {
	return len(r.left) >= count
}

// need: so many words more.
func (r *reader) need(count int) {
	must(r.has(count), api.ErrCommand, r.end)
}

// next: the next word.
func (r *reader) next() word {
	r.need(1)
	w := r.left[0]
	r.left = r.left[1:]
	return w
}

// named: the number, among these, whose name is the next word.
func (r *reader) named(least, most int, name func(int) string) int {
	w := r.next()
	for n := least; n <= most; n++ {
		if name(n) == w.text {
			return n
		}
	}
	panic(wrong{reason: api.ErrCommand, at: w.at})
}

// text: of so many bytes.
func (r *reader) text(least, most int) string {
	w := r.next()
	must(least <= len(w.text) && len(w.text) <= most, api.ErrCommand, w.at)
	return w.text
}

func (r *reader) value() string {
	return r.text(0, api.MaxValue)
}

func (r *reader) number() int {
	w := r.next()
	n, is := bound.Decimal(w.text, 0, api.MaxNumber)
	must(is, api.ErrCommand, w.at)
	return n
}

// command: words are judged one by one from the left, ahead of what may be missing behind them.
func (r *reader) command() api.Command {
	c := api.Command{Kind: r.named(api.Put, api.List, verbOf)}
	if c.Kind == api.List {
		return r.list(c)
	}
	c.Key = r.text(1, api.MaxKey)
	switch c.Kind {
	case api.Swap:
		c.Value, c.If = r.value(), r.number()
	case api.Put, api.Append:
		c.Value = r.value()
	}
	return c
}

// list: both words behind its verb may be left out, the number first.
func (r *reader) list(c api.Command) api.Command {
	if r.has(1) {
		c.Key = r.text(0, api.MaxKey)
	}
	if r.has(1) {
		c.If = r.number()
	}
	return c
}

// result: that words are missing is told ahead of what is wrong with the others, but for the first.
func (r *reader) result() api.Result {
	x := api.Result{Kind: r.named(0, api.Lost, outcomeOf)}
	r.need(2)
	x.Version, x.Value = r.number(), r.value()
	for r.has(1) {
		x.Keys = append(x.Keys, r.keyBehind(x.Keys))
	}
	return x
}

// keyBehind: one more of a result's keys.
func (r *reader) keyBehind(keys []string) string {
	at := r.left[0].at
	key := r.text(0, api.MaxKey)
	count := len(keys)
	must(count < api.MaxPairs && (count == 0 || keys[count-1] < key), api.ErrCommand, at)
	return key
}
