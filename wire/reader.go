package wire

import "quorate/api"

// reader: bytes that are read from the left.
type reader struct {
	left string
}

// lastShift: of the sixth byte of a number, the last that there may be.
const lastShift = 5 * 7

// giveUp: what a reader panics with when it can't go on.
type giveUp struct {
	reason api.Errno
}

// read: all of a text, by one of the reader's methods; a reader that gives up is caught here.
func read[T any](s string, get func(*reader) T) (value T, e api.Errno) {
	defer func() {
		thrown := recover()
		if thrown == nil {
			return
		}
		stop, known := thrown.(giveUp)
		if !known {
			panic(thrown) // a fault of the program must not pass for one of the bytes
		}
		var none T
		value, e = none, stop.reason
	}()
	r := reader{left: s}
	value = get(&r)
	must(r.left == "", api.ErrBytes)
	return value, api.OK
}

// must: a reader gives up, unless this holds.
func must(holds bool, otherwise api.Errno) {
	if !holds {
		panic(giveUp{reason: otherwise})
	}
}

// take: the next bytes, so many.
func (r *reader) take(count int) string {
	must(count <= len(r.left), api.ErrShort)
	taken := r.left[:count]
	r.left = r.left[count:]
	return taken
}

// number: ends at the first byte without its highest bit; each byte is judged ahead of the next one, so that it is seen which error is met first.
func (r *reader) number() int {
	n := 0
	for shift := 0; ; shift += 7 {
		b := r.take(1)[0]
		n |= int(b&0x7f) << shift
		must(shift <= lastShift && n <= api.MaxNumber && (b != 0 || shift == 0), api.ErrBytes)
		if b < 0x80 {
			return n
		}
	}
}

// flag: a byte that is 0 or 1.
func (r *reader) flag() bool {
	b := r.take(1)[0]
	must(b <= 1, api.ErrBytes)
	return b == 1
}

// upTo: a number that is a length or a count.
func (r *reader) upTo(most int) int {
	n := r.number()
	must(n <= most, api.ErrBound)
	return n
}

// text: of at most so many bytes.
func (r *reader) text(most int) string {
	return r.take(r.upTo(most))
}

// key: a text that is as long as keys may be.
func (r *reader) key() string {
	return r.text(api.MaxKey)
}

// times: so many of a kind, without a count ahead.
func times[T any](r *reader, count int, item func(*reader) T) []T {
	var l []T
	for range count {
		l = append(l, item(r))
	}
	return l
}

// list: a count, and so many of a kind.
func list[T any](r *reader, most int, item func(*reader) T) []T {
	return times(r, r.upTo(most), item)
}
