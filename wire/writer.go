package wire

import "quorate/api"

// writer: bytes, to which more are put.
type writer struct {
	bytes []byte
}

// write: a value that may be, by one of the writer's methods; else the refusal.
func write[T any](value T, may bool, refusal api.Errno, put func(*writer, T)) (string, api.Errno) {
	if !may {
		return "", refusal
	}
	var w writer
	put(&w, value)
	return string(w.bytes), api.OK
}

// numbers: one behind the other.
func (w *writer) numbers(l ...int) {
	for _, n := range l {
		w.number(n)
	}
}

// number: without a sign, so that it ends whatever it is given.
func (w *writer) number(n int) {
	rest := uint64(n)
	for rest >= 0x80 {
		w.bytes = append(w.bytes, byte(rest)|0x80)
		rest >>= 7
	}
	w.bytes = append(w.bytes, byte(rest))
}

// text: its length ahead.
func (w *writer) text(s string) {
	w.number(len(s))
	w.bytes = append(w.bytes, s...)
}

// flag: as a byte.
func (w *writer) flag(on bool) {
	if on {
		w.bytes = append(w.bytes, 1)
		return
	}
	w.bytes = append(w.bytes, 0)
}

// putList: the count ahead of the list's items.
func putList[T any](w *writer, l []T, item func(*writer, T)) {
	w.number(len(l))
	for _, x := range l {
		item(w, x)
	}
}
