// Package wire: bytes: see the document's chapter.
package wire

import "quorate/api"

// PutNumbers: as bytes, one behind the other.
func PutNumbers(l ...int) string {
	var w writer
	w.numbers(l...)
	return string(w.bytes)
}

// GetNumbers: so many, of bytes.
func GetNumbers(s string, count int) ([]int, api.Errno) {
	return read(s, func(r *reader) []int { return times(r, count, (*reader).number) })
}
