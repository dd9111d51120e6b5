package wire_test

import (
	"encoding/hex"
	"fmt"
	"math"
	"strings"
	"testing"

	"quorate/api"
)

// bytesOf: hexadecimal digits (blanks among them say nothing) as bytes.
func bytesOf(digits string) string {
	b, err := hex.DecodeString(strings.ReplaceAll(digits, " ", ""))
	if err != nil {
		panic(err)
	}
	return string(b)
}

// many: a text of so many bytes.
func many(n int) string {
	return strings.Repeat("x", n)
}

// manyHex: such a text, as hexadecimal digits.
func manyHex(n int) string {
	return strings.Repeat("78", n)
}

// wrongNumbers: what no field may be.
var wrongNumbers = []int{math.MinInt, -1, api.MaxNumber + 1, math.MaxInt}

// tell: a value, for a look; nil and empty lists are the same.
func tell(x any) string {
	return fmt.Sprintf("%+v", x)
}

// written: a value that may be, as bytes; it comes back of them, and of nothing that is cut or has more.
func written[T any](t *testing.T, promise string, x T, put func(T) (string, api.Errno), get func(string) (T, api.Errno)) string {
	t.Helper()
	s, e := put(x)
	if e != api.OK {
		t.Errorf("%s: %.200s is refused: %v", promise, tell(x), e)
		return ""
	}
	if back, e := get(s); e != api.OK || tell(back) != tell(x) {
		t.Errorf("%s: %.200s comes back as %.200s, %v", promise, tell(x), tell(back), e)
	}
	for i := range s {
		if i < 400 || i > len(s)-400 {
			refuses(t, promise, get, s[:i], api.ErrShort)
		}
	}
	refuses(t, promise, get, s+"\x00", api.ErrBytes)
	refuses(t, promise, get, s+s, api.ErrBytes)
	return s
}

// writes: a value that may be is written as just these bytes.
func writes[T any](t *testing.T, promise string, x T, digits string, put func(T) (string, api.Errno), get func(string) (T, api.Errno)) {
	t.Helper()
	if s := written(t, promise, x, put, get); s != bytesOf(digits) {
		t.Errorf("%s: %.200s is written as % x", promise, tell(x), s)
	}
}

// refuses: of bytes that error comes, and nothing else.
func refuses[T any](t *testing.T, promise string, get func(string) (T, api.Errno), s string, want api.Errno) {
	t.Helper()
	var none T
	if x, e := get(s); e != want || tell(x) != tell(none) {
		t.Errorf("%s: of % .60x comes %.200s, %v; want %v", promise, s, tell(x), e, want)
	}
}

// refusesAll: of each of these (hexadecimal digits) its error.
func refusesAll[T any](t *testing.T, promise string, get func(string) (T, api.Errno), l map[string]api.Errno) {
	t.Helper()
	for digits, want := range l {
		refuses(t, promise, get, bytesOf(digits), want)
	}
}

// mayNotBe: a value that is not written.
func mayNotBe[T any](t *testing.T, promise string, x T, put func(T) (string, api.Errno), want api.Errno) {
	t.Helper()
	if s, e := put(x); e != want || s != "" {
		t.Errorf("%s: %.200s is written: % .60x, %v; want %v", promise, tell(x), s, e, want)
	}
}

// wrongFirst: bytes of which a number is wrong as soon as it is read: each reader begins with one.
func wrongFirst[T any](t *testing.T, promise string, get func(string) (T, api.Errno)) {
	t.Helper()
	refusesAll(t, promise, get, map[string]api.Errno{
		"":                   api.ErrShort,
		"80":                 api.ErrShort,
		"8000":               api.ErrBytes,
		"808000":             api.ErrBytes,
		"FFFFFFFFFF20":       api.ErrBytes,
		"FFFFFFFFFFA0":       api.ErrBytes,
		"808080808080":       api.ErrShort,
		"80808080808001":     api.ErrBytes,
		"FFFFFFFFFFFFFFFF7F": api.ErrBytes,
	})
}
