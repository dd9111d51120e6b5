package wire_test

import (
	"hash/crc32"
	"math"
	"slices"
	"strings"
	"testing"

	"quorate/api"
	"quorate/wire"
)

func TestP2_1Sum(t *testing.T) {
	if got := wire.Sum("123456789"); got != 0xE3069283 {
		t.Errorf("P2.1: Sum of 123456789: %X", got)
	}
	other := crc32.MakeTable(crc32.Castagnoli)
	texts := []string{"", "a", "\x00", "\xff", many(1000), strings.Repeat("\x00", 32), strings.Repeat("\xff", 32)}
	for i := range 256 {
		texts = append(texts, string([]byte{byte(i)}), string([]byte{byte(i * 7), byte(i), byte(i >> 3)}))
	}
	for _, s := range texts {
		if got, want := wire.Sum(s), crc32.Checksum([]byte(s), other); got != want {
			t.Errorf("P2.1: Sum of %.60q: %X, want %X", s, got, want)
		}
	}
}

func TestP2_1Frame(t *testing.T) {
	for body, digits := range map[string]string{
		"":          "00 00000000",
		"123456789": "09 313233343536373839 83 92 06 E3",
		"a":         "01 61 30 43 D0 C1",
	} {
		if s, e := wire.Frame(body); s != bytesOf(digits) || e != api.OK {
			t.Errorf("P2.1: Frame of %q: % x, %v", body, s, e)
		}
	}
	for length, ahead := range map[int]string{127: "7F", 128: "80 01", 65535: "FF FF 03", wire.MaxFrame: "80 80 04"} {
		s, e := wire.Frame(many(length))
		if !strings.HasPrefix(s, bytesOf(ahead)+"xx") || e != api.OK {
			t.Errorf("P2.1: Frame of %d bytes: % .20x, %v", length, s, e)
		}
		if body, rest, e := wire.Unframe(s + "y"); body != many(length) || rest != "y" || e != api.OK {
			t.Errorf("P2.1: Unframe of that: %d bytes, %q, %v", len(body), rest, e)
		}
	}
	for _, length := range []int{65537, 100000} {
		if s, e := wire.Frame(many(length)); s != "" || e != api.ErrBound {
			t.Errorf("P2.1: Frame of %d bytes: %d bytes, %v", length, len(s), e)
		}
	}
}

func TestP2_1Unframe(t *testing.T) {
	for _, body := range []string{"", "a", "123456789", many(200)} {
		f, _ := wire.Frame(body)
		for _, rest := range []string{"", "\x00", "rest", "\x80\x00", f} {
			if b, r, e := wire.Unframe(f + rest); b != body || r != rest || e != api.OK {
				t.Errorf("P2.1: Unframe of % x: %q, %q, %v", f+rest, b, r, e)
			}
		}
		for i := range f {
			unframeFails(t, f[:i], api.ErrShort)
		}
	}
	for digits, want := range map[string]api.Errno{
		"80":                 api.ErrShort,
		"8000":               api.ErrBytes,
		"FFFFFFFFFF20":       api.ErrBytes,
		"FFFFFFFFFF9F":       api.ErrShort,
		"80808080808001":     api.ErrBytes,
		"818004":             api.ErrBound,
		"FFFFFFFFFF1F":       api.ErrBound,
		"808004":             api.ErrShort,
		"0261":               api.ErrShort,
		"0161":               api.ErrShort,
		"01613043D0":         api.ErrShort,
		"0161FFFFFF":         api.ErrShort,
		"01613043D0C0":       api.ErrSum,
		"01623043D0C1":       api.ErrSum,
		"0161C1D04330":       api.ErrSum,
		"0000000001":         api.ErrSum,
		"01613043D0C0012345": api.ErrSum,
	} {
		unframeFails(t, bytesOf(digits), want)
	}
}

func unframeFails(t *testing.T, s string, want api.Errno) {
	t.Helper()
	if body, rest, e := wire.Unframe(s); body != "" || rest != "" || e != want {
		t.Errorf("P2.1: Unframe of % .60x: %q, %q, %v; want %v", s, body, rest, e, want)
	}
}

func TestP2_1TurnedBytes(t *testing.T) {
	f, _ := wire.Frame("a body of some bytes")
	for at := 1; at < len(f)-4; at++ {
		for count := 1; count <= 4 && at+count <= len(f)-4; count++ {
			for _, turn := range []byte{1, 0x80, 0x5a, 0xff} {
				b := []byte(f)
				for i := range count {
					b[at+i] ^= turn
				}
				unframeFails(t, string(b), api.ErrSum)
			}
		}
	}
}

func TestP2_1PutNumbers(t *testing.T) {
	for digits, l := range map[string][]int{
		"":                           nil,
		"00":                         {0},
		"7F":                         {127},
		"80 01":                      {128},
		"FF 7F":                      {16383},
		"80 80 01":                   {16384},
		"FF FF 7F":                   {1<<21 - 1},
		"80 80 80 01":                {1 << 21},
		"80 80 80 80 01":             {1 << 28},
		"80 80 80 80 80 01":          {1 << 35},
		"FF FF FF FF FF 1F":          {api.MaxNumber},
		"AC 02 00":                   {300, 0},
		"01 02 03 FFFFFFFFFF1F 8001": {1, 2, 3, api.MaxNumber, 128},
	} {
		s := wire.PutNumbers(l...)
		if s != bytesOf(digits) {
			t.Errorf("P2.1: PutNumbers(%v): % x", l, s)
		}
		if back, e := wire.GetNumbers(s, len(l)); !slices.Equal(back, l) || e != api.OK {
			t.Errorf("P2.1: GetNumbers of % x: %v, %v", s, back, e)
		}
	}
	for shift := range 40 {
		for _, n := range []int{1 << shift, 1<<shift - 1} {
			if l, e := wire.GetNumbers(wire.PutNumbers(n), 1); e != api.OK || len(l) != 1 || l[0] != n {
				t.Errorf("P2.1: %d comes back as %v, %v", n, l, e)
			}
		}
	}
	for _, n := range wrongNumbers {
		wire.PutNumbers(n) // it ends
	}
}

func numbers(count int) func(string) ([]int, api.Errno) {
	return func(s string) ([]int, api.Errno) { return wire.GetNumbers(s, count) }
}

func TestP2_1GetNumbers(t *testing.T) {
	wrongFirst(t, "P2.1", numbers(1))
	refusesAll(t, "P2.1", numbers(1), map[string]api.Errno{
		"8080808080":       api.ErrShort,
		"808080808000":     api.ErrBytes,
		"808080808020":     api.ErrBytes,
		"80808080807F":     api.ErrBytes,
		"8080808080FF":     api.ErrBytes,
		"FFFFFFFFFF9F":     api.ErrShort,
		"FFFFFFFFFF9F00":   api.ErrBytes,
		"FFFFFFFFFF9F01":   api.ErrBytes,
		"808080808080 00":  api.ErrBytes,
		"808080808080 80":  api.ErrBytes,
		"0000":             api.ErrBytes,
		"01 80":            api.ErrBytes,
		"FFFFFFFFFF1F 00":  api.ErrBytes,
		"8000 8080":        api.ErrBytes,
		"FFFFFFFFFF200000": api.ErrBytes,
	})
	refusesAll(t, "P2.1", numbers(0), map[string]api.Errno{"00": api.ErrBytes, "80": api.ErrBytes})
	refusesAll(t, "P2.1", numbers(2), map[string]api.Errno{"05": api.ErrShort, "0580": api.ErrShort, "058000": api.ErrBytes, "050600": api.ErrBytes})
	refusesAll(t, "P2.1", numbers(math.MaxInt), map[string]api.Errno{"": api.ErrShort, "0102": api.ErrShort})
	if l, e := wire.GetNumbers("", 0); len(l) != 0 || e != api.OK {
		t.Errorf("P2.1: GetNumbers of nothing: %v, %v", l, e)
	}
	wire.GetNumbers("", -1) // it ends
	wire.GetNumbers("\x01", math.MinInt)
}

func TestP2_1NumbersAreNewMemory(t *testing.T) {
	a, _ := wire.GetNumbers("\x01\x02", 2)
	b, _ := wire.GetNumbers("\x01\x02", 2)
	a[0] = 9
	if b[0] != 1 {
		t.Error("P2.1: two answers of GetNumbers share memory")
	}
	l := []int{1, 2, 3, 4}[:2]
	wire.PutNumbers(l...)
	if !slices.Equal(l[:4], []int{1, 2, 3, 4}) {
		t.Errorf("P2.1: PutNumbers has changed its list: %v", l[:4])
	}
}
