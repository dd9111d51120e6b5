package wire_test

import (
	"testing"

	"quorate/api"
	"quorate/wire"
)

// again: if bytes can be read, what was read is written as the same bytes.
func again[T any](t *testing.T, s string, get func(string) (T, api.Errno), put func(T) (string, api.Errno)) bool {
	t.Helper()
	var none T
	x, e := get(s)
	if e != api.OK {
		if tell(x) != tell(none) {
			t.Errorf("of % .60x comes %.200s with %v", s, tell(x), e)
		}
		return false
	}
	if back, e := put(x); back != s || e != api.OK {
		t.Errorf("% .60x is %.200s, which is written as % .60x, %v", s, tell(x), back, e)
	}
	return true
}

// againAll: by how many readers can bytes be read?
func againAll(t *testing.T, s string) (count int) {
	t.Helper()
	for _, ok := range []bool{
		again(t, s, wire.GetRequest, wire.PutRequest),
		again(t, s, wire.GetEntry, wire.PutEntry),
		again(t, s, wire.GetConfig, wire.PutConfig),
		again(t, s, wire.GetSnapshot, wire.PutSnapshot),
		again(t, s, wire.GetMessage, wire.PutMessage),
		again(t, s, wire.GetTable, wire.PutTable),
		again(t, s, numbers(4), func(l []int) (string, api.Errno) { return wire.PutNumbers(l...), api.OK }),
	} {
		if ok {
			count++
		}
	}
	return count
}

// drawn: numbers that look drawn, the same each time.
type drawn uint64

func (d *drawn) below(n int) int {
	*d = *d*6364136223846793005 + 1442695040888963407
	return int(uint64(*d>>33) % uint64(n))
}

func TestReadersOfAnyBytes(t *testing.T) {
	d, count := drawn(5), 0
	for range 50000 {
		b := make([]byte, d.below(14))
		for i := range b {
			b[i] = byte(d.below(4))
			if d.below(20) == 0 {
				b[i] = byte(d.below(256))
			}
		}
		count += againAll(t, string(b))
	}
	if count < 1000 {
		t.Errorf("just %d of the bytes could be read", count)
	}
}

func TestReadersOfTurnedBytes(t *testing.T) {
	var l []string
	for _, m := range goodMessages() {
		s, _ := wire.PutMessage(m)
		l = append(l, s)
	}
	s, _ := wire.PutTable(api.Table{Time: 9, Pairs: pairs(2), Sessions: sessions(2)})
	l = append(l, s)
	s, _ = wire.PutSnapshot(goodSnapshot())
	l = append(l, s)
	for _, s := range l {
		for i := range s {
			for turned := range 256 {
				b := []byte(s)
				b[i] = byte(turned)
				againAll(t, string(b))
			}
		}
	}
}
