package wire

import "quorate/api"

// MaxFrame: bytes of a frame's body.
const MaxFrame = 1 << 16

// polynomial: of the sum, its bits turned round.
const polynomial = 0x82F63B78

// sumBytes: of a sum in a frame.
const sumBytes = 4

// Sum: CRC-32C of bytes.
func Sum(s string) uint32 {
	sum := ^uint32(0)
	for i := range len(s) {
		sum ^= uint32(s[i])
		for range 8 {
			low := sum & 1
			sum >>= 1
			if low == 1 {
				sum ^= polynomial
			}
		}
	}
	return ^sum
}

// Frame: a body with its length ahead and its sum behind; ErrBound, if it is too long.
func Frame(body string) (string, api.Errno) {
	return write(body, len(body) <= MaxFrame, api.ErrBound, (*writer).frame)
}

// Unframe: the body of the first frame, and what stands behind it.
func Unframe(s string) (body string, rest string, e api.Errno) {
	f, e := read(s, (*reader).frame)
	return f.body, f.rest, e
}

// framed: what a frame holds, and what stands behind it.
type framed struct {
	body, rest string
}

func (w *writer) frame(body string) {
	w.text(body)
	sum := Sum(body)
	for range sumBytes {
		w.bytes = append(w.bytes, byte(sum))
		sum >>= 8
	}
}

// frame: takes what stands behind it too, since that may be anything.
func (r *reader) frame() framed {
	body := r.text(MaxFrame)
	must(r.sum() == Sum(body), api.ErrSum)
	return framed{body: body, rest: r.take(len(r.left))}
}

func (r *reader) sum() uint32 {
	var sum uint32
	for i, b := range []byte(r.take(sumBytes)) {
		sum |= uint32(b) << (8 * i)
	}
	return sum
}
