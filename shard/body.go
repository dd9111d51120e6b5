package shard

import (
	"strings"

	"quorate/api"
	"quorate/deleg"
	"quorate/wire"
)

// pack: a range and its items as frames, one behind the other.
func pack(from, upto string, items []api.Item) string {
	var b strings.Builder
	put := func(text string) {
		// Keys and values are far shorter than the longest body that a frame may have: there is no error.
		f, _ := wire.Frame(text)
		b.WriteString(f)
	}
	put(from)
	put(upto)
	for _, x := range items {
		put(x.Key)
		put(x.Value)
	}
	return b.String()
}

// unpack: what pack wrote; false: it did not write this.
func unpack(body string) (from, upto string, items []api.Item, is bool) {
	l, is := unframeAll(body)
	if !is || len(l) < 2 || len(l)%2 != 0 {
		return "", "", nil, false
	}
	for i := 2; i < len(l); i += 2 {
		if !deleg.In(l[i], l[0], l[1]) {
			return "", "", nil, false
		}
		items = append(items, api.Item{Key: l[i], Value: l[i+1]})
	}
	return l[0], l[1], items, true
}

// unframeAll: the bodies of frames that stand one behind the other, up to the end.
func unframeAll(s string) (l []string, is bool) {
	for s != "" {
		body, rest, e := wire.Unframe(s)
		if e != api.OK {
			return nil, false
		}
		l = append(l, body)
		s = rest
	}
	return l, true
}
