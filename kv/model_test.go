package kv_test

import (
	"fmt"
	"math/rand"
	"sort"
	"strings"
	"testing"

	"quorate/api"
	"quorate/kv"
)

// model: the map told once more, in another way: values and versions by keys.
type model map[string]api.Pair

func (m model) sorted() (l []api.Pair) {
	for _, p := range m {
		l = append(l, p)
	}
	sort.Slice(l, func(i, j int) bool { return l[i].Key < l[j].Key })
	return l
}

// set: as the document's Put.
func (m model) set(key, value string) api.Result {
	p, there := m[key]
	if !there && len(m) >= 32 || len(value) > 64 || p.Version == 1<<40-1 {
		return api.Result{Kind: api.Full}
	}
	m[key] = api.Pair{Key: key, Value: value, Version: p.Version + 1}
	return api.Result{Kind: api.Done, Version: p.Version + 1}
}

func (m model) swap(c api.Command) api.Result {
	p, there := m[c.Key]
	if !there && c.If > 0 {
		return api.Result{Kind: api.Missing}
	}
	if there && p.Version != c.If {
		return api.Result{Kind: api.Unequal, Value: p.Value, Version: p.Version}
	}
	return m.set(c.Key, c.Value)
}

func (m model) list(c api.Command) api.Result {
	r := api.Result{Kind: api.Done}
	for _, p := range m.sorted() {
		if strings.HasPrefix(p.Key, c.Key) && (c.If == 0 || len(r.Keys) < c.If) {
			r.Keys = append(r.Keys, p.Key)
		}
	}
	return r
}

func (m model) do(c api.Command) api.Result {
	p, there := m[c.Key]
	switch c.Kind {
	case api.Put:
		return m.set(c.Key, c.Value)
	case api.Append:
		return m.set(c.Key, p.Value+c.Value)
	case api.Swap:
		return m.swap(c)
	case api.List:
		return m.list(c)
	}
	if !there {
		return api.Result{Kind: api.Missing}
	}
	if c.Kind == api.Delete {
		delete(m, c.Key)
		return api.Result{Kind: api.Done, Version: p.Version}
	}
	return api.Result{Kind: api.Done, Value: p.Value, Version: p.Version}
}

// draw: some command that may be, on one of so many keys.
func draw(r *rand.Rand, keys int) api.Command {
	c := api.Command{Kind: 1 + r.Intn(6), Key: fmt.Sprintf("%x", r.Intn(keys))}
	switch c.Kind {
	case api.Put, api.Append:
		c.Value = strings.Repeat("v", r.Intn(65))
	case api.Swap:
		c.Value, c.If = strings.Repeat("w", r.Intn(65)), r.Intn(4)
	case api.List:
		c.Key, c.If = c.Key[:r.Intn(len(c.Key)+1)], r.Intn(5)
	}
	return c
}

func TestP3_2AsTheModel(t *testing.T) {
	met := map[int]bool{}
	for seed := range 60 {
		r := rand.New(rand.NewSource(int64(seed)))
		keys := []int{2, 8, 40, 200}[seed%4]
		m, l := model{}, []api.Pair(nil)
		for range 400 {
			c := draw(r, keys)
			want := m.do(c)
			after, got := kv.Apply(l, c)
			if tell(got) != tell(want) || tell(after) != tell(m.sorted()) || !kv.Valid(after) {
				t.Fatalf("P3.2: on %+v %+v: %+v, %+v; want %+v, %+v", l, c, after, got, m.sorted(), want)
			}
			met[got.Kind] = true
			l = after
		}
	}
	for kind := api.Done; kind <= api.Full; kind++ {
		if !met[kind] {
			t.Errorf("P3.2: no result of kind %d came up: the test shows too little", kind)
		}
	}
}

// someCommands: of each kind, on what abc has.
func someCommands() []api.Command {
	return []api.Command{
		{Kind: api.Put, Key: "a", Value: "w"},
		{Kind: api.Put, Key: "ab", Value: "w"},
		{Kind: api.Put, Key: "c", Value: "w"},
		{Kind: api.Get, Key: "b"},
		{Kind: api.Get, Key: "z"},
		{Kind: api.Delete, Key: "a"},
		{Kind: api.Delete, Key: "z"},
		{Kind: api.Swap, Key: "b", Value: "w", If: 7},
		{Kind: api.Swap, Key: "b", Value: "w", If: 8},
		{Kind: api.Append, Key: "b", Value: "w"},
		{Kind: api.Append, Key: "z", Value: "w"},
		{Kind: api.List},
		{Kind: api.List, Key: "b", If: 1},
		{},
	}
}

func TestP3_2ListsStay(t *testing.T) {
	for _, c := range someCommands() {
		whole := append(abc(), api.Pair{Key: "spare", Version: 5}, api.Pair{Key: "room", Version: 6})
		before := tell(whole)
		kv.Apply(whole[:3], c)
		kv.Apply(whole[:0], c)
		if tell(whole) != before {
			t.Errorf("P3.2: %+v has changed what was handed in, or its spare room: %+v", c, whole)
		}
	}
}

// spoil: all of a list, and its spare room.
func spoil[T any](l []T, with T) {
	l = l[:cap(l)]
	for i := range l {
		l[i] = with
	}
}

func TestP3_2NewMemory(t *testing.T) {
	for _, c := range someCommands() {
		whole := append(abc(), api.Pair{Key: "spare", Version: 5}, api.Pair{Key: "room", Version: 6})
		before := tell(whole)
		first, one := kv.Apply(whole[:3], c)
		second, two := kv.Apply(whole[:3], c)
		want := tell(second) + tell(two)
		spoil(first, api.Pair{Key: "over", Version: 99})
		spoil(one.Keys, "over")
		if tell(whole) != before || tell(second)+tell(two) != want {
			t.Errorf("P3.2: what %+v gives out is not new memory", c)
		}
	}
	for name, l := range badPairs() {
		before := tell(l)
		m, _ := kv.Apply(l, api.Command{Kind: api.Get, Key: "a"})
		spoil(m, api.Pair{Key: "over"})
		if tell(l) != before {
			t.Errorf("P3.2: %s: what comes out of pairs that may not be is not new memory", name)
		}
	}
}
