package wal_test

import (
	"math/rand"
	"slices"
	"strings"
	"testing"

	"quorate/api"
	"quorate/config"
	"quorate/wal"
)

// told: a record, as it was drawn, and its bytes.
type told struct {
	hard     *api.Hard
	entry    *api.Entry
	snapshot *api.Snapshot
	bytes    string // with none of the above: of no record
}

// model: Open told once more, in another way: from records as they were drawn, with the entries by their indexes.
func model(l []told, torn int, aside bool, c api.Config) (k api.Kept, do []api.Act, e api.Errno) {
	at := map[int]api.Entry{}
	base, last, size := 0, 0, 0
	k.Config = c
	for _, x := range l {
		size += len(x.bytes)
		switch {
		case x.hard != nil:
			if x.hard.Term < k.Hard.Term || x.hard.Vote > 9 {
				return api.Kept{}, nil, api.ErrFiles
			}
			k.Hard = *x.hard
		case x.entry != nil:
			i := x.entry.Index
			if i <= base || i > last+1 || at[i-1].Term > x.entry.Term {
				return api.Kept{}, nil, api.ErrFiles
			}
			at[i], last = *x.entry, i
		case x.snapshot != nil:
			k.Snapshot, k.Config = *x.snapshot, x.snapshot.Config
			base, last = x.snapshot.Index, x.snapshot.Index
			at[base] = api.Entry{Term: x.snapshot.Term}
		default:
			return api.Kept{}, nil, api.ErrFiles
		}
	}
	if len(config.Members(k.Config)) > 0 && !config.Valid(k.Config) {
		return api.Kept{}, nil, api.ErrFiles
	}
	k.Log = api.Log{Base: base, BaseTerm: at[base].Term}
	for i := base + 1; i <= last; i++ {
		k.Log.Entries = append(k.Log.Entries, at[i])
	}
	said := k.Hard
	if at[last].Term > k.Hard.Term {
		k.Hard = api.Hard{Term: at[last].Term, Commit: k.Hard.Commit}
	}
	if k.Hard.Commit > last {
		k.Hard.Commit = last
	}
	if k.Hard.Commit < base {
		k.Hard.Commit = base
	}
	if aside {
		do = append(do, removed...)
	}
	if torn > 0 {
		do = append(do, shortened(size)...)
	}
	if h := k.Hard; h != said {
		do = append(do, appended(hard(h.Term, h.Vote, h.Commit))...)
	}
	return k, do, api.OK
}

// drawn: records, of which most fit.
func drawn(r *rand.Rand) (l []told) {
	base, last, term, said := 0, 0, 1, 0
	wild := r.Intn(40) // seldom what comes is wrong
	odd := func(n int) int {
		if wild == 0 && r.Intn(6) == 0 {
			return n + r.Intn(5) - 2
		}
		return n
	}
	for range r.Intn(12) {
		term += r.Intn(5) / 4
		switch k := r.Intn(10); {
		case k < 3:
			said = max(said, term-r.Intn(2))
			h := api.Hard{Term: max(odd(said), 0), Vote: max(odd(r.Intn(10)), 0), Commit: base + r.Intn(last-base+3)}
			l = append(l, told{hard: &h, bytes: hard(h.Term, h.Vote, h.Commit)})
		case k < 9:
			i := last + 1
			if r.Intn(4) == 0 {
				i = base + 1 + r.Intn(last-base+1)
			}
			e := api.Entry{Index: max(odd(i), 1), Term: max(odd(term), 1), Kind: r.Intn(3)}
			if e.Kind != api.Nothing {
				e.Data = strings.Repeat("d", r.Intn(4))
			}
			l, last = append(l, told{entry: &e, bytes: puts(e)}), e.Index
		default:
			x := api.Snapshot{Index: max(1, last+r.Intn(4)-1), Term: term, Config: []api.Config{first, other}[r.Intn(2)], Data: strings.Repeat("s", r.Intn(4))}
			l, base, last = append(l, told{snapshot: &x, bytes: snap(x)}), x.Index, x.Index
		}
		if wild == 1 && r.Intn(8) == 0 {
			l = append(l, told{bytes: frame([]string{"", "\x00", "\x04x", "\x01\x01", "\x02\x01\x01\x00", "\x03"}[r.Intn(6)])})
		}
	}
	return l
}

// tear: bytes that no frame begins with.
func tear(r *rand.Rand) string {
	b := []byte(hard(r.Intn(9), r.Intn(9), r.Intn(9)))
	if r.Intn(2) == 0 {
		return string(b[:r.Intn(len(b))])
	}
	b[r.Intn(len(b))] ^= 1 << r.Intn(8)
	return string(b) + strings.Repeat(hard(9, 9, 9), r.Intn(3))
}

func TestP8OpenAgainstAModel(t *testing.T) {
	r := rand.New(rand.NewSource(8))
	seen := map[string]int{}
	configs := []api.Config{first, other, {}, {Voters: []int{2, 1}}}
	for range 20000 {
		l, junk, aside, c := drawn(r), "", r.Intn(4) == 0, configs[max(r.Intn(20)-16, 0)]
		if r.Intn(3) == 0 {
			junk = tear(r)
		}
		data := ""
		for _, x := range l {
			data += x.bytes
		}
		files := log(data, junk)
		if aside {
			files = slices.Insert(files, r.Intn(2), api.File{Name: "new", Data: data})
		}
		want, do, err := model(l, len(junk), aside, c)
		k, a, e := wal.Open(files, c)
		if e != err || tell(k) != tell(want) || !slices.Equal(a, do) {
			t.Fatalf("P8: Open(%+q, %+v):\n %+v\n %s, %v; want\n %+v\n %s, %v", files, c, k, show(a), e, want, show(do), err)
		}
		for _, x := range do {
			seen[[]string{"", "write", "append", "sync", "rename", "names", "cut", "remove"}[x.What]]++
		}
		if err != api.OK {
			seen["refused"]++
		} else if k.Log.Base > 0 && len(k.Log.Entries) > 1 {
			seen["behind a snapshot"]++
		}
	}
	for _, what := range []string{"append", "cut", "remove", "refused", "behind a snapshot"} {
		if seen[what] < 500 {
			t.Errorf("the test shows too little: %s: %v", what, seen)
		}
	}
}
