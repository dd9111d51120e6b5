package wal_test

import (
	"math/rand"
	"slices"
	"strings"
	"testing"

	"quorate/api"
	"quorate/wal"
)

// roomy: a list with spare room behind it, and all of that, to look at.
func roomy[T any](l []T, spare T) (short, whole []T) {
	whole = append(slices.Clone(l), spare, spare, spare)
	return whole[:len(l)], whole
}

// spoil: a list, and its spare room.
func spoil[T any](l []T, with T) {
	l = l[:cap(l)]
	for i := range l {
		l[i] = with
	}
}

func spoilConfig(c api.Config) {
	spoil(c.Voters, 88)
	spoil(c.Next, 88)
	spoil(c.Learners, 88)
}

func TestP8ListsStayAsTheyAre(t *testing.T) {
	entries, all := roomy(run(6, 3, 4), api.Entry{Index: 77})
	voters, allVoters := roomy(other.Voters, 77)
	next, allNext := roomy(other.Next, 77)
	learners, allLearners := roomy(other.Learners, 77)
	c := api.Config{Voters: voters, Next: next, Learners: learners}
	x := api.Snapshot{Index: 5, Term: 3, Config: c, Data: "state"}
	files, allFiles := roomy(log(snap(x), hard(3, 1, 7), puts(entries...), "torn"), api.File{Name: "spare"})
	was := tell(all, allVoters, allNext, allLearners, allFiles)
	for range 2 {
		spoil(wal.Save(api.Ready{Kept: true, Entries: entries}), api.Act{What: 88})
		spoil(wal.Save(api.Ready{Entries: entries, Snapshot: x}), api.Act{What: 88})
		spoil(wal.Cut(based(api.Hard{}, x, entries...)), api.Act{What: 88})
		for _, l := range [][]api.File{files, nil} {
			k, a, e := wal.Open(l, c)
			if e != api.OK {
				t.Fatalf("Open: %v", e)
			}
			spoil(a, api.Act{What: 88})
			spoil(k.Log.Entries, api.Entry{Index: 88})
			spoilConfig(k.Config)
			spoilConfig(k.Snapshot.Config)
		}
		if got := tell(all, allVoters, allNext, allLearners, allFiles); got != was {
			t.Fatalf("what was handed in is %s; it was %s", got, was)
		}
	}
}

func TestP8ListsOfOneAnswerAreApart(t *testing.T) {
	files := log(snap(state(5, 3)), hard(3, 1, 5))
	k, _, _ := wal.Open(files, first)
	spoilConfig(k.Config)
	if tell(k.Snapshot) != tell(state(5, 3)) {
		t.Errorf("the configuration is the snapshot's: %+v", k)
	}
	k, _, _ = wal.Open(files, first)
	spoilConfig(k.Snapshot.Config)
	if tell(k.Config) != tell(other) {
		t.Errorf("the configuration is the snapshot's: %+v", k)
	}
}

// Numbers and bytes of all sorts: each call ends, and none panics.
func TestP8AllSorts(t *testing.T) {
	r := rand.New(rand.NewSource(88))
	pick := func() int {
		if r.Intn(3) == 0 {
			return extreme[r.Intn(len(extreme))]
		}
		return r.Intn(4)
	}
	for range 2000 {
		c := api.Config{Voters: []int{pick(), pick()}, Learners: []int{pick()}}
		e := []api.Entry{{Index: pick(), Term: pick(), Kind: pick()}, {Index: pick(), Term: pick(), Kind: pick(), Data: "d"}}
		h := api.Hard{Term: pick(), Vote: pick(), Commit: pick()}
		x := api.Snapshot{Index: pick(), Term: pick(), Config: c}
		wal.Save(api.Ready{Hard: h, Kept: r.Intn(2) == 0, Entries: e, Snapshot: x})
		wal.Cut(api.Kept{Hard: h, Log: api.Log{Base: pick(), BaseTerm: pick(), Entries: e}, Snapshot: x, Config: c})
		var b strings.Builder
		for range r.Intn(5) {
			body := []byte{byte(r.Intn(5))}
			for range r.Intn(12) {
				body = append(body, byte(r.Intn(4)), byte(r.Intn(256)))
			}
			b.WriteString(frame(string(body)))
		}
		k, a, err := wal.Open(log(b.String()), c)
		if err != api.OK && (err != api.ErrFiles || tell(k) != tell(api.Kept{}) || len(a) > 0) {
			t.Fatalf("P8.4: %+v, %s, %v", k, show(a), err)
		}
	}
}
