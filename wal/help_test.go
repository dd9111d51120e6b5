package wal_test

import (
	"encoding/binary"
	"fmt"
	"hash/crc32"
	"math"
	"slices"
	"strings"
	"testing"

	"quorate/api"
	"quorate/wal"
)

// extreme: numbers that no field may be.
var extreme = []int{math.MinInt, -1, api.MaxNumber + 1, math.MaxInt}

// first: the configuration that stands beside files, where no other is named.
var first = api.Config{Voters: []int{1, 2}}

// other: one that snapshots have.
var other = api.Config{Voters: []int{1, 2, 3}, Next: []int{2, 3, 4}, Learners: []int{5}}

func tell(l ...any) string {
	return fmt.Sprintf("%+v", l)
}

// frame: told once more, by the library's sum.
func frame(body string) string {
	b := append(binary.AppendUvarint(nil, uint64(len(body))), body...)
	sum := crc32.Checksum([]byte(body), crc32.MakeTable(crc32.Castagnoli))
	return string(binary.LittleEndian.AppendUint32(b, sum))
}

func numbers(l ...int) string {
	var b []byte
	for _, n := range l {
		b = binary.AppendUvarint(b, uint64(n))
	}
	return string(b)
}

// counted: a list of numbers, its length ahead.
func counted(l []int) string {
	return numbers(len(l)) + numbers(l...)
}

// hard: its record.
func hard(term, vote, commit int) string {
	return frame("\x01" + numbers(term, vote, commit))
}

// puts: the records of entries.
func puts(l ...api.Entry) (s string) {
	for _, e := range l {
		s += frame("\x02" + numbers(e.Index, e.Term, e.Kind, len(e.Data)) + e.Data)
	}
	return s
}

// snap: the record of a snapshot.
func snap(x api.Snapshot) string {
	c := x.Config
	return frame("\x03" + numbers(x.Index, x.Term) + counted(c.Voters) + counted(c.Next) + counted(c.Learners) + numbers(len(x.Data)) + x.Data)
}

// run: entries Nothing from an index on, of these terms.
func run(from int, terms ...int) (l []api.Entry) {
	for i, term := range terms {
		l = append(l, api.Entry{Index: from + i, Term: term})
	}
	return l
}

// state: a snapshot of an index and a term.
func state(index, term int) api.Snapshot {
	return api.Snapshot{Index: index, Term: term, Config: other, Data: "state"}
}

// based: what is kept, with a snapshot, and a log that stands on it.
func based(h api.Hard, x api.Snapshot, l ...api.Entry) api.Kept {
	return api.Kept{Hard: h, Log: api.Log{Base: x.Index, BaseTerm: x.Term, Entries: l}, Snapshot: x, Config: x.Config}
}

// plain: what is kept, without a snapshot.
func plain(h api.Hard, l ...api.Entry) api.Kept {
	return api.Kept{Hard: h, Log: api.Log{Entries: l}, Config: first}
}

// appended: the acts that put bytes behind the log's.
func appended(data string) []api.Act {
	return []api.Act{{What: 2, Name: "log", Data: data}, {What: 3, Name: "log"}}
}

// anew: the acts that put a log of these bytes in the place of the one that is there.
func anew(data string) []api.Act {
	return []api.Act{{What: 1, Name: "new", Data: data}, {What: 3, Name: "new"}, {What: 4, Name: "new", To: "log"}, {What: 5}}
}

// shortened: the acts that leave just so many bytes of the log.
func shortened(size int) []api.Act {
	return []api.Act{{What: 6, Name: "log", Size: size}, {What: 3, Name: "log"}}
}

var removed = []api.Act{{What: 7, Name: "new"}}

// show: acts, their bytes by digits.
func show(l []api.Act) (s string) {
	for _, a := range l {
		s += fmt.Sprintf("{%d %s %s %x %d}", a.What, a.Name, a.To, a.Data, a.Size)
	}
	return s
}

// acts: are these as they should be?
func acts(t *testing.T, what string, got, want []api.Act) {
	t.Helper()
	if !slices.Equal(got, want) {
		t.Errorf("%s:\n %s\n want\n %s", what, show(got), show(want))
	}
}

// log: the one file that most nodes have.
func log(data ...string) []api.File {
	return []api.File{{Name: "log", Data: strings.Join(data, "")}}
}

// says: what Open makes of files.
func says(t *testing.T, promise string, files []api.File, c api.Config, want api.Kept, do []api.Act) {
	t.Helper()
	k, a, e := wal.Open(files, c)
	if e != api.OK || tell(k) != tell(want) || !slices.Equal(a, do) {
		t.Errorf("%s: Open(%+q, %+v):\n %+v\n %s, %v; want\n %+v\n %s", promise, files, c, k, show(a), e, want, show(do))
	}
}

// refuses: files of no node.
func refuses(t *testing.T, promise string, files []api.File, c api.Config) {
	t.Helper()
	if k, a, e := wal.Open(files, c); e != api.ErrFiles || tell(k) != tell(api.Kept{}) || len(a) != 0 {
		t.Errorf("%s: Open(%+q, %+v): %+v, %s, %v; want ErrFiles alone", promise, files, c, k, show(a), e)
	}
}
