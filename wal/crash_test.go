package wal_test

import (
	"maps"
	"math/rand"
	"slices"
	"testing"

	"quorate/api"
	"quorate/raft"
	"quorate/wal"
)

// disk: files by their names.
type disk map[string]string

func (d disk) files() (l []api.File) {
	for _, name := range slices.Sorted(maps.Keys(d)) {
		l = append(l, api.File{Name: name, Data: d[name]})
	}
	return l
}

// behind: what is there behind an act.
func (d disk) behind(a api.Act) disk {
	out := maps.Clone(d)
	switch a.What {
	case api.WriteFile:
		out[a.Name] = a.Data
	case api.AppendFile:
		out[a.Name] += a.Data
	case api.Rename:
		out[a.To] = out[a.Name]
		delete(out, a.Name)
	case api.Cut:
		out[a.Name] = out[a.Name][:a.Size]
	case api.RemoveFile:
		delete(out, a.Name)
	}
	return out
}

// isSafe: is all there for good, behind an act? Of a file that is written aside the name is not safe yet.
func isSafe(a api.Act) bool {
	return a.What == api.SyncDir || a.What == api.SyncFile && a.Name == "log"
}

// found: all that may be found when a machine stops behind so many acts.
func found(d disk, acts []api.Act) (l []disk) {
	safe, live := d, d
	for i, a := range acts {
		ahead := live
		live = live.behind(a)
		if isSafe(a) {
			safe = live
		}
		if i+1 < len(acts) || a.What != api.AppendFile && a.What != api.WriteFile {
			continue
		}
		for n := range len(a.Data) {
			torn := a
			torn.Data = a.Data[:n]
			l = append(l, ahead.behind(torn))
		}
	}
	return append(l, safe, live)
}

// crashes: a play in which a machine stops again and again.
type crashes struct {
	t    *testing.T
	r    *rand.Rand
	disk disk
	kept api.Kept
	seen map[string]int
}

// wants: what a node may want kept, that has kept what it has.
func (p *crashes) wants() (r api.Ready) {
	k := p.kept
	last := k.Log.Base + len(k.Log.Entries)
	r.Hard, r.Kept = k.Hard, p.r.Intn(3) > 0
	if r.Kept {
		if more := p.r.Intn(2); more > 0 {
			r.Hard.Term, r.Hard.Vote = k.Hard.Term+more, p.r.Intn(4)
		}
	}
	from := last + 1
	if p.r.Intn(3) == 0 {
		from -= p.r.Intn(from - k.Hard.Commit)
	}
	if r.Hard.Term > 0 {
		for range p.r.Intn(4) {
			r.Entries = append(r.Entries, api.Entry{Index: from + len(r.Entries), Term: r.Hard.Term, Kind: api.Ask, Data: "data"})
		}
	}
	if len(r.Entries) > 0 {
		last = from + len(r.Entries) - 1
	}
	if r.Kept {
		r.Hard.Commit += p.r.Intn(last - k.Hard.Commit + 1)
	}
	if r.Hard.Term > 0 && p.r.Intn(6) == 0 {
		r.Snapshot = state(last+1+p.r.Intn(3), r.Hard.Term)
		r.Hard.Commit, r.Entries = r.Snapshot.Index, nil
	}
	return r
}

// stages: what is kept, record by record, from what was kept on.
func stages(k api.Kept, r api.Ready) []api.Kept {
	l := []api.Kept{k}
	if r.Snapshot.Index > 0 {
		return append(l, based(r.Hard, r.Snapshot, r.Entries...))
	}
	if r.Kept {
		k.Hard = r.Hard
		l = append(l, inside(k))
	}
	for _, e := range r.Entries {
		k.Log.Entries = append(slices.Clone(k.Log.Entries[:e.Index-k.Log.Base-1]), e)
		l = append(l, inside(k))
	}
	return l
}

// inside: no more is committed than is there.
func inside(k api.Kept) api.Kept {
	k.Hard.Commit = min(k.Hard.Commit, k.Log.Base+len(k.Log.Entries))
	return k
}

// open: what is found; and a machine that stops while it puts that in order finds the same.
func (p *crashes) open(d disk) (api.Kept, disk) {
	k, acts, e := wal.Open(d.files(), first)
	if e != api.OK {
		p.t.Fatalf("P8: Open(%q): %v", d.files(), e)
	}
	if _, e := raft.New(api.Start{ID: 1, Hard: k.Hard, Log: k.Log, Snapshot: k.Snapshot, Config: k.Config, Election: 10, Beat: 3}); e != api.OK {
		p.t.Fatalf("P8: nothing to begin with: %+v", k)
	}
	for n := range len(acts) + 1 {
		for _, next := range found(d, acts[:n]) {
			again, _, e := wal.Open(next.files(), first)
			if e != api.OK || tell(again) != tell(k) {
				p.t.Fatalf("P8.5: Open(%q), behind %d of its acts: %+v, %v; at first %+v", d.files(), n, again, e, k)
			}
		}
	}
	for _, a := range acts {
		d = d.behind(a)
		p.seen["put in order"]++
	}
	if again, more, e := wal.Open(d.files(), first); e != api.OK || len(more) > 0 || tell(again) != tell(k) {
		p.t.Fatalf("P8.5: what is in order is put in order: %+v, %s, %v", again, show(more), e)
	}
	return k, d
}

// step: a machine keeps something, and stops at each act, with all that may be found then; then it goes on with one of these, or with all that was done.
func (p *crashes) step() {
	r := p.wants()
	acts, may := wal.Save(r), stages(p.kept, r)
	var all []disk
	for n := range len(acts) + 1 {
		for _, d := range found(p.disk, acts[:n]) {
			k, _ := p.open(d)
			at := slices.IndexFunc(may, func(x api.Kept) bool { return tell(x) == tell(k) })
			if at < 0 || n == 0 && tell(k) != tell(p.kept) || n == len(acts) && tell(k) != tell(may[len(may)-1]) {
				p.t.Fatalf("P8: kept was %+v; %+v; behind %d of %s: %+v", p.kept, r, n, show(acts), k)
			}
			if 0 < at && at < len(may)-1 {
				p.seen["partly"]++
			}
			all = append(all, d)
		}
	}
	if r.Snapshot.Index > 0 {
		p.seen["anew"]++
	}
	next := all[len(all)-1]
	if p.r.Intn(3) == 0 {
		next = all[p.r.Intn(len(all))]
		p.seen["stopped"]++
	}
	p.kept, p.disk = p.open(next)
	if base := p.kept.Log.Base; p.r.Intn(3) == 0 && p.kept.Hard.Commit > base {
		p.shorten()
	}
}

// shorten: the log, by a snapshot of what is committed. Wherever the machine stops, what was kept is there, or what is kept now.
func (p *crashes) shorten() {
	k := p.kept
	behind := k.Log.Entries[k.Hard.Commit-k.Log.Base:]
	was, now := tell(k), based(k.Hard, state(k.Hard.Commit, k.Log.Entries[k.Hard.Commit-k.Log.Base-1].Term), behind...)
	acts := wal.Cut(now)
	for n := range len(acts) + 1 {
		for _, d := range found(p.disk, acts[:n]) {
			got, _ := p.open(d)
			if s := tell(got); s != was && s != tell(now) || n < 3 && s != was || n == 4 && s != tell(now) {
				p.t.Fatalf("P8.3: Cut(%+v), behind %d acts: %+v", now, n, got)
			}
		}
	}
	for _, a := range acts {
		p.disk = p.disk.behind(a)
	}
	p.kept = now
	p.seen["shortened"]++
}

func TestP8AMachineStopsAtAnyAct(t *testing.T) {
	seen := map[string]int{}
	for seed := range int64(40) {
		p := crashes{t: t, r: rand.New(rand.NewSource(seed)), disk: disk{}, kept: plain(api.Hard{}), seen: seen}
		for range 12 {
			p.step()
		}
	}
	for _, what := range []string{"partly", "anew", "stopped", "shortened", "put in order"} {
		if seen[what] < 30 {
			t.Errorf("the test shows too little: %s: %v", what, seen)
		}
	}
}

// keeper: a node, and the files that it has told to keep.
type keeper struct {
	t    *testing.T
	node *raft.Node
	disk disk
}

func (k *keeper) do(acts []api.Act) {
	for _, a := range acts {
		k.disk = k.disk.behind(a)
	}
}

// look: once what a node wants kept is kept, the files say what the node has.
func (k *keeper) look() {
	k.t.Helper()
	k.do(wal.Save(k.node.Ready()))
	got, acts, e := wal.Open(k.disk.files(), first)
	if want := k.node.Kept(); e != api.OK || len(acts) > 0 || tell(got) != tell(want) {
		k.t.Fatalf("P8: the files say %+v, %s, %v; the node has %+v", got, show(acts), e, want)
	}
}

// comes: a message of a leader, node 2.
func (k *keeper) comes(m api.Message) {
	m.From, m.To = 2, 1
	k.node.Receive(m)
	k.look()
}

func TestP8TheFilesSayWhatANodeHas(t *testing.T) {
	r := rand.New(rand.NewSource(7))
	installed, put, shortened := 0, 0, 0
	for range 30 {
		n, _ := raft.New(api.Start{ID: 1, Config: first, Election: 10, Beat: 3})
		k := &keeper{t: t, node: n, disk: disk{}}
		k.look()
		for term := 1; term < 30; term++ {
			s := n.Look()
			if r.Intn(5) == 0 {
				x := state(s.Hard.Commit+1+r.Intn(9), term)
				x.Config = first
				k.comes(api.Message{Kind: api.Install, Term: term, Snapshot: x, Context: 1})
				installed++
				continue
			}
			at := s.Hard.Commit + r.Intn(len(s.Log.Entries)-(s.Hard.Commit-s.Log.Base)+1)
			m := api.Message{Kind: api.AppendEntries, Term: term, Index: at, Context: 1, LogTerm: s.Log.BaseTerm}
			if at > s.Log.Base {
				m.LogTerm = s.Log.Entries[at-s.Log.Base-1].Term
			}
			for i := range r.Intn(5) {
				m.Entries = append(m.Entries, api.Entry{Index: at + 1 + i, Term: term, Kind: api.Ask, Data: "d"})
			}
			m.Commit = at + r.Intn(len(m.Entries)+1)
			k.comes(m)
			if last := s.Log.Base + len(s.Log.Entries); at < last && len(m.Entries) > 0 {
				put++ // in the place of others
			}
			k.comes(api.Message{Kind: api.Vote, Term: term + r.Intn(2), Index: at + 9, LogTerm: term})
			if s := n.Look(); s.Applied > s.Log.Base && r.Intn(3) == 0 {
				n.Compact(s.Applied, "short")
				k.do(wal.Cut(n.Kept()))
				k.look()
				shortened++
			}
		}
	}
	if min(installed, put, shortened) < 30 {
		t.Errorf("the test shows too little: %d, %d, %d", installed, put, shortened)
	}
}
