package host_test

import (
	"fmt"
	"math"
	"strings"
	"testing"

	"quorate/api"
	"quorate/host"
	"quorate/raft"
	"quorate/wal"
	"quorate/wire"
)

// extreme: numbers that no field may be.
var extreme = []int{math.MinInt, -1, api.MaxNumber + 1, math.MaxInt}

// setup: of a node among voters: an election has 10 ticks, 3 are between two rounds; 100 entries are kept.
func setup(id int, voters ...int) api.Setup {
	return api.Setup{ID: id, Config: api.Config{Voters: voters}, Election: 10, Beat: 3, Keep: 100}
}

// keeping: so many entries.
func keeping(s api.Setup, keep int) api.Setup {
	s.Keep = keep
	return s
}

// begin: a host, which has nothing to do at first but what the files want.
func begin(t *testing.T, s api.Setup, files ...api.File) (*host.Host, api.Out) {
	t.Helper()
	h, out, e := host.New(s, files)
	if h == nil || e != api.OK {
		t.Fatalf("P9.1: New(%+v, %q): %v", s, files, e)
	}
	return h, out
}

func log(data string) api.File {
	return api.File{Name: "log", Data: data}
}

// kept: a log that says what a node has kept.
func kept(k api.Kept) api.File {
	return log(wal.Cut(k)[0].Data)
}

// plain: a log without a snapshot, committed up to an index.
func plain(commit int, l ...api.Entry) api.File {
	return log(wal.Save(api.Ready{Kept: true, Hard: api.Hard{Term: l[len(l)-1].Term, Commit: commit}, Entries: l})[0].Data)
}

// entry: with a client's request, or what is none.
func entry(index, term int, data string) api.Entry {
	return api.Entry{Index: index, Term: term, Kind: api.Ask, Data: data}
}

// asks: an entry with a request.
func asks(index, term int, q api.Request) api.Entry {
	data, e := wire.PutRequest(q)
	if e != api.OK {
		panic("no request")
	}
	return entry(index, term, data)
}

// nothing: an entry that says nothing.
func nothing(index, term int) api.Entry {
	return api.Entry{Index: index, Term: term}
}

// table: as bytes.
func table(x api.Table) string {
	data, e := wire.PutTable(x)
	if e != api.OK {
		panic("no table")
	}
	return data
}

// frame: a message in one.
func frame(m api.Message) string {
	body, e := wire.PutMessage(m)
	if e != api.OK {
		panic(fmt.Sprintf("no message: %+v", m))
	}
	return framed(body)
}

func framed(body string) string {
	f, _ := wire.Frame(body)
	return f
}

// lead: a host that leads voters 1, 2, 3 in its next term, with nothing of that term committed yet.
func lead(t *testing.T, s api.Setup, files ...api.File) *host.Host {
	t.Helper()
	h, _ := begin(t, s, files...)
	was, _ := h.Status()
	for range raft.Timeout(s.ID, s.Election) {
		h.Tick()
	}
	for _, kind := range []int{api.PreVoteReply, api.VoteReply} {
		h.Receive(frame(api.Message{Kind: kind, From: 2, To: s.ID, Term: was.Hard.Term + 1}))
	}
	if now, _ := h.Status(); now.Role != api.Leader || now.Hard.Term != was.Hard.Term+1 {
		t.Fatalf("P9.2: it was chosen: %+v", now)
	}
	return h
}

// settled: a host that leads voters 1, 2, 3 in term 1, its first entry committed.
func settled(t *testing.T, s api.Setup) *host.Host {
	t.Helper()
	h := lead(t, s)
	if out := ack(h, 2, 1); told(out) != "" {
		t.Fatalf("P9.6: nobody waits: %s", told(out))
	}
	if s, _ := h.Status(); s.Hard.Commit != 1 || s.Applied != 1 {
		t.Fatalf("P9.6: its first entry is committed: %+v", s)
	}
	return h
}

// alone: a host that leads itself alone, in term 1: all that it is asked is committed at once.
func alone(t *testing.T, s api.Setup) *host.Host {
	t.Helper()
	h, _ := begin(t, s)
	for range raft.Timeout(s.ID, s.Election) {
		h.Tick()
	}
	if s, _ := h.Status(); s.Role != api.Leader || s.Applied != 1 {
		t.Fatalf("P9.2: it leads: %+v", s)
	}
	return h
}

// ack: a node tells a leader that it has all up to an index, behind its last round (a greater one would say nothing).
func ack(h *host.Host, from, index int) (out api.Out) {
	s, _ := h.Status()
	for round := range 50 {
		o := h.Receive(frame(api.Message{Kind: api.AppendReply, From: from, To: s.ID, Term: s.Hard.Term, Index: index, Context: round}))
		out.Acts = append(out.Acts, o.Acts...)
		out.Sends = append(out.Sends, o.Sends...)
		out.Answers = append(out.Answers, o.Answers...)
	}
	return out
}

// entries: from a leader, behind an index of a term.
func entries(from, to, term, index, logTerm, commit int, l ...api.Entry) string {
	return frame(api.Message{Kind: api.AppendEntries, From: from, To: to, Term: term, Index: index, LogTerm: logTerm, Commit: commit, Context: 1, Entries: l})
}

// told: answers, one behind the other, told as briefly as can be.
func told(out api.Out) string {
	var b []string
	for _, a := range out.Answers {
		b = append(b, fmt.Sprintf("%d: %s", a.Token, brief(a.Err, a.Result)))
	}
	return strings.Join(b, "; ")
}

func brief(e api.Errno, r api.Result) string {
	if e != api.OK {
		return fmt.Sprintf("error %d%s", e, map[bool]string{false: fmt.Sprintf(" AND %+v", r)}[tell(r) == tell(api.Result{})])
	}
	return fmt.Sprintf("%d %q %d %v", r.Kind, r.Value, r.Version, r.Keys)
}

// mail: what is sent, by kinds and nodes; what is no message in a frame, or goes elsewhere, is told so.
func mail(out api.Out) string {
	var b []string
	for _, x := range out.Sends {
		body, rest, e := wire.Unframe(x.Frame)
		m, f := wire.GetMessage(body)
		if e != api.OK || f != api.OK || rest != "" || m.To != x.To {
			return fmt.Sprintf("NO MESSAGE: %+v", x)
		}
		kind := []string{"", "prevote", "presaid", "vote", "said", "entries", "reply", "install"}[m.Kind]
		b = append(b, fmt.Sprintf("%s>%d t%d", kind, m.To, m.Term))
	}
	return strings.Join(b, "; ")
}

// is: what is told is what is wanted.
func is(t *testing.T, what, got, want string) {
	t.Helper()
	if got != want {
		t.Errorf("%s: %s\nwant: %s", what, got, want)
	}
}

// tell: a value, for a look; nil and empty lists are the same.
func tell(x ...any) string {
	return fmt.Sprintf("%+v", x)
}

// pairs: of a host's table.
func pairs(h *host.Host) string {
	_, x := h.Status()
	return fmt.Sprint(x.Pairs)
}

func put(key, value string) api.Command {
	return api.Command{Kind: api.Put, Key: key, Value: value}
}

func get(key string) api.Command {
	return api.Command{Kind: api.Get, Key: key}
}

// request: of the session 2, which the first request of a new leader opens.
func request(number int, c api.Command) api.Request {
	return api.Request{Client: 2, Number: number, Command: c}
}
