package session_test

import (
	"fmt"
	"math/rand"
	"sort"
	"testing"

	"quorate/api"
	"quorate/kv"
	"quorate/session"
	"quorate/wire"
)

// model: sessions told once more, in another way: by their clients.
type model struct {
	time     int
	pairs    []api.Pair
	sessions map[int]api.Session
}

func (m *model) table() api.Table {
	t := api.Table{Time: m.time, Pairs: m.pairs}
	for _, s := range m.sessions {
		t.Sessions = append(t.Sessions, s)
	}
	sort.Slice(t.Sessions, func(i, j int) bool { return t.Sessions[i].Client < t.Sessions[j].Client })
	return t
}

// age: the time goes on, and sessions end.
func (m *model) age(time int) {
	if time > m.time {
		m.time = time
	}
	for n, s := range m.sessions {
		if m.time-s.Seen > 400 {
			delete(m.sessions, n)
		}
	}
}

func (m *model) open(index int) api.Result {
	if _, there := m.sessions[index]; there || index < 1 || index > 1<<40-1 {
		return api.Result{Kind: api.Bad}
	}
	if len(m.sessions) == 8 {
		l := m.table().Sessions
		sort.SliceStable(l, func(i, j int) bool { return l[i].Seen < l[j].Seen })
		delete(m.sessions, l[0].Client)
	}
	m.sessions[index] = api.Session{Client: index, Seen: m.time}
	return api.Result{Kind: api.Done, Version: index}
}

func (m *model) run(q api.Request, index int) api.Result {
	m.age(q.Time)
	if q.Client == 0 {
		return m.open(index)
	}
	s, there := m.sessions[q.Client]
	if !there {
		return api.Result{Kind: api.Lost}
	}
	s.Seen = m.time
	r := s.Answer
	if q.Number == 0 || q.Number < s.Last {
		r = api.Result{Kind: api.Stale}
	} else if q.Number-s.Last > 1 {
		r = api.Result{Kind: api.Gap}
	} else if q.Number != s.Last {
		m.pairs, r = kv.Apply(m.pairs, q.Command)
		s.Last, s.Answer = q.Number, r
	}
	m.sessions[q.Client] = s
	return r
}

// draw: some command that may be.
func draw(r *rand.Rand) api.Command {
	key := fmt.Sprint("k", r.Intn(4))
	return []api.Command{
		{Kind: api.Put, Key: key, Value: "v"},
		{Kind: api.Append, Key: key, Value: "w"},
		{Kind: api.Swap, Key: key, Value: "x", If: r.Intn(3)},
		{Kind: api.Get, Key: key},
		{Kind: api.Delete, Key: key},
		{Kind: api.List, If: r.Intn(3)},
	}[r.Intn(6)]
}

// ask: some request that may be, most often of a client that has a session, with a number near its last one.
func (m *model) ask(r *rand.Rand) api.Request {
	q := api.Request{Time: m.time - 2 + r.Intn(6)}
	if r.Intn(30) == 0 {
		q.Time += r.Intn(500)
	}
	q.Time = max(q.Time, 0)
	l := m.table().Sessions
	if r.Intn(6) == 0 || len(l) == 0 {
		return q
	}
	s := l[r.Intn(len(l))]
	q.Client, q.Number, q.Command = s.Client, max(s.Last-1+r.Intn(4), 0), draw(r)
	if r.Intn(20) == 0 {
		q.Client++
	}
	return q
}

func TestP4AsTheModel(t *testing.T) {
	met := map[int]int{}
	for seed := range 80 {
		r := rand.New(rand.NewSource(int64(seed)))
		m, in := model{sessions: map[int]api.Session{}}, api.Table{}
		for range 300 {
			q, index := m.ask(r), r.Intn(40)
			want := m.run(q, index)
			out, got := session.Run(in, q, index)
			if tell(out) != tell(m.table()) || tell(got) != tell(want) || !wire.IsTable(out) {
				t.Fatalf("P4: %+v at %d on %+v: %+v, %+v; want %+v, %+v", q, index, in, out, got, m.table(), want)
			}
			met[got.Kind]++
			in = out
		}
	}
	for kind := api.Done; kind <= api.Lost; kind++ {
		if met[kind] < 5 && kind != api.Full {
			t.Errorf("P4: answers of kind %d came up %d times: the test shows too little", kind, met[kind])
		}
	}
}

func TestP4_3EachOnce(t *testing.T) {
	r := rand.New(rand.NewSource(1))
	var in api.Table
	for i := range 3 {
		in, _ = session.Run(in, api.Request{}, i+1)
	}
	var last [4]int
	var answers [4]string
	for step := range 600 {
		client := 1 + r.Intn(3)
		again := last[client] > 0 && r.Intn(2) == 0
		if !again {
			last[client]++
		}
		q := api.Request{Client: client, Number: last[client], Time: step, Command: api.Command{Kind: api.Put, Key: fmt.Sprint("k", client)}}
		out, answer := session.Run(in, q, 100+step)
		if again && tell(answer) != answers[client] {
			t.Fatalf("P4.3: asked again: %+v, first it was %s", answer, answers[client])
		}
		answers[client], in = tell(answer), out
	}
	for _, p := range in.Pairs {
		if client := int(p.Key[1] - '0'); p.Version != last[client] {
			t.Errorf("P4.3: %d requests of client %d were done %d times", last[client], client, p.Version)
		}
	}
}

// someRequests: of each way that a request can go on two.
func someRequests() []api.Request {
	return []api.Request{
		{Time: 950},
		{Time: 1000},
		put(5, 3, 950),
		put(5, 3, 1000),
		put(5, 2, 1000),
		put(5, 1, 1000),
		put(5, 9, 1000),
		put(3, 2, 950),
		put(77, 1, 1000),
		{Client: 5, Number: 3, Command: api.Command{Kind: api.List}},
		{Client: 5, Number: 3, Command: api.Command{Kind: api.Delete, Key: "k"}},
		{Client: 5, Number: 3, Command: api.Command{Kind: api.Append, Key: "ka", Value: "w"}},
		{Client: 5},
	}
}

// roomy: two, with spare room behind its lists; all of these, to look at.
func roomy() (api.Table, func() string) {
	t := two()
	t.Pairs = append(t.Pairs, api.Pair{Key: "spare"}, api.Pair{Key: "room"})
	t.Sessions = append(t.Sessions, api.Session{Client: 77}, api.Session{Client: 78})
	t.Sessions[1].Answer.Keys = append(t.Sessions[1].Answer.Keys, "spare", "room")
	pairs, sessions, keys := t.Pairs, t.Sessions, t.Sessions[1].Answer.Keys
	t.Pairs, t.Sessions = pairs[:2], sessions[:2]
	t.Sessions[1].Answer.Keys = keys[:2]
	return t, func() string { return tell(pairs) + tell(sessions) + tell(keys) }
}

func TestP4ListsStay(t *testing.T) {
	for _, q := range someRequests() {
		for _, index := range []int{0, 1, 4, 9} {
			in, look := roomy()
			before := look()
			session.Run(in, q, index)
			if look() != before {
				t.Errorf("P4: %+v at %d has changed what was handed in, or its spare room: %s", q, index, look())
			}
		}
	}
}

// spoil: all of a list, and its spare room.
func spoil[T any](l []T, with T) {
	l = l[:cap(l)]
	for i := range l {
		l[i] = with
	}
}

// spoilAll: each list of what Run gave out.
func spoilAll(t api.Table, r api.Result) {
	spoil(r.Keys, "over")
	for _, s := range t.Sessions {
		spoil(s.Answer.Keys, "over")
	}
	spoil(t.Pairs, api.Pair{Key: "over"})
	spoil(t.Sessions, api.Session{Client: 99})
}

func TestP4NewMemory(t *testing.T) {
	for _, q := range someRequests() {
		in, look := roomy()
		before := look()
		out, r := session.Run(in, q, 9)
		other, s := session.Run(in, q, 9)
		want := tell(other) + tell(s)
		spoilAll(out, r)
		if look() != before || tell(other)+tell(s) != want {
			t.Errorf("P4: what %+v gives out is not new memory", q)
		}
	}
	for name, in := range badTables() {
		before := tell(in)
		spoilAll(session.Run(in, put(5, 3, 1000), 9))
		if tell(in) != before {
			t.Errorf("P4: %s: what comes out is not new memory", name)
		}
	}
}

func TestP4_3TheSessionKeepsItsAnswer(t *testing.T) {
	for number := 2; number <= 3; number++ {
		q := api.Request{Client: 5, Number: number, Command: api.Command{Kind: api.List}}
		out, r := session.Run(two(), q, 9)
		before := tell(out)
		spoil(r.Keys, "over")
		if len(r.Keys) != 2 || tell(out) != before {
			t.Errorf("P4.3: the answer to number %d shares memory with the session's: %+v", number, out)
		}
	}
}
