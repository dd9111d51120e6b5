package txn_test

import (
	"cmp"
	"fmt"
	"iter"
	"math/rand"
	"regexp"
	"slices"
	"strconv"
	"testing"

	"quorate/api"
	"quorate/txn"
)

// tale: a second telling of a transaction: one goes through it from the beginning to the end, and waits for an answer wherever a command is to be done.
type tale struct {
	id     int
	parts  []api.Part
	state  int
	old    []int
	yield  func(api.Command) bool
	answer api.Result
	pull   func() (api.Command, bool)
	stop   func()
	next   api.Command
	more   bool
}

// left: who waits for an answer that never comes.
type left struct{}

func newTale(id int, parts []api.Part) *tale {
	m := &tale{id: id, parts: slices.Clone(parts), state: api.Running}
	slices.SortFunc(m.parts, func(a, b api.Part) int { return cmp.Compare(a.Key, b.Key) })
	m.pull, m.stop = iter.Pull(func(yield func(api.Command) bool) {
		defer func() {
			if x := recover(); x != nil && x != (left{}) {
				panic(x)
			}
		}()
		m.yield = yield
		m.tell()
	})
	m.next, m.more = m.pull()
	return m
}

// answered: it goes on to the next command.
func (m *tale) answered(r api.Result) {
	m.answer = r
	m.next, m.more = m.pull()
}

func (m *tale) do(c api.Command) api.Result {
	if !m.yield(c) {
		panic(left{})
	}
	return m.answer
}

func (m *tale) get(key string) (string, int, bool) {
	r := m.do(api.Command{Kind: api.Get, Key: key})
	if r.Kind != api.Done {
		return "", 0, false
	}
	return r.Value, r.Version, true
}

func (m *tale) swap(key, value string, version int) bool {
	return m.do(api.Command{Kind: api.Swap, Key: key, Value: value, If: version}).Kind == api.Done
}

func (m *tale) tell() {
	record := fmt.Sprint("t", m.id)
	if !m.swap(record, "open", 0) {
		m.state = api.Aborted
		return
	}
	m.state = m.settle(record)
	for _, p := range m.parts {
		value, version, _ := m.get("k" + p.Key)
		if n, who, then := amount(value); who == m.id {
			if m.state == api.Committed {
				n = then
			}
			m.swap("k"+p.Key, fmt.Sprint(n), version)
		}
	}
}

func (m *tale) settle(record string) int {
	for _, p := range m.parts {
		n, ok := m.take(p)
		if !ok {
			m.swap(record, "off", 1)
			return api.Aborted
		}
		m.old = append(m.old, n)
	}
	if m.swap(record, "done", 1) {
		return api.Committed
	}
	return api.Aborted
}

// take: a part's number, held; false: it may not be.
func (m *tale) take(p api.Part) (int, bool) {
	for {
		value, version, _ := m.get("k" + p.Key)
		n, who, then := amount(value)
		sum := n + p.Add
		if who == m.id {
			return n, true
		}
		if who != 0 {
			m.push("k"+p.Key, version, n, who, then)
			continue
		}
		if sum < 0 || sum > api.MaxAmount {
			return 0, false
		}
		if m.swap("k"+p.Key, fmt.Sprint(n, " ", m.id, " ", sum), version) {
			return n, true
		}
	}
}

// push: another out of the way.
func (m *tale) push(key string, version, n, who, then int) {
	record := fmt.Sprint("t", who)
	switch says, of, _ := m.get(record); says {
	case "open":
		m.swap(record, "off", of)
	case "done":
		m.swap(key, fmt.Sprint(then), version)
	default:
		m.swap(key, fmt.Sprint(n), version)
	}
}

var shape = regexp.MustCompile(`^(0|[1-9][0-9]{0,8})(?: ([1-9][0-9]{0,2}) (0|[1-9][0-9]{0,8}))?$`)

func amount(s string) (n, who, then int) {
	if l := shape.FindStringSubmatch(s); l != nil {
		n, _ = strconv.Atoi(l[1])
		who, _ = strconv.Atoi(l[2])
		then, _ = strconv.Atoi(l[3])
	}
	return n, who, then
}

// someParts: up to four, of few keys.
func someParts(r *rand.Rand) []api.Part {
	keys := []string{"a", "b", "c", "A", "\xff", "ab"}
	r.Shuffle(len(keys), func(i, j int) { keys[i], keys[j] = keys[j], keys[i] })
	l := []api.Part{}
	for _, k := range keys[:1+r.Intn(api.MaxParts)] {
		n := r.Intn(12) - 4
		if r.Intn(12) == 0 {
			n = []int{api.MaxAmount, -api.MaxAmount, 0}[r.Intn(3)]
		}
		l = append(l, part(k, n))
	}
	return l
}

// someAnswer: fitting more often than not.
func someAnswer(r *rand.Rand, c api.Command, id int) api.Result {
	x := api.Result{Kind: api.Done, Version: r.Intn(9)}
	if r.Intn(4) == 0 {
		x.Kind = r.Intn(11) - 1
	}
	switch {
	case r.Intn(9) == 0:
		x.Value = amounts[r.Intn(len(amounts))].text
	case c.Key[0] == 't':
		x.Value = []string{"open", "done", "off", "", "opened"}[r.Intn(5)]
	case c.Kind == api.Get && r.Intn(2) == 0:
		x.Value = fmt.Sprint(r.Intn(8), " ", []int{id, 1 + r.Intn(4)}[r.Intn(2)], " ", r.Intn(8))
	default:
		x.Value = fmt.Sprint(r.Intn(8))
	}
	return x
}

// same: do both tell the same?
func same(t *testing.T, what string, x *txn.Txn, m *tale) {
	t.Helper()
	c, is := x.Next()
	if c != m.next || is != m.more {
		t.Fatalf("P16.2: %s: Next: %+v, %v; want %+v, %v", what, c, is, m.next, m.more)
	}
	if s := x.Look(); s.State != m.state || !slices.Equal(s.Old, m.old) {
		t.Fatalf("P16.2: %s: Look: %+v; want %d, %v", what, s, m.state, m.old)
	}
}

// Answers of chance, as no map gives them.
func TestP16_2ChanceAnswers(t *testing.T) {
	r := rand.New(rand.NewSource(16))
	var count [4]int
	for k := range 4000 {
		id := 1 + r.Intn(4)
		parts := someParts(r)
		x, m := begin(t, id, parts...), newTale(id, parts)
		for i := range 60 {
			same(t, fmt.Sprintf("transaction %d of %v, turn %d", k, parts, i), x, m)
			if !m.more {
				break
			}
			a := someAnswer(r, m.next, id)
			x.Answer(a)
			m.answered(a)
		}
		m.stop()
		count[m.state]++
	}
	if count[api.Committed] < 200 || count[api.Aborted] < 200 {
		t.Errorf("P16.2: too few came to each end: %v", count)
	}
}

// Several on one map, in turns of chance; some stop for ever.
func TestP16_2ChanceTurns(t *testing.T) {
	r := rand.New(rand.NewSource(162))
	var count [4]int
	for k := range 800 {
		var l []*txn.Txn
		var tales []*tale
		for i := range 2 + r.Intn(4) {
			parts := someParts(r)
			l, tales = append(l, begin(t, i+1, parts...)), append(tales, newTale(i+1, parts))
		}
		var p []api.Pair
		for i := range 50 * len(l) {
			n := r.Intn(len(l))
			if k%2 == 0 && i > 10 {
				n = r.Intn(len(l)-1) + 1 // the first has stopped
			}
			if a, is := step(&p, l[n]); is {
				tales[n].answered(a)
			}
			same(t, fmt.Sprintf("run %d, step %d: transaction %d", k, i, n+1), l[n], tales[n])
		}
		for i, m := range tales {
			count[l[i].Look().State]++
			m.stop()
		}
	}
	if count[api.Committed] < 500 || count[api.Aborted] < 200 || count[api.Running] < 100 {
		t.Errorf("P16.2: too few came to each end: %v", count)
	}
}
