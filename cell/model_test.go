package cell_test

import (
	"fmt"
	"iter"
	"math/rand"
	"regexp"
	"strconv"
	"testing"

	"quorate/api"
	"quorate/cell"
	"quorate/kv"
)

// tale: a second telling of a job: one goes through it from the beginning to the end, and waits for an answer wherever a command is to be done.
type tale struct {
	job    api.Job
	state  int
	at     int
	result api.Result
	yield  func(asked) bool
	answer api.Result
	pull   func() (asked, bool)
	stop   func()
	next   asked
	more   bool
}

// asked: a command, of a group.
type asked struct {
	group   int
	command api.Command
}

// left: who waits for an answer that never comes.
type left struct{}

func newTale(at int, x api.Job) *tale {
	m := &tale{job: x, state: api.Working, at: at}
	m.pull, m.stop = iter.Pull(func(yield func(asked) bool) {
		defer func() {
			if x := recover(); x != nil && x != (left{}) {
				panic(x)
			}
		}()
		m.yield = yield
		m.tell()
	})
	m.next, m.more = m.pull()
	return m
}

// answered: it goes on to the next command.
func (m *tale) answered(r api.Result) {
	m.answer = r
	m.next, m.more = m.pull()
}

func (m *tale) do(group int, c api.Command) api.Result {
	c.Key = "c" + m.job.Command.Key
	if !m.yield(asked{group, c}) {
		panic(left{})
	}
	return m.answer
}

// get: till it is not lost.
func (m *tale) get(group int) api.Result {
	for {
		if r := m.do(group, api.Command{Kind: api.Get}); r.Kind <= 5 {
			return r
		}
	}
}

func (m *tale) swap(group, version int, form string, x ...any) api.Result {
	return m.do(group, api.Command{Kind: api.Swap, Value: fmt.Sprintf(form, x...), If: version})
}

func (m *tale) end(r api.Result) bool {
	m.state, m.result = api.Ended, r
	return true
}

func (m *tale) tell() {
	for !m.turn() {
	}
}

// turn: from READ to the next READ; true: there is none.
func (m *tale) turn() bool {
	s, version := says(m.at, m.get(m.at))
	switch s.word {
	case "gone":
		m.at = s.group
		return false
	case "moving":
		m.carry(s, version)
		m.at = s.group
		return false
	}
	if m.job.To == 0 {
		return m.command(s, version)
	}
	return m.hand(s, version)
}

func (m *tale) command(s said, version int) bool {
	var was []api.Pair
	if s.version > 0 {
		was = []api.Pair{{Key: m.job.Command.Key, Value: s.value, Version: s.version}}
	}
	now, r := kv.Apply(was, m.job.Command)
	if tell(now) == tell(was) {
		return m.end(r)
	}
	text := fmt.Sprintf("here %d", s.hops)
	for _, p := range now {
		if len(p.Value) > 32 || p.Version > 999999 {
			return m.end(api.Result{Kind: api.Full})
		}
		text += fmt.Sprintf(" %d =%s", p.Version, p.Value)
	}
	switch w := m.swap(m.at, version, "%s", text); {
	case w.Kind == api.Done:
		return m.end(r)
	case w.Kind == api.Full:
		return m.end(api.Result{Kind: api.Full})
	case w.Kind > 5:
		m.state = api.Unknown
		return true
	}
	return false
}

func (m *tale) hand(s said, version int) bool {
	to := m.job.To
	if to == m.at {
		return m.end(api.Result{Kind: api.Done})
	}
	if s.hops == 999999 {
		return m.end(api.Result{Kind: api.Full})
	}
	if m.get(to).Kind == api.Missing {
		text := "gone 0 1"
		if to == 1 {
			text = "here 0"
		}
		if m.swap(to, 0, "%s", text).Kind == api.Full {
			return m.end(api.Result{Kind: api.Full})
		}
		return false
	}
	s = said{word: "moving", hops: s.hops + 1, group: to, value: s.value, version: s.version}
	switch w := m.swap(m.at, version, "moving %d %d%s", s.hops, to, s.rest()); w.Kind {
	case api.Full:
		return m.end(api.Result{Kind: api.Full})
	case api.Done:
		m.carry(s, w.Version)
		return m.end(api.Result{Kind: api.Done})
	}
	return false
}

// carry: what is moving comes to where it is moving to.
func (m *tale) carry(s said, version int) {
	for {
		there, of := says(s.group, m.get(s.group))
		if there.hops >= s.hops || m.swap(s.group, of, "here %d%s", s.hops, s.rest()).Kind == api.Done {
			break
		}
	}
	m.swap(m.at, version, "gone %d %d", s.hops, s.group)
}

// rest: what a cell has behind its other words.
func (s said) rest() string {
	if s.version == 0 {
		return ""
	}
	return fmt.Sprintf(" %d =%s", s.version, s.value)
}

var shape = regexp.MustCompile(`(?s)^(?:(here) (0|[1-9][0-9]{0,5})()|(moving) (0|[1-9][0-9]{0,5}) ([1-4])|(gone) (0|[1-9][0-9]{0,5}) ([1-4]))( ([1-9][0-9]{0,5}) =(.*))?$`)

// says: what a group says, and the version of that.
func says(group int, r api.Result) (said, int) {
	s, version := said{word: "gone", group: 1}, 0
	if group == 1 {
		s = said{word: "here"}
	}
	if r.Kind != api.Done {
		return s, version
	}
	l := shape.FindStringSubmatch(r.Value)
	if l == nil || l[7] != "" && l[10] != "" || len(l[12]) > 32 {
		return s, r.Version
	}
	s = said{word: l[1] + l[4] + l[7], value: l[12]}
	s.hops, _ = strconv.Atoi(l[2] + l[5] + l[8])
	s.group, _ = strconv.Atoi(l[3] + l[6] + l[9])
	s.version, _ = strconv.Atoi(l[11])
	return s, r.Version
}

// someJob: on one of few keys.
func someJob(r *rand.Rand, groups int) api.Job {
	key := []string{"a", "b", "kkkkkkkkkkkkkkk"}[r.Intn(3)]
	c := api.Command{Kind: 1 + r.Intn(5), Key: key}
	switch {
	case r.Intn(3) == 0:
		return hands(key, 1+r.Intn(groups))
	case c.Kind == api.Put, c.Kind == api.Append, c.Kind == api.Swap:
		c.Value = []string{"v", "w", "", " =", "x =y", many(20), many(32)}[r.Intn(7)]
	}
	if c.Kind == api.Swap {
		c.If = r.Intn(4)
	}
	return api.Job{Command: c}
}

// someAnswer: fitting more often than not.
func someAnswer(r *rand.Rand, good []said, bad []string) api.Result {
	x := api.Result{Kind: api.Done, Version: r.Intn(9)}
	if r.Intn(4) == 0 {
		x.Kind = r.Intn(11) - 1
	}
	switch k := r.Intn(9); {
	case k < 1:
		x.Value = bad[r.Intn(len(bad))]
	case k < 3:
		x.Value = good[r.Intn(len(good))].text
	default:
		s := said{value: "v", version: r.Intn(3)}
		x.Value = []string{fmt.Sprint("here ", r.Intn(4), s.rest()), fmt.Sprint("moving ", r.Intn(4), " ", 1+r.Intn(4), s.rest()), fmt.Sprint("gone ", r.Intn(4), " ", 1+r.Intn(4))}[r.Intn(3)]
	}
	return x
}

// same: do both tell the same?
func same(t *testing.T, what string, j *cell.Job, m *tale) {
	t.Helper()
	g, c, more := j.Next()
	if (asked{g, c}) != m.next || more != m.more {
		t.Fatalf("P20.2: %s: Next: %d, %+v, %v; want %+v, %v", what, g, c, more, m.next, m.more)
	}
	if s, want := j.Look(), (api.JobStatus{State: m.state, Group: m.at, Result: m.result}); tell(s) != tell(want) {
		t.Fatalf("P20.2: %s: Look: %+v; want %+v", what, s, want)
	}
}

// Answers of chance, as no map gives them.
func TestP20_2ChanceAnswers(t *testing.T) {
	r := rand.New(rand.NewSource(20))
	good, bad := cells(), noCells()
	count := map[[2]int]int{}
	for k := range 6000 {
		x, at := someJob(r, 4), 1+r.Intn(4)
		j, m := begin(t, 4, at, x), newTale(at, x)
		for i := range 60 {
			same(t, fmt.Sprintf("job %d: %+v, turn %d", k, x, i), j, m)
			if !m.more {
				break
			}
			a := someAnswer(r, good, bad)
			j.Answer(a)
			m.answered(a)
		}
		m.stop()
		count[[2]int{m.state, m.result.Kind}]++
	}
	for _, end := range [][2]int{{api.Ended, api.Done}, {api.Ended, api.Missing}, {api.Ended, api.Unequal}, {api.Ended, api.Full}, {api.Unknown, 0}} {
		if count[end] < 100 {
			t.Errorf("P20.2: too few came to each end: %v", count)
		}
	}
}

// Several on the same maps, in turns of chance; some answers are others, some jobs stop for ever.
func TestP20_2ChanceTurns(t *testing.T) {
	r := rand.New(rand.NewSource(201))
	count := map[int]int{}
	for k := range 1200 {
		groups := 1 + r.Intn(api.MaxGroups)
		l := make([][]api.Pair, groups)
		if k%5 == 0 {
			l[groups-1] = full()
		}
		var jobs []*cell.Job
		var tales []*tale
		for range 2 + r.Intn(5) {
			x, at := someJob(r, groups), 1+r.Intn(groups)
			jobs, tales = append(jobs, begin(t, groups, at, x)), append(tales, newTale(at, x))
		}
		for i := range 20 * len(jobs) {
			n := r.Intn(len(jobs))
			if k%2 == 0 && i > 10 {
				n = r.Intn(len(jobs)-1) + 1 // the first has stopped
			}
			g, c, more := jobs[n].Next()
			if more {
				var a api.Result
				l[g-1], a = kv.Apply(l[g-1], c)
				if r.Intn(8) == 0 {
					a = api.Result{Kind: r.Intn(11) - 1}
				}
				jobs[n].Answer(a)
				tales[n].answered(a)
			}
			same(t, fmt.Sprintf("run %d, step %d: job %d", k, i, n+1), jobs[n], tales[n])
		}
		for i, m := range tales {
			count[jobs[i].Look().State]++
			m.stop()
		}
	}
	if count[api.Ended] < 1000 || count[api.Unknown] < 40 || count[api.Working] < 40 {
		t.Errorf("P20.2: too few came to each end: %v", count)
	}
}
