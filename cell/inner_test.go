package cell

import (
	"fmt"
	"slices"
	"testing"

	"quorate/api"
	"quorate/kv"
)

// How a command goes: it is done, and answered; it is done, and the answer lost; it is lost itself.
const (
	answered = iota
	doneAndLost
	lost
)

// place: where all jobs of a small world, on the key a, may be at some moment: the maps; each job; how many commands may yet be lost; what a single map has on which all commands that have ended were done.
type place struct {
	maps   [][]api.Pair
	jobs   []Job
	losses int
	single content
}

// name: two places of one name are the same.
func (w place) name() string {
	return fmt.Sprint(w.maps, w.jobs, w.losses, w.single)
}

// behind: where one's next command leads, if it goes so; false: it has none, or none may be lost any more.
func (w place) behind(t *testing.T, i, how int) (place, bool) {
	t.Helper()
	x := w.jobs[i]
	g, c, is := x.Next()
	if !is || how != answered && w.losses == 0 {
		return place{}, false
	}
	out := place{slices.Clone(w.maps), slices.Clone(w.jobs), w.losses, w.single}
	var r api.Result
	if how != lost {
		out.maps[g-1], r = kv.Apply(w.maps[g-1], c)
	}
	isDone := r.Kind == api.Done
	if how != answered {
		out.losses--
		r = api.Result{Kind: api.Lost}
	}
	x.Answer(r)
	out.jobs[i] = x
	switch {
	case x.to > 0 || x.status.State == api.Working:
	case x.status.State == api.Ended:
		out.end(t, x)
	case isDone: // nobody knows, but it was
		out.single, _ = w.single.apply(x.command)
	}
	return out, true
}

// end: a command has ended: with the result that it has on the single map, if it is not Full.
func (w *place) end(t *testing.T, x Job) {
	t.Helper()
	then, r := w.single.apply(x.command)
	if x.status.Result.Kind == api.Full {
		return
	}
	if fmt.Sprint(x.status.Result) != fmt.Sprint(r) {
		t.Fatalf("one map: %+v has ended with %+v; a single map has %+v: %s", x.command, x.status.Result, r, w.name())
	}
	w.single = then
}

// check: what must hold at every moment.
func (w place) check(t *testing.T, most *int) {
	t.Helper()
	g, p, is := Find(w.maps, "a")
	if want, has := w.single.pair("a"); g == 0 || p != want || is != has {
		t.Fatalf("one map: Find: %d, %+v, %v; a single map has %+v: %s", g, p, is, want, w.name())
	}
	m, in := maps(w.maps), []int{}
	for i := range w.maps {
		if c := m.say(i+1, "a"); c.says == here || c.says == moving && m.say(c.group, "a").hops < c.hops {
			in = append(in, i+1)
		}
	}
	if !slices.Equal(in, []int{g}) {
		t.Fatalf("one map: the key is in groups %v; Find: %d: %s", in, g, w.name())
	}
	for i := range w.jobs {
		*most = max(*most, w.alone(t, i))
	}
}

// alone: how many commands one needs to its end, when all others have stopped for ever and nothing is lost.
func (w place) alone(t *testing.T, i int) int {
	t.Helper()
	for n := range 41 {
		next, is := w.behind(t, i, answered)
		if !is {
			return n
		}
		w = next
	}
	t.Fatalf("nobody is in its way: job %d, alone, has not ended within forty commands: %s", i+1, w.name())
	return 0
}

// ends: how each job does, and where the key is then.
func (w place) ends() string {
	s := ""
	for _, x := range w.jobs {
		s += fmt.Sprintf("%d%d ", x.status.State, x.status.Result.Kind)
	}
	g, p, _ := Find(w.maps, "a")
	return s + fmt.Sprintf("%d:%s", g, p.Value)
}

// explore: all places that can be come to: how many there are; the most commands that one needs alone; which ends there are.
func explore(t *testing.T, first place) (places, most int, ends map[string]bool) {
	t.Helper()
	seen := map[string]bool{first.name(): true}
	ends = map[string]bool{}
	for l := []place{first}; len(l) > 0; {
		w := l[len(l)-1]
		l = l[:len(l)-1]
		w.check(t, &most)
		isEnd := true
		for i := range w.jobs {
			for how := answered; how <= lost; how++ {
				next, is := w.behind(t, i, how)
				isEnd = isEnd && !is
				if is && !seen[next.name()] {
					seen[next.name()] = true
					l = append(l, next)
				}
			}
		}
		if isEnd {
			ends[w.ends()] = true
		}
	}
	return len(seen), most, ends
}

// A job: app, get, del or put of a, at a group; or a handed over to a group.
func appends(value string) api.Job {
	return api.Job{Command: api.Command{Kind: api.Append, Key: "a", Value: value}}
}

func gets() api.Job {
	return api.Job{Command: api.Command{Kind: api.Get, Key: "a"}}
}

func deletes() api.Job {
	return api.Job{Command: api.Command{Kind: api.Delete, Key: "a"}}
}

func gives(to int) api.Job {
	return api.Job{Command: gets().Command, To: to}
}

// filled: a map without room.
func filled() (l []api.Pair) {
	for i := range api.MaxPairs {
		l = append(l, api.Pair{Key: fmt.Sprintf("x%02d", i), Version: 1})
	}
	return l
}

// has: a map in which a's cell says that.
func has(text string) []api.Pair {
	return []api.Pair{{Key: cellKey("a"), Value: text, Version: 1}}
}

// scene: maps, jobs (each with the group at which it begins), how many commands may be lost, what a single map has; ends that must be among those that come about.
type scene struct {
	name   string
	maps   [][]api.Pair
	at     []int
	jobs   []api.Job
	losses int
	single content
	ends   []string
}

func scenes() []scene {
	v := content{"v", 1}
	nothing := make([][]api.Pair, 3)
	return []scene{
		{"two commands", nothing, []int{1, 2}, []api.Job{appends("x"), appends("y")}, 0, content{}, []string{"21 21 1:xy", "21 21 1:yx"}},
		{"three commands", nothing, []int{1, 2, 1}, []api.Job{appends("x"), deletes(), gets()}, 0, content{}, []string{"21 21 22 1:", "21 22 21 1:x"}},
		{"a command, handed over", nothing, []int{1, 1}, []api.Job{appends("x"), gives(2)}, 0, content{}, []string{"21 21 2:x"}},
		{"a command, handed over, with losses", nothing, []int{1, 1}, []api.Job{appends("x"), gives(2)}, 3, content{}, []string{"21 21 2:x", "30 21 2:x", "30 21 2:"}},
		{"handed over twice, to one", [][]api.Pair{has("here 0 1 =v"), nil, nil}, []int{1, 2}, []api.Job{gives(2), gives(2)}, 2, v, []string{"21 21 2:v"}},
		{"handed over twice, there and back", [][]api.Pair{has("here 0 1 =v"), nil, nil}, []int{1, 1}, []api.Job{gives(2), gives(1)}, 2, v, []string{"21 21 2:v", "21 21 1:v"}},
		{"handed over twice, to two", [][]api.Pair{has("here 0 1 =v"), nil, nil}, []int{1, 3}, []api.Job{gives(2), gives(3)}, 1, v, []string{"21 21 2:v", "21 21 3:v"}},
		{"handed over thrice", [][]api.Pair{has("here 0 1 =v"), nil, nil}, []int{1, 3, 2}, []api.Job{gives(2), gives(3), gives(1)}, 0, v, []string{"21 21 21 1:v", "21 21 21 2:v", "21 21 21 3:v"}},
		{"two commands, handed over", [][]api.Pair{has("here 0 1 =v"), nil, nil}, []int{1, 2, 1}, []api.Job{appends("x"), appends("y"), gives(2)}, 0, v, []string{"21 21 21 2:vxy", "21 21 21 2:vyx"}},
		{"it is elsewhere", [][]api.Pair{has("gone 3 2"), has("moving 4 3 1 =v"), has("gone 2 1")}, []int{1, 3}, []api.Job{deletes(), gives(1)}, 2, v, []string{"21 21 1:", "30 21 1:v"}},
		{"it has come already", [][]api.Pair{has("gone 3 2"), has("moving 4 3 1 =u"), has("here 4 1 =v")}, []int{1, 2}, []api.Job{appends("x"), gives(1)}, 2, v, []string{"21 21 1:vx", "30 21 1:v"}},
		{"where it goes is no room", [][]api.Pair{nil, filled(), nil}, []int{1, 1}, []api.Job{appends("x"), gives(2)}, 2, content{}, []string{"21 24 1:x", "30 24 1:"}},
		{"where it is is no room", [][]api.Pair{filled(), nil, nil}, []int{1, 2, 3}, []api.Job{appends("x"), gives(2), gets()}, 1, content{}, []string{"24 24 22 1:"}},
	}
}

// One map: in every order in which small sets of jobs can do their commands, wherever each of them stops, whatever is lost.
func TestP20EverySchedule(t *testing.T) {
	for _, x := range scenes() {
		w := place{maps: x.maps, losses: x.losses, single: x.single}
		for i, j := range x.jobs {
			y, e := New(len(x.maps), x.at[i], j)
			if e != api.OK {
				t.Fatal(e)
			}
			w.jobs = append(w.jobs, *y)
		}
		places, most, ends := explore(t, w)
		t.Logf("%s: %d places, %d commands alone, ends %v", x.name, places, most, ends)
		for _, s := range x.ends {
			if !ends[s] {
				t.Errorf("one map: %s: the end %s does not come about: %v", x.name, s, ends)
			}
		}
	}
}

// What is written is read again, and is the same text.
func TestP20TextsOfCells(t *testing.T) {
	for _, c := range []cell{
		{says: here},
		{says: here, hops: api.MaxHops},
		{says: here, hops: 3, content: content{"", 1}},
		{says: here, hops: 3, content: content{" =", api.MaxChanges}},
		{says: moving, hops: 3, group: 4, content: content{"v", 2}},
		{says: moving, hops: 3, group: 1},
		{says: gone, hops: 3, group: 2},
	} {
		if d, is := read(c.text()); !is || d != c {
			t.Errorf("P20: %+v is %q, which says %+v, %v", c, c.text(), d, is)
		}
	}
}
