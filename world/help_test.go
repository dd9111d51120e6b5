package world_test

import (
	"fmt"
	"math"
	"slices"
	"strings"
	"testing"

	"quorate/api"
	"quorate/wire"
	"quorate/world"
)

// extreme: numbers that no field may be.
var extreme = []int{math.MinInt, -1, api.MaxNumber + 1, math.MaxInt}

// of: a world of so many nodes, all of which vote: the one of the document's examples of the whole.
func of(count int) api.World {
	w := api.World{Election: 4, Beat: 1, Keep: 10}
	for id := 1; id <= count; id++ {
		w.Nodes, w.Voters = append(w.Nodes, id), append(w.Voters, id)
	}
	return w
}

// begin: a world.
func begin(t *testing.T, s api.World) *world.World {
	t.Helper()
	w, e := world.New(s)
	if w == nil || e != api.OK {
		t.Fatalf("P10.1: New(%+v): %v", s, e)
	}
	return w
}

// allComes: the first message, till nothing is on its way.
func allComes(w *world.World) {
	for range 1000 {
		if w.Way() == 0 {
			return
		}
		w.Do(api.Step{Kind: api.Deliver})
	}
}

// led: a world whose node 1 leads in term 1, its first entry committed everywhere. Its last step is the number 4 and what came.
func led(t *testing.T, s api.World) *world.World {
	t.Helper()
	w := begin(t, s)
	for range s.Election {
		w.Do(api.Step{Kind: api.TickAll})
		allComes(w)
	}
	if x, _, up := w.Look(1); !up || x.Role != api.Leader || x.Hard != (api.Hard{Term: 1, Vote: 1, Commit: 1}) {
		t.Fatalf("P10.3: node 1 leads: %+v", x)
	}
	return w
}

func tick(node int) api.Step {
	return api.Step{Kind: api.TickOne, Node: node}
}

func stop(node int) api.Step {
	return api.Step{Kind: api.Stop, Node: node}
}

func up(node int) api.Step {
	return api.Step{Kind: api.Begin, Node: node}
}

// breaks: a node's next event, behind so many acts, with so many bytes of the last one.
func breaks(node, acts, bytes int) api.Step {
	return api.Step{Kind: api.Break, Node: node, N: acts, Part: bytes}
}

func ask(node int, q api.Request) api.Step {
	return api.Step{Kind: api.AskNode, Node: node, Request: q}
}

// opens: a node is asked for a session.
func opens(node int) api.Step {
	return ask(node, api.Request{})
}

func read(node int, c api.Command) api.Step {
	return api.Step{Kind: api.ReadNode, Node: node, Request: api.Request{Command: c}}
}

func change(node int, ops ...api.Op) api.Step {
	return api.Step{Kind: api.ChangeAt, Node: node, Ops: ops}
}

func get(key string) api.Command {
	return api.Command{Kind: api.Get, Key: key}
}

// appends: a request of a client that puts a value behind k's.
func appends(client, number int, value string) api.Request {
	return api.Request{Client: client, Number: number, Command: api.Command{Kind: api.Append, Key: "k", Value: value}}
}

// told: events, briefly: the node, the error, how many acts, to whom something was sent, what was answered.
func told(l []api.Event) string {
	b := []string{}
	for _, e := range l {
		s := fmt.Sprintf("node %d", e.Node)
		if e.Err != api.OK {
			s += fmt.Sprintf(" error %d", e.Err)
		}
		if len(e.Acts) > 0 {
			s += fmt.Sprintf(", %d acts", len(e.Acts))
		}
		for _, x := range e.Sends {
			s += fmt.Sprintf(", %s>%d", kindOf(x.Frame), x.To)
		}
		for _, a := range e.Answers {
			s += fmt.Sprintf(", answer %d: %s", a.Token, brief(a.Err, a.Result))
		}
		b = append(b, s)
	}
	return strings.Join(b, "; ")
}

// kindOf: of the message in a frame.
func kindOf(frame string) string {
	body, rest, e := wire.Unframe(frame)
	m, f := wire.GetMessage(body)
	if e != api.OK || f != api.OK || rest != "" {
		return "NO MESSAGE"
	}
	return []string{"", "prevote", "presaid", "vote", "said", "entries", "reply", "install"}[m.Kind]
}

func brief(e api.Errno, r api.Result) string {
	if e != api.OK {
		return fmt.Sprintf("error %d%s", e, map[bool]string{false: fmt.Sprintf(" AND %+v", r)}[tell(r) == tell(api.Result{})])
	}
	return fmt.Sprintf("%d %q %d %v", r.Kind, r.Value, r.Version, r.Keys)
}

// calls: the history, briefly: from, to, client and number, the command's kind and key, what was answered.
func calls(w *world.World) string {
	b := []string{}
	for _, c := range w.History() {
		b = append(b, fmt.Sprintf("%d-%d: %d/%d %d %s: %s", c.From, c.To, c.Client, c.Number, c.Command.Kind, c.Command.Key, brief(c.Err, c.Result)))
	}
	return strings.Join(b, "; ")
}

// state: how a node stands, briefly.
func state(w *world.World, id int) string {
	s, _, up := w.Look(id)
	if !up {
		return "down"
	}
	role := []string{"", "follower", "precandidate", "candidate", "leader"}[s.Role]
	last := s.Log.Base + len(s.Log.Entries)
	return fmt.Sprintf("%s of %d, term %d, vote %d, commit %d of %d, %v %v %v", role, s.Leader, s.Hard.Term, s.Hard.Vote, s.Hard.Commit, last, s.Config.Voters, s.Config.Next, s.Config.Learners)
}

// is: what is told is what is wanted.
func is(t *testing.T, what, got, want string) {
	t.Helper()
	if got != want {
		t.Errorf("%s: %s\nwant: %s", what, got, want)
	}
}

// tell: a value, for a look; nil and empty lists are the same.
func tell(x ...any) string {
	return fmt.Sprintf("%+v", x)
}

// roomy: a list with spare room behind it, and all of that, to look at.
func roomy[T any](l []T, spare T) (short, whole []T) {
	whole = append(slices.Clone(l), spare, spare, spare)
	return whole[:len(l)], whole
}

// spoil: a list, and its spare room.
func spoil[T any](l []T, with T) {
	l = l[:cap(l)]
	for i := range l {
		l[i] = with
	}
}
