package town_test

import (
	"fmt"
	"math"
	"slices"
	"strings"
	"testing"

	"quorate/api"
	"quorate/town"
)

// extreme: numbers that no field may be.
var extreme = []int{math.MinInt, -1, api.MaxNumber + 1, math.MaxInt}

// of: a world of so many nodes, all of which vote: the one of the document's examples of the whole.
func of(count int) api.World {
	w := api.World{Election: 4, Beat: 1, Keep: 10}
	for id := 1; id <= count; id++ {
		w.Nodes, w.Voters = append(w.Nodes, id), append(w.Voters, id)
	}
	return w
}

// begin: a town.
func begin(t *testing.T, w api.World, clients, patience int) *town.Town {
	t.Helper()
	x, e := town.New(w, clients, patience)
	if x == nil || e != api.OK {
		t.Fatalf("P15.1: New(%+v, %d, %d): %v", w, clients, patience, e)
	}
	return x
}

// led: a town whose node 1 leads in term 1, its first entry committed everywhere.
func led(t *testing.T, nodes, clients, patience int) *town.Town {
	t.Helper()
	x := begin(t, of(nodes), clients, patience)
	x.Heal(4, nil)
	if s, _, up := x.Look(1); !up || s.Role != api.Leader || s.Hard != (api.Hard{Term: 1, Vote: 1, Commit: 1}) || x.Way() != 0 {
		t.Fatalf("P15.4: node 1 leads: %+v", s)
	}
	return x
}

// do: a step of the world, that is not refused.
func do(t *testing.T, x *town.Town, s api.Step) {
	t.Helper()
	if e := x.Do(api.TownStep{Step: s}); e != api.OK {
		t.Errorf("P15.2: Do(%+v): %d", s, e)
	}
}

// wants: a client does, and that is what Do says.
func wants(t *testing.T, x *town.Town, k int, c api.Command, want api.Errno) {
	t.Helper()
	if e := x.Do(api.TownStep{Want: true, Client: k, Command: c}); e != want {
		t.Errorf("P15.2: client %d wants %+v: %d; want %d", k, c, e, want)
	}
}

func tickAll() api.Step {
	return api.Step{Kind: api.TickAll}
}

func tick(node int) api.Step {
	return api.Step{Kind: api.TickOne, Node: node}
}

func deliver() api.Step {
	return api.Step{Kind: api.Deliver}
}

func stop(node int) api.Step {
	return api.Step{Kind: api.Stop, Node: node}
}

func up(node int) api.Step {
	return api.Step{Kind: api.Begin, Node: node}
}

// breaks: a node's next event, behind so many acts.
func breaks(node, acts int) api.Step {
	return api.Step{Kind: api.Break, Node: node, N: acts}
}

func get(key string) api.Command {
	return api.Command{Kind: api.Get, Key: key}
}

// add: a value is put behind k's.
func add(value string) api.Command {
	return api.Command{Kind: api.Append, Key: "k", Value: value}
}

// stands: a client does so.
func stands(t *testing.T, what string, x *town.Town, k int, want api.ClientStatus) {
	t.Helper()
	if s, is := x.Client(k); s != want || !is {
		t.Errorf("%s: client %d: %+v, %v; want %+v", what, k, s, is, want)
	}
}

// is: what is told is what is wanted.
func is(t *testing.T, what, got, want string) {
	t.Helper()
	if got != want {
		t.Errorf("%s: %s\nwant: %s", what, got, want)
	}
}

// wanted: what was wanted, briefly: from, to, client and number, the command's kind, key and value, the result.
func wanted(x *town.Town) string {
	return brief(x.Wants())
}

// asked: the calls of the world, likewise.
func asked(x *town.Town) string {
	return brief(x.History())
}

func brief(l []api.Call) string {
	b := []string{}
	for _, c := range l {
		s := fmt.Sprintf("%d-%d: %d/%d %d %s%s:", c.From, c.To, c.Client, c.Number, c.Command.Kind, c.Command.Key, c.Command.Value)
		if c.Err != api.OK {
			s += fmt.Sprintf(" error %d", c.Err)
		}
		b = append(b, s+fmt.Sprintf(" %d %q %d %v", c.Result.Kind, c.Result.Value, c.Result.Version, c.Result.Keys))
	}
	return strings.Join(b, "; ")
}

// stepNow: the number of a step that is done to learn it: a node, which is up, is to look.
func stepNow(t *testing.T, x *town.Town, node int) int {
	t.Helper()
	was := len(x.History())
	do(t, x, api.Step{Kind: api.ReadNode, Node: node, Request: api.Request{Command: get("k")}})
	return x.History()[was].From
}

// state: how a node stands, briefly.
func state(x *town.Town, id int) string {
	s, table, up := x.Look(id)
	if !up {
		return "down"
	}
	role := []string{"", "follower", "precandidate", "candidate", "leader"}[s.Role]
	return fmt.Sprintf("%s of %d, term %d, commit %d, %v", role, s.Leader, s.Hard.Term, s.Hard.Commit, table.Pairs)
}

// tell: a value, for a look; nil and empty lists are the same.
func tell(x ...any) string {
	return fmt.Sprintf("%+v", x)
}

// roomy: a list with spare room behind it, and all of that, to look at.
func roomy[T any](l []T, spare T) (short, whole []T) {
	whole = append(slices.Clone(l), spare, spare, spare)
	return whole[:len(l)], whole
}

// spoil: a list, and its spare room.
func spoil[T any](l []T, with T) {
	l = l[:cap(l)]
	for i := range l {
		l[i] = with
	}
}

// asks: since so many calls these sessions have asked.
func asks(t *testing.T, what string, x *town.Town, since int, sessions ...int) {
	t.Helper()
	got := []int{}
	for _, c := range x.History()[since:] {
		got = append(got, c.Client)
	}
	if !slices.Equal(got, sessions) {
		t.Errorf("%s: the sessions that asked are %v; want %v", what, got, sessions)
	}
}

// comes: the first message on its way, again and again, till a client stands otherwise: the number of that step, where the next step's is handed in.
func comes(t *testing.T, x *town.Town, k, next int) int {
	t.Helper()
	was, _ := x.Client(k)
	for i := range 20 {
		do(t, x, deliver())
		if now, _ := x.Client(k); now != was {
			return next + i
		}
	}
	t.Fatalf("P15.2: client %d has no answer: %+v", k, was)
	return 0
}

// seated: a town of three nodes, whose clients have the sessions 2, 3, .., and in each one answer, that there is no k.
func seated(t *testing.T, clients, patience int) *town.Town {
	t.Helper()
	x := led(t, 3, clients, patience)
	for k := 1; k <= clients; k++ {
		wants(t, x, k, get("k"), api.OK)
	}
	x.Heal(2, nil)
	for k := 1; k <= clients; k++ {
		stands(t, "P15.2: seated", x, k, api.ClientStatus{Session: 1 + k, Number: 1, Node: 1})
	}
	return x
}
