package txn_test

import (
	"fmt"
	"math/rand"
	"slices"
	"testing"

	"quorate/api"
	"quorate/town"
	"quorate/txn"
)

// The document's example of the whole, 10.
func TestP16TheExampleOfTheWhole(t *testing.T) {
	one, two := begin(t, 1, part("x", 5), part("y", 3)), begin(t, 2, part("x", -2))
	var p []api.Pair
	for range 3 {
		step(&p, one)
	}
	is(t, "10: one has stopped behind its third command", shows(p), "kx=0 1 5 (1), t1=open (1)")
	runs(t, &p, two)
	is(t, "10: two, alone", stands(two), "aborted")
	is(t, "10: what it has made", shows(p), "kx=0 (2), t1=off (2), t2=off (2)")
	step(&p, one)
	step(&p, one)
	is(t, "10: one holds y", shows(p), "kx=0 (2), ky=0 1 3 (1), t1=off (2), t2=off (2)")
	is(t, "10: it does not know yet", stands(one), "running 0 0")
	runs(t, &p, one)
	is(t, "10: one", stands(one), "aborted 0 0")
	is(t, "10: in the end", shows(p), "kx=0 (2), ky=0 (2), t1=off (2), t2=off (2)")
}

// The longest way: four keys, each held by another that is open: within fifty commands.
func TestP16TheLongestWay(t *testing.T) {
	var p []api.Pair
	for i, key := range []string{"a", "b", "c", "d"} {
		x := begin(t, 1+i, part(key, 10+i))
		for range 3 {
			step(&p, x)
		}
	}
	is(t, "all four stopped", shows(p), "ka=0 1 10 (1), kb=0 2 11 (1), kc=0 3 12 (1), kd=0 4 13 (1), t1=open (1), t2=open (1), t3=open (1), t4=open (1)")
	x := begin(t, 5, part("a", 1), part("b", 2), part("c", 3), part("d", 4))
	if n := runs(t, &p, x); n != 42 {
		t.Errorf("P16.2: it took %d commands; 1, 8 for each part, 1, 2 for each part are 42", n)
	}
	is(t, "P16.2: it", stands(x), "committed 0 0 0 0")
	is(t, "P16.2: what it has made", shows(p), "ka=1 (4), kb=2 (4), kc=3 (4), kd=4 (4), t1=off (2), t2=off (2), t3=off (2), t4=off (2), t5=done (2)")
}

// Who stopped behind its commit is done, at once, and whoever comes sees it so.
func TestP16_3DoneAtOnce(t *testing.T) {
	var p []api.Pair
	one := begin(t, 1, part("x", 5), part("y", 3))
	for i := range 6 {
		if a, b := txn.Number(p, "x"), txn.Number(p, "y"); a != 0 || b != 0 {
			t.Errorf("P16.3: behind %d commands: %d and %d", i, a, b)
		}
		step(&p, one)
	}
	is(t, "P16.2: one is done", shows(p), "kx=0 1 5 (1), ky=0 1 3 (1), t1=done (2)")
	if a, b := txn.Number(p, "x"), txn.Number(p, "y"); a != 5 || b != 3 {
		t.Errorf("P16.3: when it is done: %d and %d; want 5 and 3", a, b)
	}
	two := begin(t, 2, part("x", -5), part("y", 1))
	runs(t, &p, two)
	is(t, "P16.2: two", stands(two), "committed 5 3")
	is(t, "P16.2: what they have made", shows(p), "kx=0 (4), ky=4 (4), t1=done (2), t2=done (2)")
	runs(t, &p, one)
	is(t, "P16.2: one finds nothing to give", shows(p), "kx=0 (4), ky=4 (4), t1=done (2), t2=done (2)")
}

// Two of one id: the second has ended at once, and has changed nothing.
func TestP16_2OneIdTwice(t *testing.T) {
	var p []api.Pair
	x, y := begin(t, 3, part("x", 1)), begin(t, 3, part("x", 10))
	step(&p, x)
	if n := runs(t, &p, y); n != 1 || stands(y) != "aborted" {
		t.Errorf("P16.2: the second: %d commands, %s", n, stands(y))
	}
	runs(t, &p, x)
	is(t, "P16.2: the first alone", shows(p), "kx=1 (2), t3=done (2)")
}

// ledger: what transactions that are committed make, one behind the other, in the order in which they were.
type ledger map[string]int

// take: one more is committed: what it noted is what was there, and nothing falls below 0.
func (l ledger) take(t *testing.T, parts []api.Part, x *txn.Txn) {
	t.Helper()
	s := x.Look()
	for i, p := range parts {
		if s.Old[i] != l[p.Key] {
			t.Fatalf("serial: %v noted %v; there was %v", parts, s.Old, l)
		}
		if l[p.Key] += p.Add; l[p.Key] < 0 || l[p.Key] > api.MaxAmount {
			t.Fatalf("serial: %v made %v", parts, l)
		}
	}
}

// Serial: what all make, in turns of chance, is what those that are committed make, at every moment; some stop for ever, and those who go on alone then end.
func TestP16Serial(t *testing.T) {
	r := rand.New(rand.NewSource(163))
	committed, late := 0, 0
	for k := range 600 {
		var p []api.Pair
		book := ledger{}
		count := 2 + r.Intn(8)
		l, parts := make([]*txn.Txn, count), make([][]api.Part, count)
		for i := range l {
			parts[i] = []api.Part{part("a", r.Intn(20)-6), part("b", r.Intn(20)-6), part("c", r.Intn(20)-6)}[r.Intn(2) : 2+r.Intn(2)]
			l[i] = begin(t, 1+i, parts[i]...)
		}
		stopped := r.Intn(count)
		one := func(i int) bool {
			was := l[i].Look().State
			_, is := step(&p, l[i])
			if was == api.Running && l[i].Look().State == api.Committed {
				book.take(t, parts[i], l[i])
				committed++
			}
			for _, key := range []string{"a", "b", "c"} {
				if n := txn.Number(p, key); n != book[key] {
					t.Fatalf("serial: run %d: %s is %d; want %d: %s", k, key, n, book[key], shows(p))
				}
			}
			return is
		}
		for range 6 * count {
			one(r.Intn(count))
		}
		for i := range l {
			if i < stopped {
				continue
			}
			n := 0
			for one(i) {
				if n++; n > 50 {
					t.Fatalf("P16: run %d: %d goes on alone, and does not end: %s", k, i+1, shows(p))
				}
			}
			late += n
		}
	}
	if committed < 800 || late < 2000 {
		t.Errorf("serial: %d are committed, %d commands were done alone: the test shows too little", committed, late)
	}
}

// clerk: a transaction whose commands a client of a town does.
type clerk struct {
	*txn.Txn
	client int
	asked  int // the place of what it wants among what is wanted; -1: nothing is
}

// work: it takes an answer, if there is one, and wants the next thing.
func (c *clerk) work(t *testing.T, x *town.Town) {
	t.Helper()
	if l := x.Wants(); c.asked >= 0 {
		if l[c.asked].To == 0 {
			return
		}
		c.Answer(l[c.asked].Result)
		c.asked = -1
	}
	if y, is := c.Next(); is {
		c.asked = len(x.Wants())
		if e := x.Do(api.TownStep{Want: true, Client: c.client, Command: y}); e != api.OK {
			t.Fatalf("P15.2: %+v: %d", y, e)
		}
	}
}

// On a replicated map: nodes break, messages are lost; one stops for ever, now and then. What is committed is there, and nothing else.
func TestP16SerialInATown(t *testing.T) {
	r := rand.New(rand.NewSource(164))
	parts := [][]api.Part{{part("a", 9), part("b", 4)}, {part("a", -2), part("b", 2)}, {part("a", 1), part("c", 7)}}
	committed := 0
	for k := range 12 {
		nodes := []int{1, 2, 3}
		x, e := town.New(api.World{Nodes: nodes, Voters: nodes, Election: 4, Beat: 1, Keep: 5}, 3, 4)
		if e != api.OK {
			t.Fatal(e)
		}
		var l []*clerk
		for i, p := range parts {
			l = append(l, &clerk{begin(t, i+1, p...), i + 1, -1})
		}
		stopped := k % 3 // 0: nobody
		for i := range 700 {
			for _, c := range l {
				if c.client != stopped || i < 60 {
					c.work(t, x)
				}
			}
			x.Do(api.TownStep{Step: mishap(r)})
			if i%20 == 0 {
				x.Heal(3, nodes)
			}
		}
		x.Heal(20, nodes)
		_, table, _ := x.Look(1)
		want := ledger{}
		for i, c := range l {
			done := slices.Contains(table.Pairs, api.Pair{Key: fmt.Sprint("t", c.client), Value: "done", Version: 2})
			_, is := c.Next()
			if state := c.Look().State; c.client != stopped && (is || done != (state == api.Committed)) {
				t.Errorf("P16: town %d: transaction %d: %+v, ended: %v: %s", k, c.client, c.Look(), !is, shows(table.Pairs))
			}
			if done {
				committed++
				for _, q := range parts[i] {
					want[q.Key] += q.Add
				}
			}
		}
		for _, key := range []string{"a", "b", "c"} {
			if n := txn.Number(table.Pairs, key); n != want[key] {
				t.Errorf("serial: town %d: %s is %d; want %d: %s", k, key, n, want[key], shows(table.Pairs))
			}
		}
	}
	if committed < 18 {
		t.Errorf("serial: %d are committed: the test shows too little", committed)
	}
}

// mishap: a step of a world, by chance.
func mishap(r *rand.Rand) api.Step {
	s := api.Step{Node: 1 + r.Intn(3), N: r.Intn(4)}
	switch k := r.Intn(20); {
	case k < 14:
		s.Kind = api.Deliver
	case k < 16:
		s.Kind = api.TickAll
	case k < 17:
		s.Kind = api.DropOne
	case k < 18:
		s.Kind = api.Twice
	case k < 19:
		s.Kind, s.Part = api.Break, r.Intn(30)
	default:
		s.Kind = api.Begin
	}
	return s
}
