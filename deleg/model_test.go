package deleg_test

import (
	"fmt"
	"math/rand"
	"slices"
	"testing"

	"quorate/api"
	"quorate/deleg"
)

// model: a second telling of a delegation: the host of each of some keys, which rise. Between two of them nothing changes.
type model struct {
	keys  []string
	hosts []int
}

// list: as few bounds as can be.
func (m model) list() (l []api.Bound) {
	for i, key := range m.keys {
		if i == 0 || m.hosts[i] != m.hosts[i-1] {
			l = append(l, api.Bound{From: key, Host: m.hosts[i]})
		}
	}
	return l
}

// at: the host of any key: that of the last of the model's that is not behind it.
func (m model) at(key string) (host int) {
	for i := range m.keys {
		if m.keys[i] <= key {
			host = m.hosts[i]
		}
	}
	return host
}

// within: the places of the keys of a range.
func (m model) within(from, upto string) (l []int) {
	for i, key := range m.keys {
		if key >= from && (key < upto || upto == "") {
			l = append(l, i)
		}
	}
	return l
}

func (m model) set(from, upto string, host int) model {
	out := model{keys: m.keys, hosts: slices.Clone(m.hosts)}
	for _, i := range m.within(from, upto) {
		out.hosts[i] = host
	}
	return out
}

func (m model) has(from, upto string, host int) bool {
	l := m.within(from, upto)
	for _, i := range l {
		if m.hosts[i] != host {
			return false
		}
	}
	return len(l) > 0
}

// check: a delegation is what the model says.
func (m model) check(t *testing.T, what string, l []api.Bound) {
	t.Helper()
	if want := m.list(); !slices.Equal(l, want) || !deleg.Valid(l) {
		t.Fatalf("P17.2: %s: %s, Valid %v; want %s", what, tell(l), deleg.Valid(l), tell(want))
	}
	for _, key := range m.keys {
		for _, behind := range []string{"", "\x00", "\x00\x00\x00", "\xff"} {
			if got, want := deleg.At(l, key+behind), m.at(key+behind); got != want {
				t.Fatalf("P17.2: %s: %s: %q is %d's; want %d", what, tell(l), key+behind, got, want)
			}
		}
	}
}

// everyDelegation: of some keys and three hosts.
func everyDelegation(keys []string) (l []model) {
	l = []model{{keys: keys}}
	for range keys {
		var next []model
		for _, m := range l {
			for host := 1; host <= 3; host++ {
				next = append(next, model{keys: keys, hosts: append(slices.Clone(m.hosts), host)})
			}
		}
		l = next
	}
	return l
}

func TestP17_2EveryRange(t *testing.T) {
	keys := []string{"", "a", "aa", "b", "c"}
	for _, m := range everyDelegation(keys) {
		l := m.list()
		m.check(t, "as it is", l)
		for _, from := range keys {
			for _, upto := range keys {
				for host := 1; host <= 3; host++ {
					what := fmt.Sprintf("%s, from %q up to %q, %d", tell(l), from, upto, host)
					m.set(from, upto, host).check(t, what, deleg.Set(l, from, upto, host))
					if got, want := deleg.Has(l, from, upto, host), m.has(from, upto, host); got != want {
						t.Fatalf("P17.2: Has: %s: %v", what, got)
					}
				}
			}
		}
	}
}

// someKeys: so many, of few bytes, that rise; the first is the empty text.
func someKeys(r *rand.Rand, n int) []string {
	l := []string{""}
	for range n {
		s := make([]byte, 1+r.Intn(api.MaxKey))
		for i := range s {
			s[i] = "\x00\x01ab\x7f\x80\xff"[r.Intn(7)]
		}
		l = append(l, string(s))
	}
	slices.Sort(l)
	return slices.Compact(l)
}

// One range behind the other, of all hosts.
func TestP17_2ChanceRanges(t *testing.T) {
	r := rand.New(rand.NewSource(17))
	most := 0
	for range 60 {
		m := model{keys: someKeys(r, 30)}
		host := 1 + r.Intn(api.MaxNode)
		for range m.keys {
			m.hosts = append(m.hosts, host)
		}
		l := deleg.New(host)
		for range 80 {
			from, upto := r.Intn(len(m.keys)), r.Intn(len(m.keys))
			if r.Intn(2) > 0 {
				upto = (from + 1 + r.Intn(4)) % len(m.keys)
			}
			a, b, host := m.keys[from], m.keys[upto], 1+r.Intn(api.MaxNode)
			if got, want := deleg.Has(l, a, b, host), m.has(a, b, host); got != want {
				t.Fatalf("P17.2: Has: %s, from %q up to %q, %d: %v", tell(l), a, b, host, got)
			}
			what := fmt.Sprintf("%s, from %q up to %q, %d", tell(l), a, b, host)
			l, m = deleg.Set(l, a, b, host), m.set(a, b, host)
			m.check(t, what, l)
			if !deleg.Has(l, a, b, host) && (a < b || b == "") {
				t.Fatalf("P17.2: Has: behind Set: %s", what)
			}
			most = max(most, len(l))
		}
	}
	if most < 15 {
		t.Errorf("P17.2: the longest had %d bounds", most)
	}
}

// mayBe: a second telling of Valid, fault by fault.
func mayBe(l []api.Bound) bool {
	if len(l) < 1 || len(l[0].From) > 0 {
		return false
	}
	faults := 0
	for i := range l {
		if l[i].Host < 1 || l[i].Host > 9 || len(l[i].From) > 16 {
			faults++
		}
		if i+1 < len(l) && (l[i].Host == l[i+1].Host || l[i+1].From <= l[i].From) {
			faults++
		}
	}
	return faults == 0
}

func TestP17_1EveryShortList(t *testing.T) {
	var all []api.Bound
	for _, from := range []string{"", "a", "b", many(16), many(17)} {
		for _, host := range []int{0, 1, 2, 9, 10} {
			all = append(all, b(from, host))
		}
	}
	good := 0
	look := func(l []api.Bound) {
		want := mayBe(l)
		if deleg.Valid(l) != want {
			t.Fatalf("P17.1: Valid(%s) is not %v", tell(l), want)
		}
		if want {
			good++
		}
	}
	for _, x := range all {
		look(bounds(x))
		for _, y := range all {
			look(bounds(x, y))
			for _, z := range all {
				look(bounds(x, y, z))
			}
		}
	}
	if good != 3+3*2*3+3*2*2*3 { // one; two, of three keys behind the first; three, of three pairs of keys behind it
		t.Errorf("P17.1: %d lists may be", good)
	}
}
