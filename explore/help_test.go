package explore_test

import (
	"fmt"
	"slices"
	"strings"
	"testing"

	"quorate/api"
	"quorate/explore"
)

// The rules that a small world leaves out.
const (
	anyLog = 1 << iota
	anyTerm
	forgets
)

// small: a world of so many nodes, terms and entries, without some rules.
func small(nodes, terms, entries, without int) api.Small {
	return api.Small{Nodes: nodes, Terms: terms, Entries: entries, AnyLog: without&anyLog != 0, AnyTerm: without&anyTerm != 0, Forgets: without&forgets != 0}
}

// words: for the kinds of moves, by their numbers.
func words() []string {
	return []string{"", "stand", "give", "win", "write", "copy", "count", "tell", "restart"}
}

// script: moves, each a word with its nodes: "stand1 give12".
func script(text string) (l []api.Move) {
	for _, f := range strings.Fields(text) {
		word := strings.TrimRight(f, "123")
		m := api.Move{Kind: slices.Index(words(), word)}
		nodes := f[len(word):]
		m.Node = int(nodes[0] - '0')
		if len(nodes) == 2 {
			m.Other = int(nodes[1] - '0')
		}
		l = append(l, m)
	}
	return l
}

// tell: moves, as script reads them.
func tell(l []api.Move) string {
	var out []string
	for _, m := range l {
		f := fmt.Sprint(words()[m.Kind], m.Node)
		if m.Other != 0 {
			f += fmt.Sprint(m.Other)
		}
		out = append(out, f)
	}
	return strings.Join(out, " ")
}

// behind: a world with moves that are done first.
func behind(w api.Small, text string) api.Small {
	w.First = script(text)
	return w
}

// all: moves of any kind and of any nodes, some of which are none, in order.
func all() (l []api.Move) {
	for kind := -1; kind <= 10; kind++ {
		for node := -1; node <= 5; node++ {
			for other := -1; other <= 5; other++ {
				l = append(l, api.Move{Kind: kind, Node: node, Other: other})
			}
		}
	}
	return l
}

// can: which moves can be done behind those of a world, and break nothing.
func can(w api.Small) (l []api.Move) {
	first := slices.Clone(w.First)
	for _, m := range all() {
		w.First = append(first[:len(first):len(first)], m)
		if _, e := explore.Explore(w); e != api.ErrSmall {
			l = append(l, m)
		}
	}
	return l
}

// found: what Explore answers, briefly.
func found(w api.Small) string {
	f, e := explore.Explore(w)
	if e != api.OK {
		return fmt.Sprint("error ", int(e), " ", f)
	}
	return strings.TrimSpace(fmt.Sprint(f.States, " ", f.Depth, " ", f.Broken, " ", tell(f.Moves)))
}

// finds: Explore answers so.
func finds(t *testing.T, promise string, w api.Small, want string) {
	t.Helper()
	if got := found(w); got != want {
		t.Errorf("%s: %+v: %s; want %s", promise, w, got, want)
	}
}

// What found tells of an error.
const (
	noSmall  = "error 20 {0 0 0 []}"
	tooGreat = "error 4 {0 0 0 []}"
)
