package rlog

import "quorate/api"

// Extend: entries put behind an index of a term: those that are there stay, up to the first that is another; what it comes to, the index up to which both are the same, the first index that is new (0: none); or, where the index has another term, a hint.
func Extend(l api.Log, prev, term int, entries []api.Entry) (out api.Log, match, first, look int) {
	out = Clone(l)
	for prev < l.Base && len(entries) > 0 {
		prev, term, entries = entries[0].Index, entries[0].Term, entries[1:]
	}
	if prev < l.Base {
		return out, prev, 0, 0
	}
	if has, e := TermAt(l, prev); e != api.OK || has != term {
		return out, 0, 0, lookFor(l, prev)
	}
	kept := prev - l.Base
	same := countSame(l.Entries[kept:], entries)
	if same < len(entries) {
		out.Entries = append(out.Entries[:kept+same], entries[same:]...)
		first = prev + same + 1
	}
	return out, prev + len(entries), first, 0
}

// countSame: how many entries, from the first on, are there already? An index and a term make an entry what it is.
func countSame(have, entries []api.Entry) int {
	count := 0
	for count < min(len(have), len(entries)) && have[count].Term == entries[count].Term {
		count++
	}
	return count
}

// lookFor: where a leader looks next, whose log has another entry at prev: a whole term is left out at once, since all of it may be another's. The base is no entry: it is committed, and no leader has another.
func lookFor(l api.Log, prev int) int {
	last, _ := Last(l)
	if prev > last {
		return last + 1
	}
	places := prev - l.Base
	term := termBehind(l, places)
	for places > 1 && termBehind(l, places-1) == term {
		places--
	}
	return l.Base + places
}
