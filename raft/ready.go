package raft

import (
	"quorate/api"
	"quorate/own"
	"quorate/rlog"
)

// news: what came about since it was told last.
type news struct {
	hard     api.Hard // as it was told last
	first    int      // the least index of the log that is new (0: none is)
	snapshot api.Snapshot
	messages []api.Message
	reads    []api.Read
	refused  []int
}

// puts: the log is new from an index on (0: it is not).
func (w *news) puts(first int) {
	if w.first == 0 || 0 < first && first < w.first {
		w.first = first
	}
}

// installs: a snapshot took the place of the log, and of what was new in it.
func (w *news) installs(x api.Snapshot) {
	w.snapshot, w.first = own.Snapshot(x), 0
}

// post: a message; of most the term is the hard state's.
func (n *Node) post(m api.Message) {
	m.From = n.id
	if m.Term == 0 {
		m.Term = n.hard.Term
	}
	n.news.messages = append(n.news.messages, m)
}

// Ready: what is to be done; it is told once.
func (n *Node) Ready() api.Ready {
	w := n.news
	r := api.Ready{Hard: n.hard, Kept: n.hard != w.hard, Snapshot: w.snapshot, Messages: w.messages, Reads: w.reads, Refused: w.refused}
	if w.first > 0 {
		r.Entries, _ = rlog.Slice(n.log, w.first, len(n.log.Entries))
	}
	r.Committed, _ = rlog.Slice(n.log, n.applied+1, n.hard.Commit-n.applied)
	n.applied = n.hard.Commit
	n.news = news{hard: n.hard}
	return r
}
