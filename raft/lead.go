package raft

import (
	"slices"

	"quorate/api"
	"quorate/config"
	"quorate/own"
	"quorate/rlog"
	"quorate/track"
	"quorate/wire"
)

// reign: what a node has while it leads, and forgets when it does not any more.
type reign struct {
	progress  []api.Progress
	lastRound int       // its number
	rounds    []round   // of each tick of the last election the first that began at it: leases ask for no more
	reads     []waiting // in the order in which they came: their rounds never fall
}

// round: its number, and the tick at which it began.
type round struct {
	number, began int
}

// waiting: a read that may be answered when a round is.
type waiting struct {
	api.Read
	round int
}

// lead: an entry of the new term is added at once: with it all that is ahead of it is committed.
func (n *Node) lead() {
	n.role, n.leader = api.Leader, n.id
	n.beats, n.quiet = 0, 0
	n.reign = reign{progress: track.Begin(n.configuration(), nil, n.id, n.last())}
	n.add(api.Nothing, "")
}

// add: an entry more in a leader's log.
func (n *Node) add(kind int, data string) {
	index := n.last() + 1
	n.log.Entries = append(n.log.Entries, api.Entry{Index: index, Term: n.hard.Term, Kind: kind, Data: data})
	n.news.puts(index)
	if kind == api.Change {
		n.progress = track.Begin(n.configuration(), n.progress, n.id, index)
	}
	if at := n.find(n.id); at >= 0 {
		n.progress[at] = track.Ack(n.progress[at], index)
	}
	if !n.advance() {
		n.sendRound()
	}
}

func (n *Node) addChange(c api.Config) {
	data, _ := wire.PutConfig(c)
	n.add(api.Change, data)
}

// find: where a node's progress stands; below 0, if there is none.
func (n *Node) find(node int) int {
	return slices.IndexFunc(n.progress, func(p api.Progress) bool { return p.Node == node })
}

// advance: what enough have is committed; is anything new? A change that is committed is brought to its end.
func (n *Node) advance() bool {
	c := n.configuration()
	commit := track.Commit(c, n.progress, n.log, n.hard.Term, n.hard.Commit)
	if commit == n.hard.Commit {
		return false
	}
	n.hard.Commit = commit
	if !n.isChanging() && config.Joint(c) {
		after, _ := config.Finish(c)
		n.addChange(after)
		return true
	}
	n.sendRound()
	if !n.isChanging() && !config.Votes(c, n.id) {
		n.follow(n.hard.Term, 0)
	}
	return true
}

// sendRound: to all others.
func (n *Node) sendRound() {
	n.lastRound++
	n.noteRound()
	for i, p := range n.progress {
		if p.Node != n.id {
			n.sendTo(i)
		}
	}
	n.answerReads()
}

func (n *Node) noteRound() {
	n.rounds = slices.DeleteFunc(n.rounds, n.isOld)
	if count := len(n.rounds); count == 0 || n.rounds[count-1].began < n.now {
		n.rounds = append(n.rounds, round{n.lastRound, n.now})
	}
}

// sendTo: what the node whose progress stands there needs next.
func (n *Node) sendTo(at int) {
	p, prev, count, snapshot := track.Plan(n.progress[at], n.log)
	n.progress[at] = p
	if snapshot {
		n.post(api.Message{Kind: api.Install, To: p.Node, Snapshot: own.Snapshot(n.snapshot), Context: n.lastRound})
		return
	}
	term, _ := rlog.TermAt(n.log, prev)
	entries, _ := rlog.Slice(n.log, prev+1, count)
	n.post(api.Message{Kind: api.AppendEntries, To: p.Node, Index: prev, LogTerm: term, Commit: n.hard.Commit, Entries: entries, Context: n.lastRound})
}

// answered: the last round that enough have answered.
func (n *Node) answered() int {
	return track.Round(n.configuration(), n.progress, n.id, n.lastRound)
}

// answerReads: those that waited for a round that enough have answered: it led still when they came.
func (n *Node) answerReads() {
	upTo := n.answered()
	for len(n.reads) > 0 && n.reads[0].round <= upTo {
		n.news.reads = append(n.news.reads, n.reads[0].Read)
		n.reads = n.reads[1:]
	}
}

// hasLease: those that answered a round hear of no other leader for an election from its beginning on. It is not old if it is, or comes behind, one that is not.
func (n *Node) hasLease() bool {
	number := n.answered()
	return slices.ContainsFunc(n.rounds, func(r round) bool { return r.number <= number && !n.isOld(r) })
}

// isOld: did a round begin an election ago, or more?
func (n *Node) isOld(r round) bool {
	return n.now-r.began >= n.election
}
