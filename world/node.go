package world

import (
	"slices"

	"quorate/api"
	"quorate/host"
)

// node: of a world, with its files.
type node struct {
	setup api.Setup
	files []api.File
	host  *host.Host // nil: it is down
	flaw  *flaw      // nil: its next event ends well
}

// flaw: an event ends behind so many acts, with so many of the last one's bytes.
type flaw struct {
	acts, bytes int
}

// begin: a node that is down, from its files.
func (w *World) begin(n *node) api.Event {
	h, out, e := host.New(n.setup, n.files)
	if e != api.OK {
		return api.Event{Node: n.setup.ID, Err: e}
	}
	n.host = h
	return w.happen(n, out)
}

// happen: what an event of a node wants done, is done, unless the event breaks.
func (w *World) happen(n *node, out api.Out) api.Event {
	f := n.flaw
	n.flaw = nil
	if f != nil && len(out.Acts) > f.acts {
		acts := slices.Clone(out.Acts[:f.acts])
		n.crash(acts, f.bytes)
		return api.Event{Node: n.setup.ID, Acts: acts}
	}
	for _, a := range out.Acts {
		n.files = Act(n.files, a)
	}
	w.way = append(w.way, out.Sends...)
	for _, a := range out.Answers {
		w.answer(a)
	}
	return api.Event{Node: n.setup.ID, Acts: out.Acts, Sends: out.Sends, Answers: out.Answers}
}

// crash: a node goes down behind some acts: what is safe of them is there, and of bytes that were just put behind a file's the first ones.
func (n *node) crash(acts []api.Act, bytes int) {
	n.host = nil
	for _, a := range acts[:safe(acts)] {
		n.files = Act(n.files, a)
	}
	if len(acts) == 0 {
		return
	}
	if a := acts[len(acts)-1]; a.What == api.AppendFile {
		a.Data = a.Data[:min(bytes, len(a.Data))]
		n.files = Act(n.files, a)
	}
}

// safe: how many of these acts nothing undoes any more.
func safe(acts []api.Act) int {
	for i, a := range slices.Backward(acts) {
		if a.What == api.SyncDir || a.What == api.SyncFile && a.Name == "log" {
			return i + 1
		}
	}
	return 0
}
