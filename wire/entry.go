package wire

import (
	"quorate/api"
	"quorate/bound"
	"quorate/config"
)

// IsEntry: may an entry be?
func IsEntry(e api.Entry) bool {
	if !bound.AreCounts(e.Index, e.Term) {
		return false
	}
	switch e.Kind {
	case api.Nothing:
		return e.Data == ""
	case api.Ask, api.Change:
		return len(e.Data) <= api.MaxData
	}
	return false
}

// PutEntry: as bytes.
func PutEntry(e api.Entry) (string, api.Errno) {
	return write(e, IsEntry(e), api.ErrEntry, (*writer).entry)
}

// GetEntry: of bytes.
func GetEntry(s string) (api.Entry, api.Errno) {
	return read(s, (*reader).entry)
}

// PutConfig: as bytes.
func PutConfig(c api.Config) (string, api.Errno) {
	return write(c, config.Valid(c), api.ErrConfig, (*writer).config)
}

// GetConfig: of bytes.
func GetConfig(s string) (api.Config, api.Errno) {
	return read(s, (*reader).config)
}

// isSnapshot: may a snapshot be?
func isSnapshot(x api.Snapshot) bool {
	return bound.AreCounts(x.Index, x.Term) && config.Valid(x.Config) && len(x.Data) <= api.MaxState
}

// PutSnapshot: as bytes.
func PutSnapshot(x api.Snapshot) (string, api.Errno) {
	return write(x, isSnapshot(x), api.ErrEntry, (*writer).snapshot)
}

// GetSnapshot: of bytes.
func GetSnapshot(s string) (api.Snapshot, api.Errno) {
	return read(s, (*reader).wholeSnapshot)
}

func (w *writer) entry(e api.Entry) {
	w.numbers(e.Index, e.Term, e.Kind)
	w.text(e.Data)
}

func (w *writer) config(c api.Config) {
	putList(w, c.Voters, (*writer).number)
	putList(w, c.Next, (*writer).number)
	putList(w, c.Learners, (*writer).number)
}

func (w *writer) snapshot(x api.Snapshot) {
	w.numbers(x.Index, x.Term)
	w.config(x.Config)
	w.text(x.Data)
}

func (r *reader) entry() api.Entry {
	e := api.Entry{Index: r.number(), Term: r.number(), Kind: r.number(), Data: r.text(api.MaxData)}
	must(IsEntry(e), api.ErrEntry)
	return e
}

func (r *reader) nodes() []int {
	return list(r, api.MaxNode, (*reader).number)
}

func (r *reader) config() api.Config {
	c := api.Config{Voters: r.nodes(), Next: r.nodes(), Learners: r.nodes()}
	must(config.Valid(c), api.ErrConfig)
	return c
}

// snapshot: just its configuration is judged here, since within a message the rest is the message's fault.
func (r *reader) snapshot() api.Snapshot {
	return api.Snapshot{Index: r.number(), Term: r.number(), Config: r.config(), Data: r.text(api.MaxState)}
}

func (r *reader) wholeSnapshot() api.Snapshot {
	x := r.snapshot()
	must(isSnapshot(x), api.ErrEntry)
	return x
}
