package wire

import (
	"quorate/api"
	"quorate/bound"
)

// IsPairs: may pairs be?
func IsPairs(l []api.Pair) bool {
	if len(l) > api.MaxPairs {
		return false
	}
	for i, p := range l {
		if p.Key == "" || len(p.Key) > api.MaxKey || len(p.Value) > api.MaxValue || !bound.AreCounts(p.Version) {
			return false
		}
		if i > 0 && l[i-1].Key >= p.Key {
			return false
		}
	}
	return true
}

// IsResult: may a result be (of a session without requests: the empty one)?
func IsResult(r api.Result) bool {
	return 0 <= r.Kind && r.Kind <= api.Lost && len(r.Value) <= api.MaxValue && bound.AreNumbers(r.Version) && areKeys(r.Keys)
}

// areKeys: may these be a result's keys?
func areKeys(l []string) bool {
	if len(l) > api.MaxPairs {
		return false
	}
	for i, k := range l {
		if len(k) > api.MaxKey || i > 0 && l[i-1] >= k {
			return false
		}
	}
	return true
}

// IsTable: may a table be?
func IsTable(t api.Table) bool {
	if !bound.AreNumbers(t.Time) || !IsPairs(t.Pairs) || len(t.Sessions) > api.MaxSessions {
		return false
	}
	for i, s := range t.Sessions {
		if !bound.AreCounts(s.Client) || !bound.AreNumbers(s.Last, s.Seen) || s.Seen > t.Time || !IsResult(s.Answer) {
			return false
		}
		if i > 0 && t.Sessions[i-1].Client >= s.Client {
			return false
		}
	}
	return true
}

// PutTable: as bytes.
func PutTable(t api.Table) (string, api.Errno) {
	return write(t, IsTable(t), api.ErrEntry, (*writer).table)
}

// GetTable: of bytes.
func GetTable(s string) (api.Table, api.Errno) {
	return read(s, (*reader).table)
}

func (w *writer) table(t api.Table) {
	w.number(t.Time)
	putList(w, t.Pairs, (*writer).pair)
	putList(w, t.Sessions, (*writer).session)
}

func (w *writer) pair(p api.Pair) {
	w.text(p.Key)
	w.text(p.Value)
	w.number(p.Version)
}

func (w *writer) session(s api.Session) {
	w.numbers(s.Client, s.Last, s.Seen)
	w.result(s.Answer)
}

func (w *writer) result(x api.Result) {
	w.number(x.Kind)
	w.text(x.Value)
	w.number(x.Version)
	putList(w, x.Keys, (*writer).text)
}

func (r *reader) table() api.Table {
	t := api.Table{
		Time:     r.number(),
		Pairs:    list(r, api.MaxPairs, (*reader).pair),
		Sessions: list(r, api.MaxSessions, (*reader).session),
	}
	must(IsTable(t), api.ErrEntry)
	return t
}

func (r *reader) pair() api.Pair {
	return api.Pair{Key: r.key(), Value: r.text(api.MaxValue), Version: r.number()}
}

// session: its answer stands last on the wire.
func (r *reader) session() api.Session {
	return api.Session{Client: r.number(), Last: r.number(), Seen: r.number(), Answer: r.result()}
}

func (r *reader) result() api.Result {
	return api.Result{
		Kind:    r.number(),
		Value:   r.text(api.MaxValue),
		Version: r.number(),
		Keys:    list(r, api.MaxPairs, (*reader).key),
	}
}
