package wire

import (
	"quorate/api"
	"quorate/bound"
	"quorate/config"
)

// IsMessage: may a message be?
func IsMessage(m api.Message) bool {
	if !bound.IsNode(m.From) || !bound.IsNode(m.To) || m.From == m.To {
		return false
	}
	if !bound.AreNumbers(m.Term, m.Index, m.LogTerm, m.Commit, m.Hint, m.Context) {
		return false
	}
	// Who only thinks of standing may be refused by one that has heard of no term yet.
	if m.Term == 0 && (m.Kind != api.PreVoteReply || !m.Reject) {
		return false
	}
	return isBare(strip(m)) && fits(m)
}

// strip: a message without the fields that its kind has.
func strip(m api.Message) api.Message {
	switch m.Kind {
	case api.AppendEntries:
		m.Commit, m.Context, m.Entries = 0, 0, nil
		fallthrough
	case api.PreVote, api.Vote:
		m.Index, m.LogTerm = 0, 0
	case api.AppendReply:
		m.Index, m.Hint, m.Context = 0, 0, 0
		fallthrough
	case api.PreVoteReply, api.VoteReply:
		m.Reject = false
	case api.Install:
		m.Context, m.Snapshot = 0, api.Snapshot{}
	}
	return m
}

// isBare: are all fields zero, beside those that each kind has?
func isBare(m api.Message) bool {
	x := m.Snapshot
	return m.Index == 0 && m.LogTerm == 0 && m.Commit == 0 && len(m.Entries) == 0 &&
		!m.Reject && m.Hint == 0 && m.Context == 0 &&
		x.Index == 0 && x.Term == 0 && config.Same(x.Config, api.Config{}) && x.Data == ""
}

// fits: does what a message's kind has go together?
func fits(m api.Message) bool {
	switch m.Kind {
	case api.AppendEntries:
		if m.LogTerm > m.Term || !follow(m) {
			return false
		}
		fallthrough
	case api.PreVote, api.Vote:
		return (m.Index == 0) == (m.LogTerm == 0)
	case api.Install:
		return isSnapshot(m.Snapshot) && m.Snapshot.Term <= m.Term
	case api.PreVoteReply, api.VoteReply, api.AppendReply:
		return true
	}
	return false
}

// follow: could a message's entries stand behind its Index and LogTerm, in a log of its Term?
func follow(m api.Message) bool {
	if len(m.Entries) > api.MaxEntries {
		return false
	}
	index, term := m.Index, m.LogTerm
	for _, e := range m.Entries {
		index++
		if !IsEntry(e) || e.Index != index || e.Term < term || e.Term > m.Term {
			return false
		}
		term = e.Term
	}
	return true
}

// PutMessage: as bytes.
func PutMessage(m api.Message) (string, api.Errno) {
	return write(m, IsMessage(m), api.ErrMessage, (*writer).message)
}

// GetMessage: of bytes.
func GetMessage(s string) (api.Message, api.Errno) {
	return read(s, (*reader).message)
}

func (w *writer) message(m api.Message) {
	w.numbers(m.Kind, m.From, m.To, m.Term)
	switch m.Kind {
	case api.PreVote, api.Vote:
		w.numbers(m.Index, m.LogTerm)
	case api.PreVoteReply, api.VoteReply:
		w.flag(m.Reject)
	case api.AppendEntries:
		w.numbers(m.Index, m.LogTerm, m.Commit, m.Context)
		putList(w, m.Entries, (*writer).entry)
	case api.AppendReply:
		w.number(m.Index)
		w.flag(m.Reject)
		w.numbers(m.Hint, m.Context)
	case api.Install:
		w.number(m.Context)
		w.snapshot(m.Snapshot)
	}
}

func (r *reader) message() api.Message {
	m := api.Message{Kind: r.number(), From: r.number(), To: r.number(), Term: r.number()}
	switch m.Kind {
	case api.PreVote, api.Vote:
		m.Index, m.LogTerm = r.number(), r.number()
	case api.PreVoteReply, api.VoteReply:
		m.Reject = r.flag()
	case api.AppendEntries:
		m.Index, m.LogTerm, m.Commit, m.Context = r.number(), r.number(), r.number(), r.number()
		m.Entries = list(r, api.MaxEntries, (*reader).entry)
	case api.AppendReply:
		m.Index, m.Reject, m.Hint, m.Context = r.number(), r.flag(), r.number(), r.number()
	case api.Install:
		m.Context, m.Snapshot = r.number(), r.snapshot()
	}
	must(IsMessage(m), api.ErrMessage)
	return m
}
