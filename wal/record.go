package wal

import (
	"strings"

	"quorate/api"
	"quorate/bound"
	"quorate/wire"
)

// What a record is: its first byte.
const (
	isHard = iota + 1
	isEntry
	isSnapshot
)

// hardNumbers: of a record of a hard state.
const hardNumbers = 3

// record: of what was written as bytes; none of what may not be, since Open would refuse all that is kept for its sake.
func record(what int, body string, may api.Errno) string {
	if may != api.OK {
		return ""
	}
	s, _ := wire.Frame(wire.PutNumbers(what) + body)
	return s
}

func hardRecord(h api.Hard) string {
	if !bound.AreNumbers(h.Term, h.Vote, h.Commit) {
		return ""
	}
	return record(isHard, wire.PutNumbers(h.Term, h.Vote, h.Commit), api.OK)
}

func entryRecords(l []api.Entry) string {
	var records strings.Builder
	for _, e := range l {
		body, may := wire.PutEntry(e)
		records.WriteString(record(isEntry, body, may))
	}
	return records.String()
}

func snapshotRecord(x api.Snapshot) string {
	body, may := wire.PutSnapshot(x)
	return record(isSnapshot, body, may)
}
