package wal

import (
	"slices"

	"quorate/api"
	"quorate/config"
	"quorate/own"
	"quorate/rlog"
	"quorate/wire"
)

// Open: what files say, beside a first configuration; and the acts that put them in order: a file that was written aside goes, and what stands behind the last whole record.
func Open(files []api.File, first api.Config) (api.Kept, []api.Act, api.Errno) {
	if !areNamed(files) {
		return api.Kept{}, nil, api.ErrFiles
	}
	log := dataOf(files, logName)
	k, end, fits := readRecords(log, first)
	if !fits || !mayStand(k.Config) {
		return api.Kept{}, nil, api.ErrFiles
	}
	said := k.Hard
	k.Hard = putRight(said, k.Log)
	var acts []api.Act
	if place(files, newName) >= 0 {
		acts = append(acts, api.Act{What: api.RemoveFile, Name: newName})
	}
	if end < len(log) {
		acts = append(acts, api.Act{What: api.Cut, Name: logName, Size: end}, api.Act{What: api.SyncFile, Name: logName})
	}
	if k.Hard != said {
		acts = append(acts, put(hardRecord(k.Hard))...)
	}
	return k, acts, api.OK
}

// areNamed: are files those of a node, none twice?
func areNamed(files []api.File) bool {
	for i, f := range files {
		if f.Name != logName && f.Name != newName || place(files, f.Name) != i {
			return false
		}
	}
	return true
}

// place: where the first file of a name stands; below 0: there is none.
func place(files []api.File, name string) int {
	return slices.IndexFunc(files, func(f api.File) bool { return f.Name == name })
}

// dataOf: a file's bytes; one that is not there has none.
func dataOf(files []api.File, name string) string {
	if i := place(files, name); i >= 0 {
		return files[i].Data
	}
	return ""
}

// mayStand: a node that waits to be taken in has no configuration.
func mayStand(c api.Config) bool {
	return config.Valid(c) || config.Same(c, api.Config{})
}

// putRight: a hard state, by the log that stands beside it. A term that was not said, since the writing ended ahead of it, has had no vote.
func putRight(h api.Hard, l api.Log) api.Hard {
	last, term := rlog.Last(l)
	if term > h.Term {
		h.Term, h.Vote = term, 0
	}
	h.Commit = max(min(h.Commit, last), l.Base)
	return h
}

// readRecords: what records say, and how many bytes they have, up to the first that is not whole; false, if one is none, or does not fit.
func readRecords(log string, first api.Config) (k api.Kept, end int, fits bool) {
	k.Config = own.Config(first)
	left := log
	for {
		body, rest, e := wire.Unframe(left)
		if e != api.OK {
			return k, len(log) - len(left), true
		}
		if !take(&k, body) {
			return k, 0, false
		}
		left = rest
	}
}

// take: what one record says is kept from there on; false, if it is none, or does not fit.
func take(k *api.Kept, body string) bool {
	if body == "" {
		return false
	}
	switch fields := body[1:]; body[0] {
	case isHard:
		return takeHard(k, fields)
	case isEntry:
		return takeEntry(k, fields)
	case isSnapshot:
		return takeSnapshot(k, fields)
	}
	return false
}

func takeHard(k *api.Kept, fields string) bool {
	l, e := wire.GetNumbers(fields, hardNumbers)
	if e != api.OK {
		return false
	}
	h := api.Hard{Term: l[0], Vote: l[1], Commit: l[2]}
	if h.Term < k.Hard.Term || h.Vote > api.MaxNode {
		return false
	}
	k.Hard = h
	return true
}

// takeEntry: by its index alone it takes the place of what stands there and behind it, since a log is written on and never in its middle.
func takeEntry(k *api.Kept, fields string) bool {
	e, may := wire.GetEntry(fields)
	if may != api.OK {
		return false
	}
	ahead := e.Index - 1
	term, there := rlog.TermAt(k.Log, ahead)
	if there != api.OK || e.Term < term {
		return false
	}
	k.Log.Entries = append(k.Log.Entries[:ahead-k.Log.Base], e)
	return true
}

func takeSnapshot(k *api.Kept, fields string) bool {
	x, may := wire.GetSnapshot(fields)
	if may != api.OK {
		return false
	}
	k.Snapshot, k.Config = x, own.Config(x.Config)
	k.Log = api.Log{Base: x.Index, BaseTerm: x.Term}
	return true
}
