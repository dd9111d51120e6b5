package raft

import (
	"slices"

	"quorate/api"
	"quorate/bound"
	"quorate/config"
	"quorate/own"
	"quorate/rlog"
	"quorate/wire"
)

// New: a node that begins with what it has kept.
func New(s api.Start) (*Node, api.Errno) {
	if !bound.IsNode(s.ID) || !areTicks(s) || !isLog(s.Log) || !isHard(s.Hard, s.Log) || !isConfig(s) || !isSnapshot(s) {
		return nil, api.ErrStart
	}
	return &Node{
		clock:    clock{timeout: Timeout(s.ID, s.Election), election: s.Election, beat: s.Beat},
		id:       s.ID,
		lease:    s.Lease,
		hard:     s.Hard,
		log:      rlog.Clone(s.Log),
		first:    own.Config(s.Config),
		snapshot: own.Snapshot(s.Snapshot),
		role:     api.Follower,
		applied:  s.Log.Base,
		news:     news{hard: s.Hard},
	}, api.OK
}

func areTicks(s api.Start) bool {
	return 2 <= s.Election && s.Election <= api.MaxTicks && 1 <= s.Beat && s.Beat < s.Election
}

func isLog(l api.Log) bool {
	last, _ := rlog.Last(l)
	return rlog.Valid(l) && last <= api.Far && areConfigs(l.Entries)
}

// areConfigs: is the data of each Change a configuration?
func areConfigs(l []api.Entry) bool {
	return !slices.ContainsFunc(l, func(e api.Entry) bool {
		_, err := wire.GetConfig(e.Data)
		return e.Kind == api.Change && err != api.OK
	})
}

func isHard(h api.Hard, l api.Log) bool {
	last, term := rlog.Last(l)
	if h.Term < term || h.Term > api.Far || h.Commit < l.Base || h.Commit > last {
		return false
	}
	return h.Vote == 0 || bound.IsNode(h.Vote) && h.Term > 0
}

// isConfig: who waits to be taken in has none, and nothing that was committed ahead of its log.
func isConfig(s api.Start) bool {
	return config.Valid(s.Config) || isEmpty(s.Config) && s.Log.Base == 0
}

// isSnapshot: is it that of the log's base? Of a base 0 there is none.
func isSnapshot(s api.Start) bool {
	x := s.Snapshot
	if s.Log.Base == 0 {
		return x.Index == 0
	}
	return x.Index == s.Log.Base && x.Term == s.Log.BaseTerm && config.Same(x.Config, s.Config) && len(x.Data) <= api.MaxState
}
