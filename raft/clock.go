package raft

// clock: counts ticks, and says when something is due.
type clock struct {
	timeout, election, beat int
	now                     int // since the node began
	elapsed                 int // since it heard of a leader, voted or stood
	beats                   int // since a leader's last beat
	quiet                   int // since a leader last looked who is active
}

// Timeout: after how many ticks without a leader a node elects: no two nodes have the same.
func Timeout(id, election int) int {
	return election + (id-1)*max(election/4, 1)
}

// isLate: a tick goes by without a leader: is it time to elect?
func (c *clock) isLate() bool {
	c.elapsed++
	return c.elapsed >= c.timeout
}

// isBeat: a tick goes by: is it time for a round?
func (c *clock) isBeat() bool {
	return comesRound(&c.beats, c.beat)
}

// isElection: a tick goes by: was it an election since a leader looked who is active?
func (c *clock) isElection() bool {
	return comesRound(&c.quiet, c.election)
}

// comesRound: a counter goes on; at its limit it begins anew.
func comesRound(counter *int, limit int) bool {
	*counter++
	if *counter < limit {
		return false
	}
	*counter = 0
	return true
}

// heardOfLate: was it less than an election since it heard of a leader?
func (c *clock) heardOfLate() bool {
	return c.elapsed < c.election
}

// isYoung: was it less than an election since the node began? What it promised a leader ahead of that it does not know.
func (c *clock) isYoung() bool {
	return c.now < c.election
}
