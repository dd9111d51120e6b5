package grid

import (
	"slices"

	"quorate/api"
	"quorate/cell"
	"quorate/town"
)

// worker: who does one job behind the other; in each group the client of its number wants for it what the job asks there.
type worker struct {
	number int
	job    *cell.Job  // nil: it has none
	work   int        // the job's place, among all that were begun
	asked  *town.Town // the group of which it waits for a result; nil: it waits for nothing
}

// goOn: all workers, each by one command at most.
func (g *Grid) goOn() {
	for i := range g.workers {
		x := &g.workers[i]
		g.hear(x)
		g.ask(x)
	}
}

// hear: a worker of the result that it waits for, if there is one; so its job may come to its end.
func (g *Grid) hear(x *worker) {
	r, is := x.result()
	if !is {
		return
	}
	x.asked = nil
	x.job.Answer(r)
	w := &g.works[x.work]
	w.Status = x.job.Look()
	if w.Status.State != api.Working {
		w.To, x.job = g.steps, nil
	}
}

// result: of what a worker waits for; false: there is none yet.
func (x *worker) result() (api.Result, bool) {
	if x.asked == nil {
		return api.Result{}, false
	}
	// Wants tells all that was ever wanted, so it is asked only once there is something new in it.
	if s, _ := x.asked.Client(x.number); s.Busy {
		return api.Result{}, false
	}
	for _, c := range slices.Backward(x.asked.Wants()) {
		if c.Client == x.number {
			return c.Result, true
		}
	}
	return api.Result{}, false
}

// ask: what the job of a worker, which waits for nothing, has to be done next. A cell that a stranger wrote may name a group that is not there; then nobody can do it, and the job stays as it is.
func (g *Grid) ask(x *worker) {
	if x.job == nil || x.asked != nil {
		return
	}
	group, c, _ := x.job.Next()
	t := g.find(group)
	if t != nil && t.Do(api.TownStep{Want: true, Client: x.number, Command: c}) == api.OK {
		x.asked = t
	}
}
