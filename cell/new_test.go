package cell_test

import (
	"math"
	"strings"
	"testing"

	"quorate/api"
	"quorate/cell"
)

func TestP20_1Begins(t *testing.T) {
	long := strings.Repeat("k", api.MaxKey-1)
	for _, x := range []struct {
		groups, at int
		j          api.Job
		next       string
	}{
		{1, 1, does(t, "get a"), "1: get ca"},
		{4, 1, does(t, "del a"), "1: get ca"},
		{4, 4, does(t, `put a ""`), "4: get ca"},
		{3, 3, does(t, "app a v"), "3: get ca"},
		{3, 2, does(t, "swap a v 0"), "2: get ca"},
		{2, 1, does(t, "swap a v 1099511627775"), "1: get ca"},
		{2, 2, does(t, "put "+long+" "+many(api.MaxText)), "2: get c" + long},
		{2, 2, does(t, "app "+long+" "+many(api.MaxText)), "2: get c" + long},
		{2, 2, does(t, "swap "+long+" "+many(api.MaxText)+" 3"), "2: get c" + long},
		{1, 1, hands("a", 1), "1: get ca"},
		{4, 1, hands("a", 4), "1: get ca"},
		{4, 4, hands(long, 4), "4: get c" + long},
		{4, 3, hands("\xff", 1), `3: get "c\xff"`},
	} {
		j := begin(t, x.groups, x.at, x.j)
		if s := j.Look(); tell(s) != tell(api.JobStatus{State: api.Working, Group: x.at}) {
			t.Errorf("P20.1: New(%d, %d, %+v): %+v", x.groups, x.at, x.j, s)
		}
		is(t, "P20.1: it begins with READ", next(t, j), x.next)
	}
}

func TestP20_1NoGroup(t *testing.T) {
	get := does(t, "get a")
	for _, x := range []struct {
		groups, at int
		j          api.Job
	}{
		{0, 1, get}, {0, 0, get}, {-1, 1, get}, {api.MaxGroups + 1, 1, get}, {math.MaxInt, 1, get}, {math.MinInt, math.MinInt, get},
		{1, 0, get}, {1, 2, get}, {4, 0, get}, {4, 5, get}, {4, -1, get}, {3, 4, get}, {4, math.MaxInt, get}, {4, math.MinInt, get},
		{0, 1, api.Job{}}, {2, 3, api.Job{}}, {2, 3, hands("a", 3)}, // that there is no such group comes first
	} {
		if j, e := cell.New(x.groups, x.at, x.j); j != nil || e != api.ErrBound {
			t.Errorf("P20.1: New(%d, %d, %+v): %v, %d; want ErrBound", x.groups, x.at, x.j, j, e)
		}
	}
}

func TestP20_1NoJob(t *testing.T) {
	long := strings.Repeat("k", api.MaxKey)
	for _, x := range []struct {
		groups int
		j      api.Job
	}{
		{2, api.Job{}},
		{2, api.Job{To: 1}},
		{2, api.Job{Command: api.Command{Kind: api.Get}}},
		{2, api.Job{Command: api.Command{Key: "a"}}},
		{2, api.Job{Command: api.Command{Kind: 7, Key: "a"}}},
		{2, api.Job{Command: api.Command{Kind: -1, Key: "a"}}},
		{2, api.Job{Command: api.Command{Kind: api.Get, Key: "a", Value: "v"}}},
		{2, api.Job{Command: api.Command{Kind: api.Get, Key: "a", If: 1}}},
		{2, api.Job{Command: api.Command{Kind: api.Put, Key: "a", If: 1}}},
		{2, api.Job{Command: api.Command{Kind: api.Swap, Key: "a", If: -1}}},
		{2, api.Job{Command: api.Command{Kind: api.Swap, Key: "a", If: api.MaxNumber + 1}}},
		{2, does(t, "list a 0")},
		{2, does(t, `list "" 0`)},
		{2, api.Job{Command: api.Command{Kind: api.List, Key: "a"}, To: 1}},
		{2, does(t, "get "+long)},
		{2, does(t, "del "+long)},
		{2, does(t, "put "+long+" v")},
		{2, does(t, "app "+long+" v")},
		{2, does(t, "swap "+long+" v 0")},
		{2, hands(long, 1)},
		{2, hands(long+"k", 1)},
		{2, does(t, "put a "+many(api.MaxText+1))},
		{2, does(t, "app a "+many(api.MaxText+1))},
		{2, does(t, "swap a "+many(api.MaxText+1)+" 0")},
		{2, does(t, "put a "+many(api.MaxValue))},
		{2, api.Job{Command: api.Command{Kind: api.Put, Key: "a", Value: many(100000)}}},
		{2, hands("a", -1)},
		{2, hands("a", math.MinInt)},
		{2, hands("a", 3)},
		{1, hands("a", 2)},
		{4, hands("a", 5)},
		{4, hands("a", math.MaxInt)},
		{2, api.Job{Command: does(t, "put a v").Command, To: -1}},
		{2, api.Job{Command: does(t, "put a v").Command, To: 1}},
		{2, api.Job{Command: does(t, "del a").Command, To: 2}},
		{2, api.Job{Command: does(t, "swap a v 0").Command, To: 2}},
		{2, api.Job{Command: does(t, "app a v").Command, To: 1}},
	} {
		if j, e := cell.New(x.groups, 1, x.j); j != nil || e != api.ErrJob {
			t.Errorf("P20.1: New(%d, 1, %+v): %v, %d; want ErrJob", x.groups, x.j, j, e)
		}
	}
}

// Jobs have nothing to do with one another.
func TestP20_1EachOfItsOwn(t *testing.T) {
	x, y := begin(t, 2, 1, does(t, "put a v")), begin(t, 2, 1, does(t, "put a v"))
	play(t, x, turn{"1: get ca", "done 3 \"gone 1 2\"", "working at 2"})
	is(t, "P20.1: the other one", stands(t, y)+", "+next(t, y), "working at 1, 1: get ca")
}
