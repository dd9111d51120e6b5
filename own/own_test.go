package own_test

import (
	"fmt"
	"testing"

	"quorate/api"
	"quorate/own"
)

// spoil: all lists of a configuration, and their spare room.
func spoil(c api.Config) {
	for _, l := range [][]int{c.Voters, c.Next, c.Learners} {
		l = l[:cap(l)]
		for i := range l {
			l[i] = 88
		}
	}
}

func TestCopies(t *testing.T) {
	all := []int{1, 2, 3, 4, 5}
	c := api.Config{Voters: all[:2], Next: all[1:3], Learners: all[4:]}
	x := api.Snapshot{Index: 7, Term: 3, Config: c, Data: "state"}
	was := fmt.Sprintf("%+v", x)
	if got := own.Config(c); fmt.Sprint(got) != fmt.Sprint(c) {
		t.Errorf("Config(%+v): %+v", c, got)
	}
	if got := fmt.Sprintf("%+v", own.Snapshot(x)); got != was {
		t.Errorf("Snapshot: %s; want %s", got, was)
	}
	spoil(own.Config(c))
	spoil(own.Snapshot(x).Config)
	if fmt.Sprintf("%+v", x) != was || fmt.Sprint(all) != "[1 2 3 4 5]" {
		t.Errorf("copies share memory: %+v, %v", x, all)
	}
}

func TestOfNothing(t *testing.T) {
	if got := own.Config(api.Config{}); fmt.Sprint(got) != fmt.Sprint(api.Config{}) {
		t.Errorf("Config of nothing: %+v", got)
	}
	if got := own.Snapshot(api.Snapshot{}); fmt.Sprint(got) != fmt.Sprint(api.Snapshot{}) {
		t.Errorf("Snapshot of nothing: %+v", got)
	}
}
