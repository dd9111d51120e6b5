package history_test

import (
	"fmt"
	"testing"

	"quorate/api"
	"quorate/history"
)

func put(key, value string) api.Command {
	return api.Command{Kind: api.Put, Key: key, Value: value}
}

func get(key string) api.Command {
	return api.Command{Kind: api.Get, Key: key}
}

func drop(key string) api.Command {
	return api.Command{Kind: api.Delete, Key: key}
}

func swap(key, value string, version int) api.Command {
	return api.Command{Kind: api.Swap, Key: key, Value: value, If: version}
}

func add(key, value string) api.Command {
	return api.Command{Kind: api.Append, Key: key, Value: value}
}

func list(start string, most int) api.Command {
	return api.Command{Kind: api.List, Key: start, If: most}
}

// did: a result that is Done, with a version.
func did(version int) api.Result {
	return api.Result{Kind: api.Done, Version: version}
}

// has: a result that is Done, with a value and its version.
func has(value string, version int) api.Result {
	return api.Result{Kind: api.Done, Value: value, Version: version}
}

// keys: a result that is Done, with these keys.
func keys(l ...string) api.Result {
	return api.Result{Kind: api.Done, Keys: l}
}

// unequal: a result of a Swap of another version.
func unequal(value string, version int) api.Result {
	return api.Result{Kind: api.Unequal, Value: value, Version: version}
}

func missing() api.Result {
	return api.Result{Kind: api.Missing}
}

func full() api.Result {
	return api.Result{Kind: api.Full}
}

// call: one that was answered.
func call(from, to int, c api.Command, r api.Result) api.Call {
	return api.Call{From: from, To: to, Command: c, Result: r}
}

// lost: a call that was not answered.
func lost(from int, c api.Command) api.Call {
	return api.Call{From: from, Command: c}
}

// many: so many calls of a kind.
func many(count int, c api.Call) (l []api.Call) {
	for range count {
		l = append(l, c)
	}
	return l
}

// found: what Check answers, briefly.
func found(l []api.Call) string {
	order, ok, e := history.Check(l)
	switch {
	case e != api.OK:
		return fmt.Sprint("error ", int(e), " ", order, ok)
	case !ok:
		return fmt.Sprint("none ", order)
	}
	return fmt.Sprint(order)
}

// none: what found tells of calls without an order.
const none = "none []"

// finds: Check answers so, and Valid says that these are a history.
func finds(t *testing.T, name string, l []api.Call, want string) {
	t.Helper()
	if !history.Valid(l) {
		t.Errorf("P11.1: %s: not Valid(%+v)", name, l)
	}
	if got := found(l); got != want {
		t.Errorf("P11.2: %s: %+v: %s; want %s", name, l, got, want)
	}
}
