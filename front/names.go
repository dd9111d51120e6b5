package front

import "quorate/api"

// verbs: the words that commands begin with, by their kinds.
var verbs = [...]string{api.Put: "put", api.Get: "get", api.Delete: "del", api.Swap: "swap", api.Append: "app", api.List: "list"}

// outcomes: the words that results begin with, by their kinds.
var outcomes = [...]string{0: "none", api.Done: "done", api.Missing: "missing", api.Unequal: "unequal", api.Full: "full", api.Bad: "bad", api.Stale: "stale", api.Gap: "gap", api.Lost: "lost"}

func verbOf(kind int) string {
	return verbs[kind]
}

func outcomeOf(kind int) string {
	return outcomes[kind]
}
