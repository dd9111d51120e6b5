package txn

import (
	"strconv"
	"strings"

	"quorate/api"
	"quorate/bound"
	"quorate/kv"
)

// What a transaction's record says.
const (
	open = "open"
	done = "done"
	off  = "off"
)

// amount: what a key says: its number; who holds it (0: nobody does), and the number that it has then, if that one is done.
type amount struct {
	number, holder, then int
}

// Number: a key's, in a map, at this moment: who holds it and is done has changed it.
func Number(l []api.Pair, key string) int {
	a := read(said(get(l, amountKey(key))))
	return a.settled(said(get(l, recordKey(a.holder))) == done)
}

// get: what the map says of a key.
func get(l []api.Pair, key string) api.Result {
	_, r := kv.Apply(l, getCommand(key))
	return r
}

// settled: the number when nobody holds it any more: of one whom nobody holds it is its number, whatever is said of a holder.
func (a amount) settled(isDone bool) int {
	if isDone && a.holder > 0 {
		return a.then
	}
	return a.number
}

// text: as it stands in the map.
func (a amount) text() string {
	if a.holder == 0 {
		return strconv.Itoa(a.number)
	}
	return strconv.Itoa(a.number) + " " + strconv.Itoa(a.holder) + " " + strconv.Itoa(a.then)
}

// read: what a text says; one that says no amount says 0, held by nobody.
func read(text string) amount {
	l := strings.Split(text, " ")
	number, isNumber := bound.Decimal(l[0], 0, api.MaxAmount)
	switch {
	case !isNumber:
		return amount{}
	case len(l) == 1:
		return amount{number: number}
	case len(l) != 3:
		return amount{}
	}
	holder, isHolder := bound.Decimal(l[1], 1, api.MaxTxn)
	then, isThen := bound.Decimal(l[2], 0, api.MaxAmount)
	if !isHolder || !isThen {
		return amount{}
	}
	return amount{number: number, holder: holder, then: then}
}

// said: the value that a result tells; what is not OK tells none.
func said(r api.Result) string {
	if r.Kind != api.Done {
		return ""
	}
	return r.Value
}

// versionOf: of what a result tells; 0, if it tells nothing.
func versionOf(r api.Result) int {
	if r.Kind != api.Done {
		return 0
	}
	return r.Version
}

func amountKey(key string) string {
	return "k" + key
}

func recordKey(id int) string {
	return "t" + strconv.Itoa(id)
}

func getCommand(key string) api.Command {
	return api.Command{Kind: api.Get, Key: key}
}

func swapCommand(key, value string, version int) api.Command {
	return api.Command{Kind: api.Swap, Key: key, Value: value, If: version}
}
