package shard

import (
	"slices"
	"strings"

	"quorate/api"
	"quorate/deleg"
	"quorate/relay"
)

// host: one of those that share the map, with what it sends the others.
type host struct {
	*relay.Relay
	id    int
	items []api.Item  // by rising keys, all of them keys that it has
	keys  []api.Bound // who has which, as far as it knows
}

// newHost: at first all know that the first one has all keys.
func newHost(id int) (*host, api.Errno) {
	r, e := relay.New(id)
	if e != api.OK {
		return nil, e
	}
	return &host{Relay: r, id: id, keys: deleg.New(1)}, api.OK
}

// answer: who has the key; and what comes of the step, if it is the host itself.
func (h *host) answer(x api.ShardStep) api.ShardAnswer {
	a := api.ShardAnswer{Host: deleg.At(h.keys, x.Key)}
	if a.Host == h.id {
		a.Result = h.apply(x)
	}
	return a
}

// apply: a step on a key that the host has.
func (h *host) apply(x api.ShardStep) api.Result {
	if x.Kind == api.SetAt {
		h.set(api.Item{Key: x.Key, Value: x.Value})
		return api.Result{Kind: api.Done}
	}
	at, is := h.find(x.Key)
	if !is {
		return api.Result{Kind: api.Missing}
	}
	if x.Kind == api.GetAt {
		return api.Result{Kind: api.Done, Value: h.items[at].Value}
	}
	h.items = slices.Delete(h.items, at, at+1)
	return api.Result{Kind: api.Done}
}

// find: where a key's item stands, or would stand.
func (h *host) find(key string) (int, bool) {
	return slices.BinarySearchFunc(h.items, key, func(x api.Item, key string) int {
		return strings.Compare(x.Key, key)
	})
}

// set: an item, in the place of the one with that key.
func (h *host) set(x api.Item) {
	at, is := h.find(x.Key)
	if is {
		h.items[at] = x
		return
	}
	h.items = slices.Insert(h.items, at, x)
}

// give: a range of keys goes to another host, if this one has all of it.
func (h *host) give(from, upto string, to int) api.Errno {
	if !deleg.Has(h.keys, from, upto, h.id) {
		return api.ErrLeader
	}
	first, _ := h.find(from)
	end := len(h.items)
	if upto != "" {
		end, _ = h.find(upto)
	}
	if e := h.Send(to, pack(from, upto, h.items[first:end])); e != api.OK {
		return e
	}
	h.items = slices.Delete(h.items, first, end)
	h.keys = deleg.Set(h.keys, from, upto, to)
	return api.OK
}

// take: what another host has given away.
func (h *host) take(body string) {
	from, upto, items, is := unpack(body)
	if !is {
		return
	}
	h.keys = deleg.Set(h.keys, from, upto, h.id)
	for _, x := range items {
		h.set(x)
	}
}
