package wire

import (
	"quorate/api"
	"quorate/bound"
)

// IsCommand: may a command be?
func IsCommand(c api.Command) bool {
	if len(c.Key) > api.MaxKey || len(c.Value) > api.MaxValue || !bound.AreNumbers(c.If) {
		return false
	}
	switch c.Kind {
	case api.List:
		return c.Value == ""
	case api.Get, api.Delete:
		if c.Value != "" {
			return false
		}
		fallthrough
	case api.Put, api.Append:
		if c.If != 0 {
			return false
		}
		fallthrough
	case api.Swap:
		return c.Key != ""
	}
	return false
}

// isRequest: may a request be? Who opens a session commands nothing.
func isRequest(q api.Request) bool {
	if !bound.AreNumbers(q.Client, q.Number, q.Time) {
		return false
	}
	if q.Client == 0 {
		return q.Command == api.Command{}
	}
	return IsCommand(q.Command)
}

// PutRequest: as bytes: the client, the number, the time, the command.
func PutRequest(q api.Request) (string, api.Errno) {
	return write(q, isRequest(q), api.ErrCommand, (*writer).request)
}

// GetRequest: of bytes.
func GetRequest(s string) (api.Request, api.Errno) {
	return read(s, (*reader).request)
}

func (w *writer) request(q api.Request) {
	w.numbers(q.Client, q.Number, q.Time)
	if q.Client != 0 {
		w.command(q.Command)
	}
}

func (w *writer) command(c api.Command) {
	w.number(c.Kind)
	w.text(c.Key)
	w.text(c.Value)
	w.number(c.If)
}

// request: calls within a literal are made from the left to the right, so that its fields are read in their order; so it is with all readers.
func (r *reader) request() api.Request {
	q := api.Request{Client: r.number(), Number: r.number(), Time: r.number()}
	if q.Client != 0 {
		q.Command = r.command()
	}
	must(isRequest(q), api.ErrCommand)
	return q
}

func (r *reader) command() api.Command {
	return api.Command{Kind: r.number(), Key: r.key(), Value: r.text(api.MaxValue), If: r.number()}
}
