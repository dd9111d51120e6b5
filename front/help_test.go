package front_test

import (
	"fmt"
	"strings"
	"testing"

	"quorate/api"
	"quorate/front"
)

// many: a text of so many bytes.
func many(n int) string {
	return strings.Repeat("x", n)
}

// tell: a value, for a look; nil and empty lists are the same.
func tell(x any) string {
	return fmt.Sprintf("%+q", []any{x})
}

// parses: of that line that command comes, and -1.
func parses(t *testing.T, promise, line string, want api.Command) {
	t.Helper()
	if c, at, e := front.Parse(line); c != want || at != -1 || e != api.OK {
		t.Errorf("%s: Parse(%q): %+v, %d, %d; want %+v", promise, line, c, at, e, want)
	}
}

// refuses: neither a command nor a result comes of that line, but that error, at that place.
func refuses(t *testing.T, promise, line string, place int, want api.Errno) {
	t.Helper()
	noCommand(t, promise, line, place, want)
	noResult(t, promise, line, place, want)
}

func noCommand(t *testing.T, promise, line string, place int, want api.Errno) {
	t.Helper()
	if c, at, e := front.Parse(line); c != (api.Command{}) || at != place || e != want {
		t.Errorf("%s: Parse(%q): %+v, %d, %d; want %d, %d", promise, line, c, at, e, place, want)
	}
}

func noResult(t *testing.T, promise, line string, place int, want api.Errno) {
	t.Helper()
	if r, at, e := front.ReadReply(line); tell(r) != tell(api.Result{}) || at != place || e != want {
		t.Errorf("%s: ReadReply(%q): %+v, %d, %d; want %d, %d", promise, line, r, at, e, place, want)
	}
}

// replies: that result is that line, and comes back of it.
func replies(t *testing.T, promise string, r api.Result, line string) {
	t.Helper()
	if s, e := front.Reply(r); s != line || e != api.OK {
		t.Errorf("%s: Reply(%+v): %q, %d; want %q", promise, r, s, e, line)
	}
	reads(t, promise, line, r)
}

// reads: of that line that result comes, and -1.
func reads(t *testing.T, promise, line string, want api.Result) {
	t.Helper()
	if r, at, e := front.ReadReply(line); tell(r) != tell(want) || at != -1 || e != api.OK {
		t.Errorf("%s: ReadReply(%q): %+v, %d, %d; want %+v", promise, line, r, at, e, want)
	}
}

// formats: that command is that line, and comes back of it.
func formats(t *testing.T, promise string, c api.Command, line string) {
	t.Helper()
	if s, e := front.Format(c); s != line || e != api.OK {
		t.Errorf("%s: Format(%+v): %q, %d; want %q", promise, c, s, e, line)
	}
	parses(t, promise, line, c)
}
