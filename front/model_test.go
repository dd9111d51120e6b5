package front_test

import (
	"fmt"
	"math/rand"
	"regexp"
	"slices"
	"strconv"
	"strings"
	"testing"

	"quorate/api"
	"quorate/front"
	"quorate/wire"
)

// A second telling of lines, by regular expressions.
var (
	strangeByte = regexp.MustCompile(`[^ -~]`)
	wholeWord   = regexp.MustCompile(`^(?:"(?:[^"\\]|\\["\\]|\\x[0-9a-f]{2})*"|[^ "\\]+)(?: |$)`)
	quotedPart  = regexp.MustCompile(`^"(?:[^"\\]|\\["\\]|\\x[0-9a-f]{2})*`)
	sign        = regexp.MustCompile(`\\["\\]|\\x[0-9a-f]{2}`)
	decimal     = regexp.MustCompile(`^(?:0|[1-9][0-9]{0,12})$`)
	plainWord   = regexp.MustCompile(`^[A-Za-z0-9._/-]+$`)
)

type modelWord struct {
	text string
	at   int
}

// modelWords: those of a line; or the place of what is wrong (else -1).
func modelWords(line string) ([]modelWord, int) {
	for i := range len(line) {
		if line[i] < 128 && strangeByte.MatchString(line[i:i+1]) || line[i] >= 128 {
			return nil, i
		}
	}
	var l []modelWord
	for at := 0; at < len(line); {
		rest := line[at:]
		if rest[0] == ' ' {
			at++
			continue
		}
		whole := wholeWord.FindString(rest)
		if whole == "" {
			return nil, at + wrongIn(rest)
		}
		at += len(whole)
		l = append(l, modelWord{meant(strings.TrimSuffix(whole, " ")), at - len(whole)})
	}
	return l, -1
}

// wrongIn: where the word at a text's beginning is wrong.
func wrongIn(rest string) int {
	if rest[0] != '"' {
		return strings.IndexAny(rest, `"\`)
	}
	n := len(quotedPart.FindString(rest))
	switch {
	case n == len(rest):
		return 0
	case rest[n] == '"':
		return n + 1
	}
	return n
}

// meant: what a word says.
func meant(s string) string {
	if s[0] != '"' {
		return s
	}
	return sign.ReplaceAllStringFunc(s[1:len(s)-1], func(x string) string {
		if x[1] != 'x' {
			return x[1:]
		}
		n, _ := strconv.ParseUint(x[2:], 16, 8)
		return string([]byte{byte(n)})
	})
}

// modelNumber: of a word; -1: it is none.
func modelNumber(s string) int {
	if !decimal.MatchString(s) {
		return -1
	}
	n, _ := strconv.ParseInt(s, 10, 64)
	if n > api.MaxNumber {
		return -1
	}
	return int(n)
}

// modelParse: words are laid beside the fields that the verb asks for (small letters) or allows (great ones).
func modelParse(line string) (api.Command, int, api.Errno) {
	l, bad := modelWords(line)
	if bad >= 0 {
		return api.Command{}, bad, api.ErrBytes
	}
	if len(l) == 0 {
		return api.Command{}, len(line), api.ErrCommand
	}
	kind := slices.Index([]string{"put", "get", "del", "swap", "app", "list"}, l[0].text) + 1
	if kind == 0 {
		return api.Command{}, l[0].at, api.ErrCommand
	}
	c := api.Command{Kind: kind}
	fields := []string{"", "kv", "k", "k", "kvn", "kv", "KN"}[kind]
	for i, w := range l[1:] {
		if i >= len(fields) {
			return api.Command{}, w.at, api.ErrCommand
		}
		wrong := false
		switch fields[i] {
		case 'k', 'K':
			c.Key, wrong = w.text, len(w.text) > 16 || w.text == "" && fields[i] == 'k'
		case 'v':
			c.Value, wrong = w.text, len(w.text) > 64
		default:
			c.If = modelNumber(w.text)
			wrong = c.If < 0
		}
		if wrong {
			return api.Command{}, w.at, api.ErrCommand
		}
	}
	if len(l)-1 < len(fields) && kind != api.List {
		return api.Command{}, len(line), api.ErrCommand
	}
	return c, -1, api.OK
}

func modelReply(line string) (api.Result, int, api.Errno) {
	l, bad := modelWords(line)
	if bad >= 0 {
		return api.Result{}, bad, api.ErrBytes
	}
	no := func(at int) (api.Result, int, api.Errno) { return api.Result{}, at, api.ErrCommand }
	if len(l) == 0 {
		return no(len(line))
	}
	r := api.Result{Kind: slices.Index(strings.Fields("none done missing unequal full bad stale gap lost"), l[0].text)}
	if r.Kind < 0 {
		return no(l[0].at)
	}
	if len(l) < 3 {
		return no(len(line))
	}
	r.Version, r.Value = modelNumber(l[1].text), l[2].text
	if r.Version < 0 {
		return no(l[1].at)
	}
	for i := 2; i < len(l); i++ {
		if i > 2 {
			r.Keys = append(r.Keys, l[i].text)
		}
		if !wire.IsResult(r) {
			return no(l[i].at)
		}
	}
	return r, -1, api.OK
}

// modelLine: words as a line.
func modelLine(words ...string) string {
	var l []string
	for _, w := range words {
		if plainWord.MatchString(w) {
			l = append(l, w)
			continue
		}
		s := ""
		for _, b := range []byte(w) {
			switch {
			case b == '"', b == '\\':
				s += `\` + string(rune(b))
			case b < 32, b > 126:
				s += fmt.Sprintf(`\x%02x`, b)
			default:
				s += string(rune(b))
			}
		}
		l = append(l, `"`+s+`"`)
	}
	return strings.Join(l, " ")
}

// someLine: of pieces that are near to what may be, now and then with a byte that is turned.
func someLine(r *rand.Rand) string {
	pieces := []string{"put", "get", "del", "swap", "app", "list", "none", "done", "missing", "unequal", "full", "bad", "stale", "gap", "lost", "a", "b", "c", "k", "0", "1", "01", "12", "-1", "1099511627775", "1099511627776", `""`, `"a b"`, `"\x61"`, `"\""`, `"\\"`, `"`, `\`, `\x`, `"\x4"`, `"\x41`, `a"`, `"a"b`, many(16), many(17), many(64), many(65), `"` + many(65) + `"`, "\x01", "\xff", ""}
	var s strings.Builder
	for i := range r.Intn(7) {
		piece := pieces[r.Intn(len(pieces))]
		if r.Intn(4) > 0 {
			piece = pieces[r.Intn(15)+8*min(i, 1)] // a name first, then what is often right
		}
		s.WriteString(piece)
		s.WriteString([]string{" ", " ", " ", " ", "  ", ""}[r.Intn(6)])
	}
	return turned(r, s.String())
}

// turned: a line in which a byte is another, now and then.
func turned(r *rand.Rand, line string) string {
	if line == "" || r.Intn(4) > 0 {
		return line
	}
	b := []byte(line)
	b[r.Intn(len(b))] = []byte(" \"\\x0a~\x1f\x7f")[r.Intn(9)]
	return string(b)
}

// holdsToModel: what is read of a line is what the second telling reads.
func holdsToModel(t *testing.T, line string) {
	t.Helper()
	c, at, e := front.Parse(line)
	d, place, f := modelParse(line)
	if c != d || at != place || e != f {
		t.Fatalf("P13.1: Parse(%q): %+v, %d, %d; want %+v, %d, %d", line, c, at, e, d, place, f)
	}
	x, at, e := front.ReadReply(line)
	y, place, f := modelReply(line)
	if tell(x) != tell(y) || at != place || e != f {
		t.Fatalf("P13.3: ReadReply(%q): %+v, %d, %d; want %+v, %d, %d", line, x, at, e, y, place, f)
	}
}

func TestP13_1ChanceLines(t *testing.T) {
	r := rand.New(rand.NewSource(13))
	commands, results := 0, 0
	for range 40000 {
		line := someLine(r)
		holdsToModel(t, line)
		if _, _, e := front.Parse(line); e == api.OK {
			commands++
		}
		if _, _, e := front.ReadReply(line); e == api.OK {
			results++
		}
	}
	if commands < 500 || results < 500 {
		t.Errorf("P13.1: too few lines say something: %d commands, %d results", commands, results)
	}
}

// All short lines of the bytes that matter.
func TestP13_1ShortLines(t *testing.T) {
	const letters = "\"\\x41a \x7f"
	line := make([]byte, 0, 6)
	var grow func(int)
	grow = func(left int) {
		holdsToModel(t, string(line))
		if left == 0 {
			return
		}
		for _, b := range []byte(letters) {
			line = append(line, b)
			grow(left - 1)
			line = line[:len(line)-1]
		}
	}
	grow(5)
}

func someText(r *rand.Rand, most int) string {
	b := make([]byte, r.Intn(most+2))
	for i := range b {
		b[i] = []byte("ab.\"\\ \x00\x7f\x80\xff")[r.Intn(10)]
		if r.Intn(3) == 0 {
			b[i] = byte(r.Intn(256))
		}
	}
	return string(b)
}

// What is written is in its one form, and comes back.
func TestP13_2ChanceCommands(t *testing.T) {
	r := rand.New(rand.NewSource(14))
	for range 20000 {
		c := api.Command{Kind: r.Intn(8), Key: someText(r, 16), If: []int{0, 0, 1, 10, 1 << 39, api.MaxNumber, api.MaxNumber + 1, -1}[r.Intn(8)]}
		if r.Intn(2) == 0 {
			c.Value = someText(r, 64)
		}
		want, wrong := "", api.ErrCommand
		if wire.IsCommand(c) {
			verb := []string{"", "put", "get", "del", "swap", "app", "list"}[c.Kind]
			l := []string{verb, c.Key, c.Value, strconv.Itoa(c.If)}
			switch {
			case c.Kind == api.List && c.If > 0:
				l = []string{verb, c.Key, strconv.Itoa(c.If)}
			case c.Kind == api.List && c.Key == "":
				l = l[:1]
			case c.Kind == api.Put || c.Kind == api.Append:
				l = l[:3]
			case c.Kind != api.Swap:
				l = l[:2]
			}
			want, wrong = modelLine(l...), api.OK
		}
		if s, e := front.Format(c); s != want || e != wrong {
			t.Fatalf("P13.2: Format(%+v): %q, %d; want %q, %d", c, s, e, want, wrong)
		}
		if wrong == api.OK {
			parses(t, "P13.2", want, c)
		}
	}
}

func TestP13_3ChanceResults(t *testing.T) {
	r := rand.New(rand.NewSource(15))
	for range 20000 {
		x := api.Result{Kind: r.Intn(10), Version: []int{0, 1, 10, api.MaxNumber, api.MaxNumber + 1, -1}[r.Intn(6)], Value: someText(r, 64)}
		for range r.Intn(4) {
			x.Keys = append(x.Keys, someText(r, 16))
		}
		if r.Intn(4) > 0 {
			slices.Sort(x.Keys)
		}
		if !wire.IsResult(x) {
			if s, e := front.Reply(x); s != "" || e != api.ErrCommand {
				t.Fatalf("P13.3: Reply(%+v): %q, %d", x, s, e)
			}
			continue
		}
		name := strings.Fields("none done missing unequal full bad stale gap lost")[x.Kind]
		replies(t, "P13.3", x, modelLine(append([]string{name, strconv.Itoa(x.Version), x.Value}, x.Keys...)...))
	}
}
