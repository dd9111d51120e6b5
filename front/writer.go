package front

import (
	"strconv"
	"strings"

	"quorate/api"
)

// commandWords: of a command that may be.
func commandWords(c api.Command) []string {
	verb, number := verbOf(c.Kind), strconv.Itoa(c.If)
	switch c.Kind {
	case api.Put, api.Append:
		return []string{verb, c.Key, c.Value}
	case api.Swap:
		return []string{verb, c.Key, c.Value, number}
	case api.List:
		return listWords(c, []string{verb, c.Key, number})
	}
	return []string{verb, c.Key}
}

// listWords: those of a list, without what need not be said.
func listWords(c api.Command, all []string) []string {
	switch {
	case c.If > 0:
		return all
	case c.Key != "":
		return all[:2]
	}
	return all[:1]
}

// resultWords: of a result that may be.
func resultWords(r api.Result) []string {
	return append([]string{outcomeOf(r.Kind), strconv.Itoa(r.Version), r.Value}, r.Keys...)
}

// lineOf: words as a line, with one blank between them.
func lineOf(words []string) string {
	var line strings.Builder
	for i, text := range words {
		if i > 0 {
			line.WriteByte(' ')
		}
		if isPlain(text) {
			line.WriteString(text)
		} else {
			quote(&line, text)
		}
	}
	return line.String()
}

// isPlain: does a word need no quotes?
func isPlain(text string) bool {
	for i := range len(text) {
		if !isPlainByte(text[i]) {
			return false
		}
	}
	return text != ""
}

func isPlainByte(b byte) bool {
	switch {
	case 'a' <= b && b <= 'z', 'A' <= b && b <= 'Z', '0' <= b && b <= '9':
		return true
	}
	return b == '.' || b == '_' || b == '/' || b == '-'
}

// quote: a word between quotes.
func quote(line *strings.Builder, text string) {
	line.WriteByte('"')
	for i := range len(text) {
		b := text[i]
		switch {
		case b == '"' || b == '\\':
			line.WriteByte('\\')
			line.WriteByte(b)
		case isInLine(b):
			line.WriteByte(b)
		default:
			line.WriteString(`\x`)
			line.WriteByte(hexDigits[b>>4])
			line.WriteByte(hexDigits[b&15])
		}
	}
	line.WriteByte('"')
}
