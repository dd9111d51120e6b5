package front

import (
	"strings"

	"quorate/api"
)

// The bytes that may stand in a line are those between these.
const (
	firstByte = ' '
	lastByte  = '~'
)

const hexDigits = "0123456789abcdef"

// word: of a line: what it says, and the byte at which it begins.
type word struct {
	text string
	at   int
}

// split: a line's words. All bytes are looked at ahead of the first word: one that may not stand in a line is told first, wherever it is.
func split(line string) []word {
	for i := range len(line) {
		must(isInLine(line[i]), api.ErrBytes, i)
	}
	var words []word
	for at := 0; at < len(line); {
		if line[at] == ' ' {
			at++
			continue
		}
		text, end := wordAt(line, at)
		words = append(words, word{text: text, at: at})
		at = end
	}
	return words
}

func isInLine(b byte) bool {
	return firstByte <= b && b <= lastByte
}

// wordAt: what the word that begins there says, and the place behind it.
func wordAt(line string, at int) (string, int) {
	if line[at] == '"' {
		return quoted(line, at)
	}
	return bare(line, at)
}

// bare: a word that stands for itself.
func bare(line string, at int) (string, int) {
	end := at
	for end < len(line) && line[end] != ' ' {
		must(line[end] != '"' && line[end] != '\\', api.ErrBytes, end)
		end++
	}
	return line[at:end], end
}

// quoted: a word between quotes. That its end is missing is seen when all of it is read, so that a wrong backslash is told first.
func quoted(line string, at int) (string, int) {
	var text []byte
	end := at + 1
	for end < len(line) && line[end] != '"' {
		b, size := byteAt(line, end)
		text = append(text, b)
		end += size
	}
	must(end < len(line), api.ErrBytes, at)
	end++
	must(end == len(line) || line[end] == ' ', api.ErrBytes, end)
	return string(text), end
}

// byteAt: the byte that is meant at a place between quotes, and how many bytes of the line say so.
func byteAt(line string, at int) (byte, int) {
	if line[at] != '\\' {
		return line[at], 1
	}
	behind := line[at+1:]
	must(behind != "", api.ErrBytes, at)
	if behind[0] == '"' || behind[0] == '\\' {
		return behind[0], 2
	}
	must(behind[0] == 'x' && len(behind) > 2, api.ErrBytes, at)
	high, low := strings.IndexByte(hexDigits, behind[1]), strings.IndexByte(hexDigits, behind[2])
	must(high >= 0 && low >= 0, api.ErrBytes, at)
	return byte(high<<4 | low), 4
}
