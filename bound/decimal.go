package bound

import "strconv"

// Decimal: the number that a text says, from least to most, written just as it would be here: without a sign, without noughts ahead.
func Decimal(text string, least, most int) (int, bool) {
	n, err := strconv.Atoi(text)
	if err != nil || n < least || n > most || strconv.Itoa(n) != text {
		return 0, false
	}
	return n, true
}
