// Package num is layer 1: see shared/doc/01-num.md.
package num

import "gantry/api"

// maxDigits is how many digits Most has.
const maxDigits = 19

// allMay tells whether all of l may be. Moved up by Most, what may be is from 0
// to 2^63: the highest bit is free, or nothing stands beside it.
func allMay(l ...int) bool {
	for _, n := range l {
		moved := uint64(n) + api.Most
		if moved>>63 != 0 && moved<<1 != 0 {
			return false
		}
	}
	return true
}

// May: P1.1.
func May(n int) bool {
	return allMay(n)
}

// Add: P1.1.
func Add(a, b int) (int, api.Errno) {
	// Two that may be go round at 2^63 alone, and -2^63 may not be; so what
	// went round is never taken for a sum.
	if !allMay(a, b, a+b) {
		return 0, api.ErrOver
	}
	return a + b, api.OK
}

// Sub: P1.1.
func Sub(a, b int) (int, api.Errno) {
	if !allMay(a, b, a-b) { // goes round as Add does
		return 0, api.ErrOver
	}
	return a - b, api.OK
}

// isNumeral tells whether s is 0, or digits whose first one is not 0.
func isNumeral(s string) bool {
	if s == "" || s[0] == '0' && len(s) > 1 {
		return false
	}
	for i := range len(s) {
		if s[i] < '0' || s[i] > '9' {
			return false
		}
	}
	return true
}

// Parse: P1.2.
func Parse(s string) (int, api.Errno) {
	// All of s is looked at first: a bad byte goes ahead of a great number.
	if !isNumeral(s) {
		return 0, api.ErrLex
	}
	n := uint64(0)
	put := func(c byte) bool {
		d := uint64(c - '0')
		// Held against the room ahead of the step, as n*10 may go round.
		if n > (api.Most-d)/10 {
			return false
		}
		n = n*10 + d
		return true
	}
	for i := range len(s) {
		if !put(s[i]) {
			return 0, api.ErrOver
		}
	}
	return int(n), api.OK
}

// numeral is the numeral of n, which is at most Most.
func numeral(n uint64) string {
	var b [maxDigits]byte
	at := len(b)
	put := func(d uint64) {
		at--
		b[at] = '0' + byte(d)
	}
	put(n % 10) // whatever n is: 0 has a digit, too
	for n >= 10 {
		n /= 10
		put(n % 10)
	}
	return string(b[at:])
}

// Text: P1.2.
func Text(n int) (string, api.Errno) {
	if !allMay(n) {
		return "", api.ErrOver
	}
	if n < 0 {
		return "(- " + numeral(uint64(-n)) + ")", api.OK
	}
	return numeral(uint64(n)), api.OK
}

// Sum: P1.3.
func Sum(l []int, most int) (int, bool) {
	most = max(0, min(most, api.Most))
	sum := 0
	for _, n := range l {
		if !allMay(n) {
			return 0, false
		}
		n = max(n, -n) + 1
		// Held against the room that is left, as sum + n may go round.
		if n > most-sum {
			return 0, false
		}
		sum += n
	}
	return sum, true
}
