// Package digit is layer 1: numbers as digits. See shared/doc/01-digit.md.
package digit

import (
	"iter"
	"strconv"
	"strings"

	"paydesk/api"
)

// most digits that a number may have: as many nines still fit 64 bits.
const most = 19

// Is it a row of digits, at least one?
func Is(s string) bool {
	if s == "" {
		return false
	}
	i := 0
next:
	if i == len(s) {
		return true
	}
	if s[i] < '0' || s[i] > '9' {
		return false
	}
	i++
	goto next
}

// Put a number: its digits, n of them.
func Put(v uint64, n int) (string, api.Errno) {
	if n < 1 || n > most {
		return "", api.ErrArg
	}
	s := strconv.FormatUint(v, 10)
	if len(s) > n {
		return "", api.ErrOver
	}
	return strings.Repeat("0", n-len(s)) + s, api.OK
}

// Get a number from its digits.
func Get(s string) (uint64, api.Errno) {
	if s == "" {
		return 0, api.ErrShort
	}
	if len(s) > most {
		return 0, api.ErrLong
	}
	if !Is(s) {
		return 0, api.ErrForm
	}
	var v uint64
	i := 0
next:
	if i == len(s) {
		return v, api.OK
	}
	v = v*10 + uint64(s[i]-'0')
	i++
	goto next
}

// Fine row of digits?
func Fine(s string) bool {
	return Is(s) && sum(s, false)%10 == 0
}

// Check digit of a row: put behind it, it makes the row fine.
func Check(s string) (string, api.Errno) {
	if !Is(s) {
		return "", api.ErrForm
	}
	// A digit behind the row makes its last one the last but one.
	check := (10 - sum(s, true)%10) % 10
	return strconv.Itoa(check), api.OK
}

// sum of a row of digits; twice says whether the last one counts twice.
func sum(s string, twice bool) int {
	all := 0
	for c := range fromEnd(s) {
		all += weight(int(c-'0'), twice)
		twice = !twice
	}
	return all
}

func weight(d int, twice bool) int {
	if !twice {
		return d
	}
	if d > 4 {
		return 2*d - 9
	}
	return 2 * d
}

func fromEnd(s string) iter.Seq[byte] {
	return func(yield func(byte) bool) {
		for i := len(s) - 1; i >= 0; i-- {
			if !yield(s[i]) {
				return
			}
		}
	}
}
