package stamp

import (
	"bytes"
	"strings"

	"clepsydra/api"
)

// digits are ten digits of ten, the greatest first: as many as a time's seconds can have, and as many as its parts are printed with.
type digits [10]byte

// The parts are printed times 10^10 by 2^32. That is 5^10 by 2^22, by which products stay within 64 bits.
const (
	scale      = 5 * 5 * 5 * 5 * 5 * 5 * 5 * 5 * 5 * 5
	scaleShift = 22
)

// Print is a time's text.
func Print(t uint64) string {
	sec, part := secDigits(t), partDigits(t)
	return join(bytes.TrimLeft(sec[:len(sec)-1], "0"), sec[len(sec)-1:], []byte{'.'}, part[:])
}

// Parse reads a time's text.
func Parse(text string) (uint64, api.Errno) {
	whole, behind, _ := strings.Cut(text, ".")
	if !fits(whole, behind) {
		return 0, api.ErrTime
	}
	sec, part := digitsOf(whole), digitsOf(behind)
	t := Make(uint32(number(sec)), leastPart(number(part)))
	// Bytes that are no digits, and numbers that no time has, come back otherwise than they went in.
	if secDigits(t) != sec || partDigits(t) != part {
		return 0, api.ErrTime
	}
	return t, api.OK
}

// fits tells whether two texts have as many bytes as those of a time's seconds and parts, with no nought ahead that is not printed.
func fits(whole, behind string) bool {
	if len(whole) == 0 || len(whole) > len(digits{}) || len(behind) != len(digits{}) {
		return false
	}
	return len(whole) == 1 || whole[0] != '0'
}

// secDigits are the digits of a time's seconds, with noughts ahead.
func secDigits(t uint64) digits { return tenDigits(uint64(Sec(t))) }

// partDigits are the digits behind the point.
func partDigits(t uint64) digits { return tenDigits(uint64(Part(t)) * scale >> scaleShift) }

// leastPart is the least part whose digits make up n, if there is one.
func leastPart(n uint64) uint32 { return uint32((n<<scaleShift + scale - 1) / scale) }

// tenDigits are the digits of a number below 10^10.
func tenDigits(n uint64) digits {
	var out digits
	for i := range len(out) {
		out[len(out)-1-i] = '0' + byte(n%10)
		n /= 10
	}
	return out
}

// digitsOf are the digits of a text of at most ten bytes, with noughts ahead.
func digitsOf(text string) digits {
	out := tenDigits(0)
	copy(out[len(out)-len(text):], text)
	return out
}

// number is the number of some digits.
func number(d digits) uint64 {
	n := uint64(0)
	for _, digit := range d {
		n = n*10 + uint64(digit) - '0'
	}
	return n
}

// join is the text of pieces of it, one behind the other.
func join(pieces ...[]byte) string {
	var out []byte
	for _, piece := range pieces {
		out = append(out, piece...)
	}
	return string(out)
}
