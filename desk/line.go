package desk

import (
	"math"
	"strconv"
	"strings"

	"clepsydra/api"
	"clepsydra/net"
)

// numberBits is how many binary digits a number has at most.
const numberBits = 62

// How bytes are written: by digits of 16, two each, or as none.
const (
	digits  = "0123456789abcdef"
	noBytes = "-"
)

// The parts of a step that may stand in its line.
const (
	partA     = 'A'
	partB     = 'B'
	partN     = 'N'
	partFrom  = 'F'
	partTo    = 'T'
	partBytes = 'X'
)

// layout is the word of a step, and the parts that stand behind it.
type layout struct{ word, parts string }

// layouts are those of the steps, by their kinds.
var layouts = [...]layout{
	net.Tick:    {"tick", "N"},
	net.Call:    {"call", "AB"},
	net.Poll:    {"poll", "AB"},
	net.Deliver: {"deliver", "A"},
	net.Drop:    {"drop", "A"},
	net.Dup:     {"dup", "A"},
	net.Inject:  {"inject", "FTX"},
	net.Restart: {"restart", "AN"},
}

// words are those of a line, and empty ones behind them. The last place is one more than any right line has words: in it stands all the rest.
type words [5]string

// wordsOf is a line's words; empty ones alone, if it has an empty one, as no right line has.
func wordsOf(line string) words {
	var w words
	for i, word := range strings.SplitN(line, " ", len(w)) {
		if word == "" {
			return words{}
		}
		w[i] = word
	}
	return w
}

// Parse reads a step's line.
func Parse(line string) (net.Step, api.Errno) {
	w := wordsOf(line)
	for kind, l := range layouts {
		if w[0] == "" || w[0] != l.word {
			continue
		}
		if s, right := stepOf(kind, w); right {
			return s, api.OK
		}
	}
	return net.Step{}, api.ErrLine
}

// Line is a step's line.
func Line(s net.Step) (string, api.Errno) {
	if s.Kind < net.Tick || s.Kind > net.Restart {
		return "", api.ErrArg
	}
	l := layouts[s.Kind]
	line := []string{l.word}
	for _, part := range l.parts {
		word, right := wordOf(s, part)
		if !right {
			return "", api.ErrArg
		}
		line = append(line, word)
	}
	return strings.Join(line, " "), api.OK
}

// stepOf is the step of a kind whose line has such words, if there is one.
func stepOf(kind int, w words) (net.Step, bool) {
	s := net.Step{Kind: kind}
	parts := layouts[kind].parts
	for i, part := range parts {
		if !setPart(&s, part, w[i+1]) {
			return net.Step{}, false
		}
	}
	return s, w[len(parts)+1] == ""
}

// setPart sets a part of a step to what a word says, and tells whether the part may say so.
func setPart(s *net.Step, part rune, word string) bool {
	if part == partBytes {
		b, right := bytesOf(word)
		s.Bytes = b
		return right
	}
	n, right := numberOf(word)
	switch part {
	case partA:
		s.A = int(n)
	case partB:
		s.B = int(n)
	case partN:
		s.N = n
	case partFrom:
		s.From = uint32(n)
		right = right && n <= math.MaxUint32
	case partTo:
		s.To = uint32(n)
		right = right && n <= math.MaxUint32
	}
	return right
}

// wordOf is the word of a part of a step, and whether a line may have it.
func wordOf(s net.Step, part rune) (string, bool) {
	var n int64
	switch part {
	case partA:
		n = int64(s.A)
	case partB:
		n = int64(s.B)
	case partN:
		n = s.N
	case partFrom:
		n = int64(s.From)
	case partTo:
		n = int64(s.To)
	case partBytes:
		return digitsOf(s.Bytes), true
	}
	return strconv.FormatInt(n, 10), n >= 0 && n < 1<<numberBits
}

// numberOf is the number that a word is, if it is one.
func numberOf(word string) (int64, bool) {
	n, err := strconv.ParseUint(word, 10, numberBits)
	// What is read might have been written with noughts ahead.
	if err != nil || strconv.FormatUint(n, 10) != word {
		return 0, false
	}
	return int64(n), true
}

// bytesOf are the bytes that a word says, if it says some, or none.
func bytesOf(word string) ([]byte, bool) {
	if word == noBytes {
		return nil, true
	}
	if word == "" || len(word)%2 != 0 {
		return nil, false
	}
	b := make([]byte, len(word)/2)
	for i := range len(word) {
		digit := strings.IndexByte(digits, word[i])
		if digit < 0 {
			return nil, false
		}
		b[i/2] = b[i/2]<<4 | byte(digit)
	}
	return b, true
}

// digitsOf is the word of some bytes.
func digitsOf(b []byte) string {
	if len(b) == 0 {
		return noBytes
	}
	var word strings.Builder
	for _, c := range b {
		word.WriteByte(digits[c>>4])
		word.WriteByte(digits[c&15])
	}
	return word.String()
}
