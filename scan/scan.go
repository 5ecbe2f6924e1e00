// Package scan is layer 1: the words of a program's text.
package scan

import (
	"strings"

	"dispatcher/api"
)

// Kinds of words.
const (
	TName uint8 = iota + 1
	TNumber
	TWord
	TSign
)

const (
	longestName   = 12
	longestNumber = 18
)

// Token is a word.
type Token struct {
	Kind         uint8
	Text         string
	Num          int64
	Line, Column int
}

// signs stand with those of two bytes ahead, so that the first that fits is the longest.
var signs = [...]string{
	"<=", ">=", "==", "!=", "&&", "||",
	"(", ")", "{", "}", "[", "]", ";", ",", "=", "+", "-", "*", "/", "%", "<", ">", "!",
}

// Word: P1.1.
func Word(s string) bool {
	switch s {
	case "int", "if", "else", "while", "for", "assert", "stop",
		"rank", "size", "any", "value", "peer", "tag", "flag", "index", "req", "comm", "row",
		"sum", "max", "min",
		"send", "ssend", "bsend", "isend", "issend", "recv", "irecv",
		"wait", "waitall", "waitany", "test", "testany", "probe", "iprobe",
		"barrier", "bcast", "reduce", "allreduce", "gather", "dup", "split", "free":
		return true
	}
	return false
}

// Sign: P1.1.
func Sign(s string) bool {
	return s != "" && signAt(s) == len(s)
}

// Name: P1.1.
func Name(s string) bool {
	return len(s) > 0 && len(s) <= longestName && letter(s[0]) && rowLength(s, letterOrDigit) == len(s) && !Word(s)
}

// Scan: P1.2.
func Scan(text []byte) (l []Token, line, column int, e api.Errno) {
	if len(text) > api.MaxText {
		return nil, 0, 0, api.ErrLong
	}
	s := string(text)
	line, lineStart, next, remark := 1, 0, 0, false
	for i, r := range s {
		if i < next {
			continue
		}
		switch {
		case r == '\n':
			line, lineStart, remark = line+1, i+1, false
		case remark || blank(r):
		case r == '#':
			remark = true
		default:
			t, ok := wordAt(s[i:])
			if !ok {
				return nil, line, i - lineStart + 1, api.ErrScan
			}
			t.Line, t.Column = line, i-lineStart+1
			l = append(l, t)
			next = i + len(t.Text)
		}
	}
	return l, 0, 0, api.OK
}

// Text: P1.3.
func Text(l []Token) string {
	var b strings.Builder
	for i, t := range l {
		if i > 0 {
			b.WriteByte(' ')
		}
		b.WriteString(t.Text)
	}
	return b.String()
}

// wordAt tells the word with which s, that isn't empty, begins.
func wordAt(s string) (Token, bool) {
	if letter(s[0]) {
		return letters(s[:rowLength(s, letterOrDigit)])
	}
	if digit(s[0]) {
		return number(s[:rowLength(s, digit)])
	}
	n := signAt(s)
	return Token{Kind: TSign, Text: s[:n]}, n > 0
}

func letters(s string) (Token, bool) {
	if Word(s) {
		return Token{Kind: TWord, Text: s}, true
	}
	return Token{Kind: TName, Text: s}, len(s) <= longestName
}

func number(s string) (Token, bool) {
	if len(s) > longestNumber || s[0] == '0' && len(s) > 1 {
		return Token{}, false
	}
	n := int64(0)
	for _, r := range s {
		n = n*10 + int64(r-'0')
	}
	return Token{Kind: TNumber, Text: s, Num: n}, true
}

// signAt tells how long the longest sign is with which s begins; 0, if there is none.
func signAt(s string) int {
	for _, sign := range signs {
		if strings.HasPrefix(s, sign) {
			return len(sign)
		}
	}
	return 0
}

// rowLength tells how many bytes at the beginning of s are of a class.
func rowLength(s string, class func(byte) bool) int {
	for i, r := range s {
		if r > 127 || !class(byte(r)) {
			return i
		}
	}
	return len(s)
}

func letter(b byte) bool { return b >= 'a' && b <= 'z' }

func digit(b byte) bool { return b >= '0' && b <= '9' }

func letterOrDigit(b byte) bool { return letter(b) || digit(b) }

func blank(r rune) bool { return r == '\t' || r == '\r' || r == ' ' }
