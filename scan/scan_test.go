package scan

import (
	"reflect"
	"strings"
	"testing"

	"dispatcher/api"
	"dispatcher/sample"
)

// TestKinds: P1.1.
func TestKinds(t *testing.T) {
	for _, x := range []struct {
		s                string
		word, sign, name bool
	}{
		{"int", true, false, false}, {"allreduce", true, false, false}, {"sum", true, false, false}, {"comm", true, false, false},
		{"x", false, false, true}, {"z9", false, false, true}, {"abcdefghijkl", false, false, true}, {"abcdefghijklm", false, false, false},
		{"a23456789012", false, false, true}, {"in", false, false, true}, {"ints", false, false, true},
		{"", false, false, false}, {" ", false, false, false}, {"x ", false, false, false}, {"1x", false, false, false}, {"X", false, false, false},
		{"xé", false, false, false}, {"x_", false, false, false}, {"7", false, false, false},
		{"<=", false, true, false}, {"<", false, true, false}, {"!", false, true, false}, {"!=", false, true, false}, {"%", false, true, false},
		{"=<", false, false, false}, {"&", false, false, false}, {"|", false, false, false}, {"&&", false, true, false}, {"||", false, true, false},
		{"===", false, false, false}, {"<= ", false, false, false}, {"#", false, false, false}, {"int\x00", false, false, false},
	} {
		if Word(x.s) != x.word || Sign(x.s) != x.sign || Name(x.s) != x.name {
			t.Errorf("%q: %v %v %v", x.s, Word(x.s), Sign(x.s), Name(x.s))
		}
	}
	count := 0
	for _, s := range strings.Fields("int if else while for assert stop rank size any value peer tag flag index req comm row sum max min send ssend bsend isend issend recv irecv wait waitall waitany test testany probe iprobe barrier bcast reduce allreduce gather dup split free") {
		if !Word(s) || Name(s) {
			t.Errorf("%s is a word", s)
		}
		count++
	}
	if count != 43 {
		t.Errorf("%d words", count)
	}
	for _, s := range strings.Fields("( ) { } [ ] ; , = + - * / % < <= > >= == != && || !") {
		if !Sign(s) {
			t.Errorf("%s is a sign", s)
		}
	}
}

// TestScan: P1.2.
func TestScan(t *testing.T) {
	l, line, column, e := Scan([]byte("a<=-b # c\n\tif 0 <999999999999999999x"))
	want := []Token{{TName, "a", 0, 1, 1}, {TSign, "<=", 0, 1, 2}, {TSign, "-", 0, 1, 4}, {TName, "b", 0, 1, 5}, {TWord, "if", 0, 2, 2}, {TNumber, "0", 0, 2, 5}, {TSign, "<", 0, 2, 7}, {TNumber, "999999999999999999", 999999999999999999, 2, 8}, {TName, "x", 0, 2, 26}}
	if !reflect.DeepEqual(l, want) || line != 0 || column != 0 || e != api.OK {
		t.Errorf("%v %d %d %d", l, line, column, e)
	}
	for _, x := range []struct {
		s            string
		line, column int
		e            api.Errno
	}{
		{"", 0, 0, 0}, {"#$", 0, 0, 0}, {" \t\r\n", 0, 0, 0}, {"x1 = 07", 1, 6, api.ErrScan}, {"00", 1, 1, api.ErrScan}, {"&", 1, 1, api.ErrScan}, {"aB", 1, 2, api.ErrScan},
		{"&&&", 1, 3, api.ErrScan}, {"abcdefghijklm", 1, 1, api.ErrScan}, {"1000000000000000000", 1, 1, api.ErrScan}, {"\v", 1, 1, api.ErrScan}, {"\x00", 1, 1, api.ErrScan},
		{"# é\r$\n\n  é", 3, 3, api.ErrScan}, {"# \xff\n\xff", 2, 1, api.ErrScan}, {"é#", 1, 1, api.ErrScan}, {"# é\n# \xc3\n$", 3, 1, api.ErrScan}, {"x\ré", 1, 3, api.ErrScan},
		{strings.Repeat("x ", api.MaxText/2), 0, 0, 0}, {strings.Repeat("$", api.MaxText), 1, 1, api.ErrScan}, {strings.Repeat("$", api.MaxText+1), 0, 0, api.ErrLong},
	} {
		l, line, column, e := Scan([]byte(x.s))
		if line != x.line || column != x.column || e != x.e || e != api.OK && l != nil {
			t.Errorf("%.20q: %d %d %d", x.s, line, column, e)
		}
	}
	if _, _, _, e := Scan(nil); e != api.OK {
		t.Errorf("nil: %d", e)
	}
}

// TestText: P1.3, P1.2 (what is handed in stays, and isn't kept).
func TestText(t *testing.T) {
	text := []byte("a=1;")
	l, _, _, _ := Scan(text)
	text[0] = 'b'
	if s := Text(l); s != "a = 1 ;" {
		t.Errorf("%q", s)
	}
	if Text(nil) != "" || Text([]Token{{Text: ""}, {Text: "??"}}) != " ??" {
		t.Errorf("%q", Text([]Token{{Text: ""}, {Text: "??"}}))
	}
}

func bare(l []Token) []Token {
	out := make([]Token, len(l))
	for i, t := range l {
		out[i] = Token{Kind: t.Kind, Text: t.Text, Num: t.Num}
	}
	return out
}

// TestBack: P1.4, P1.5 and P1.6 of many texts.
func TestBack(t *testing.T) {
	for seed := range 300 {
		s := sample.Program(seed, true)
		l, line, column, e := Scan([]byte(s))
		if e != api.OK || line != 0 || column != 0 {
			t.Fatalf("%d: %d at %d %d", seed, e, line, column)
		}
		again, _, _, e := Scan([]byte(Text(l)))
		if e != api.OK || !reflect.DeepEqual(bare(l), bare(again)) {
			t.Fatalf("%d: not there and back", seed)
		}
		places(t, s, l)
		spaced, _, _, _ := Scan([]byte("\n#\n" + strings.ReplaceAll(Text(l), " ", "\t# $\n\r ")))
		if !reflect.DeepEqual(bare(l), bare(spaced)) {
			t.Fatalf("%d: blanks change words", seed)
		}
		more, _, _, _ := Scan([]byte(s + "\nint x"))
		if len(more) != len(l)+2 || !reflect.DeepEqual(l, more[:len(l)]) {
			t.Fatalf("%d: what is behind changes words", seed)
		}
	}
}

// places checks that words stand where they say, and blanks and remarks alone between them.
func places(t *testing.T, s string, l []Token) {
	lines := strings.SplitAfter(s, "\n")
	starts := make([]int, len(lines)+1)
	for i, x := range lines {
		starts[i+1] = starts[i] + len(x)
	}
	at := 0
	for _, w := range l {
		from := starts[w.Line-1] + w.Column - 1
		if from < at || !strings.HasPrefix(s[from:], w.Text) {
			t.Fatalf("%v doesn't stand there", w)
		}
		for _, part := range strings.Split(s[at:from]+"\n", "\n") {
			part, _, _ = strings.Cut(part, "#")
			if strings.Trim(part, "\t\r ") != "" {
				t.Fatalf("ahead of %v: %q", w, part)
			}
		}
		at = from + len(w.Text)
	}
}
