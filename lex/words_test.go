package lex_test

import (
	"fmt"
	"math/big"
	"regexp"
	"slices"
	"strings"
	"testing"

	"padlock/api"
	"padlock/lex"
)

var (
	blankForm  = regexp.MustCompile("^[ \t\n\r]+")
	wordForm   = regexp.MustCompile("^[A-Za-z_][A-Za-z0-9_]*")
	numberForm = regexp.MustCompile("^[0-9]+")
	badNumber  = regexp.MustCompile("^[0-9]+[A-Za-z_]")
	stringForm = regexp.MustCompile("(?s)^'((?:[^']|'')*)'")
	markForm   = regexp.MustCompile("^(?:<=|>=|<>|[(),*+=<>-])")
)

// cut: the words of P5.1 and P5.2, for statements that are not too long, and have no bytes beyond 127.
func cut(s string) ([]api.Token, int, api.Errno) {
	var l []api.Token
	for at := len(blankForm.FindString(s)); at < len(s); at += len(blankForm.FindString(s[at:])) {
		if len(l) == api.MaxTokens {
			return nil, at, api.ErrFull
		}
		x, n, e := one(s[at:])
		if e != api.OK {
			return nil, at, e
		}
		l, at = append(l, x), at+n
	}
	return l, 0, api.OK
}

// one: the words of P5.1.
func one(s string) (api.Token, int, api.Errno) {
	if found := wordForm.FindString(s); found != "" {
		return word(found), len(found), api.OK
	}
	if found := numberForm.FindString(s); found != "" {
		n, _ := new(big.Int).SetString(found, 10)
		switch {
		case badNumber.MatchString(s):
			return api.Token{}, 0, api.ErrForm
		case !n.IsInt64():
			return api.Token{}, 0, api.ErrOver
		}
		return number(int(n.Int64())), len(found), api.OK
	}
	if found := stringForm.FindStringSubmatch(s); found != nil {
		if strings.HasPrefix(s[len(found[0]):], "'") { // the last ' of it is the first one of two
			return api.Token{}, 0, api.ErrShort
		}
		return text(strings.ReplaceAll(found[1], "''", "'")), len(found[0]), api.OK
	}
	if found := markForm.FindString(s); found != "" {
		return mark(found), len(found), api.OK
	}
	if s[0] == '\'' {
		return api.Token{}, 0, api.ErrShort
	}
	return api.Token{}, 0, api.ErrForm
}

// wantWords: Cut says of a statement what the document says, and what it cuts comes again behind Join.
func wantWords(t *testing.T, s string) {
	t.Helper()
	l, place, e := lex.Cut(s)
	want, at, err := cut(s)
	if !slices.Equal(l, want) || place != at || e != err {
		t.Fatalf("Cut(%q) = %v, %d, %d, want %v, %d, %d", s, l, place, e, want, at, err)
	}
	if e == api.OK {
		wantBack(t, l)
	}
}

// join: the words of P5.4, for tokens that may be.
func join(l []api.Token) (string, api.Errno) {
	s := ""
	for _, x := range l {
		switch x.Kind {
		case api.Number:
			s += fmt.Sprintf("%d ", x.Int)
		case api.String:
			s += "'" + strings.Join(strings.Split(x.Text, "'"), "''") + "' "
		default:
			s += x.Text + " "
		}
	}
	switch {
	case len(l) > api.MaxTokens:
		return "", api.ErrFull
	case len(s) > api.MaxSource:
		return "", api.ErrSize
	}
	return s, api.OK
}

// wantBack: Join makes of tokens that may be what the document says, and what is joined is cut as it was.
func wantBack(t *testing.T, l []api.Token) {
	t.Helper()
	s, e := lex.Join(l)
	if want, err := join(l); s != want || e != err {
		t.Fatalf("Join(%v) = %q, %d, want %q, %d", l, s, e, want, err)
	}
	if e == api.OK {
		wantTokens(t, s, l...)
	}
}

// P5.1, P5.2: all short statements of some bytes.
func TestAllShort(t *testing.T) {
	for _, c := range []struct {
		bytes string
		most  int
	}{{"a1' (<>=?", 5}, {"_Z09'\n,-", 4}, {"'a ", 9}, {"<>=!", 7}, {"1_'", 8}} {
		all := []string{""}
		for range c.most {
			for _, s := range all {
				wantWords(t, s)
			}
			var longer []string
			for _, s := range all {
				for i := range len(c.bytes) {
					longer = append(longer, s+c.bytes[i:i+1])
				}
			}
			all = longer
		}
		for _, s := range all {
			wantWords(t, s)
		}
	}
}

// die: numbers that look drawn, the same each time.
type die uint64

func (d *die) n(most int) int {
	*d = *d*6364136223846793005 + 1442695040888963407
	return int(uint64(*d>>33) % uint64(most))
}

// one of some.
func (d *die) one(l ...string) string { return l[d.n(len(l))] }

// P5.1, P5.2: drawn statements, short ones and such that are nearly too long.
func TestDrawnStatements(t *testing.T) {
	pieces := append([]string{
		"SELECT", "FROM", "t", "_x9", "0", "12", "9223372036854775807", "'a'", "''", "'a''b'", "' '", "'", " ", "\n", "\t", "\r", " ", " ", " ",
	}, allMarks...)
	wrong := []string{"?", "1x", "9223372036854775808", "'", "\x00", "\v", "!"}
	for seed := range 4000 {
		d := die(seed)
		s := ""
		for most := d.n(130); most > 0 && len(s) < api.MaxSource-30; most-- {
			s += d.one(pieces...)
			if d.n(300) == 0 {
				s += d.one(wrong...)
			}
		}
		wantWords(t, s)
	}
}

// token: one that may be.
func (d *die) token() api.Token {
	switch d.n(4) {
	case 0:
		return word(d.one("a", "_", "x_9", "SELECT", "Z0"))
	case 1:
		return number(d.n(1<<d.n(31)+1) * (1 + d.n(1<<30)))
	case 2:
		return mark(d.one(allMarks...))
	}
	s := ""
	for range d.n(8) {
		s += d.one("'", "'", " ", "a", "1", "\x00", "\xff", "\n", "<")
	}
	return text(s)
}

// What comes of it: what is joined is cut as it was.
func TestDrawnTokens(t *testing.T) {
	fit := 0
	for seed := range 4000 {
		d := die(seed)
		var l []api.Token
		for range d.n(api.MaxTokens + 1) {
			l = append(l, d.token())
		}
		wantBack(t, l)
		if _, e := lex.Join(l); e == api.OK {
			fit++
		}
	}
	if fit < 2000 {
		t.Errorf("only %d of them fit", fit)
	}
}
