package lex_test

import (
	"fmt"
	"math"
	"slices"
	"strings"
	"testing"

	"padlock/api"
	"padlock/lex"
)

func word(s string) api.Token { return api.Token{Kind: api.Word, Text: s} }
func number(n int) api.Token  { return api.Token{Kind: api.Number, Int: n} }
func text(s string) api.Token { return api.Token{Kind: api.String, Text: s} }
func mark(s string) api.Token { return api.Token{Kind: api.Mark, Text: s} }

// tokens as a list.
func tokens(l ...api.Token) []api.Token { return l }

// allMarks, in the order of the document.
var allMarks = []string{"(", ")", ",", "*", "+", "-", "=", "<", ">", "<=", ">=", "<>"}

// everyByte there is.
func everyByte() string {
	var b []byte
	for i := range 256 {
		b = append(b, byte(i))
	}
	return string(b)
}

const (
	digits  = "0123456789"
	letters = "ABCDEFGHIJKLMNOPQRSTUVWXYZabcdefghijklmnopqrstuvwxyz"
)

// wantTokens: a statement is cut into these, and it is all right.
func wantTokens(t *testing.T, s string, want ...api.Token) {
	t.Helper()
	if l, place, e := lex.Cut(s); !slices.Equal(l, want) || place != 0 || e != api.OK {
		t.Errorf("Cut(%q) = %v, %d, %d, want %v", s, l, place, e, want)
	}
}

// wantWrong: a statement is not cut, for what is wrong at a place.
func wantWrong(t *testing.T, s string, place int, want api.Errno) {
	t.Helper()
	if l, at, e := lex.Cut(s); len(l) > 0 || at != place || e != want {
		t.Errorf("Cut(%q) = %v, %d, %d, want nothing, %d, %d", s, l, at, e, place, want)
	}
}

// wantJoined: what tokens are joined to, and that this is cut into them again.
func wantJoined(t *testing.T, l []api.Token, want string) {
	t.Helper()
	if s, e := lex.Join(l); s != want || e != api.OK {
		t.Errorf("Join(%v) = %q, %d, want %q", l, s, e, want)
	}
	wantTokens(t, want, l...)
}

// wantNotJoined: tokens are refused.
func wantNotJoined(t *testing.T, l []api.Token, want api.Errno) {
	t.Helper()
	if s, e := lex.Join(l); s != "" || e != want {
		t.Errorf("Join(%v) = %q, %d, want %d", l, s, e, want)
	}
}

// P5.1: words.
func TestWords(t *testing.T) {
	all := letters + "_" + digits
	for _, s := range []string{"a", "Z", "_", "__", "_9", "a0", "SELECT", "select", all, strings.Repeat("x", api.MaxSource)} {
		wantTokens(t, s, word(s))
	}
	for i := range len(all) {
		wantTokens(t, "x"+all[i:i+1]+"y", word("x"+all[i:i+1]+"y"))
	}
	wantTokens(t, "a b", word("a"), word("b"))
	wantTokens(t, "a'b'c", word("a"), text("b"), word("c"))
	wantTokens(t, "a<b", word("a"), mark("<"), word("b"))
	wantWrong(t, "a.b", 1, api.ErrForm)
	wantWrong(t, "aé", 1, api.ErrForm)
}

// P5.1: numbers.
func TestNumbers(t *testing.T) {
	for _, c := range []struct {
		s    string
		want int
	}{
		{"0", 0}, {"7", 7}, {"10", 10}, {"0123456789", 123456789}, {"9876543210", 9876543210}, {"007", 7}, {"00", 0},
		{"999999999999999999", 999999999999999999}, {"1000000000000000000", 1000000000000000000},
		{"9223372036854775806", math.MaxInt - 1}, {"9223372036854775807", math.MaxInt}, {"0009223372036854775807", math.MaxInt},
		{strings.Repeat("0", api.MaxSource), 0}, {strings.Repeat("0", api.MaxSource-2) + "42", 42},
	} {
		wantTokens(t, c.s, number(c.want))
	}
	wantTokens(t, "1 2", number(1), number(2))
	wantTokens(t, "-1", mark("-"), number(1))
	wantTokens(t, "1'a'2", number(1), text("a"), number(2))
	for _, s := range []string{
		"9223372036854775808", "9223372036854775809", "9223372036854775810", "10000000000000000000", "09223372036854775808",
		"18446744073709551615", "18446744073709551616", "18446744073709551617", "99999999999999999999", strings.Repeat("9", api.MaxSource-2),
		"36893488147419103233", // 1, where it wraps round
	} {
		wantWrong(t, s, 0, api.ErrOver)
		wantWrong(t, s+" ?", 0, api.ErrOver)
		wantWrong(t, s+"x", 0, api.ErrForm) // named ahead of ErrOver
		wantWrong(t, s+"_", 0, api.ErrForm)
	}
	for _, s := range []string{"1x", "1_", "0x10", "1e5", "1_000", "12ab", "1Z"} {
		wantWrong(t, s, 0, api.ErrForm)
		wantWrong(t, "a "+s, 2, api.ErrForm)
	}
}

// P5.1: of what may be right behind a number, letters and _ are wrong there, all else is not.
func TestBehindNumber(t *testing.T) {
	for i, b := range everyByte() {
		s := "12" + everyByte()[i:i+1]
		switch {
		case strings.ContainsRune(digits, b):
			wantTokens(t, s, number(120+i-'0'))
		case strings.ContainsRune(letters+"_", b):
			wantWrong(t, s, 0, api.ErrForm)
		case b == '\'':
			wantWrong(t, s, 2, api.ErrShort)
		case strings.ContainsRune("()*+-,=<>", b):
			wantTokens(t, s, number(12), mark(s[2:]))
		case strings.ContainsRune(" \t\n\r", b):
			wantTokens(t, s, number(12))
		default:
			wantWrong(t, s, 2, api.ErrForm)
		}
	}
}

// P5.1: strings.
func TestStrings(t *testing.T) {
	for _, c := range []struct{ s, want string }{
		{"''", ""}, {"'a'", "a"}, {"' '", " "}, {"'a b'", "a b"}, {"'1'", "1"}, {"'<='", "<="}, {"'\t\n\r'", "\t\n\r"}, {"'\\'", "\\"}, {`'"'`, `"`},
		{"''''", "'"}, {"'a'''", "a'"}, {"'''a'", "'a"}, {"'a''b'", "a'b"}, {"''''''", "''"}, {"'a''''b'", "a''b"}, {"''' '''", "' '"},
		{"'\x00\xff'", "\x00\xff"}, {"'é'", "é"},
		{"'" + strings.Repeat("x", api.MaxSource-2) + "'", strings.Repeat("x", api.MaxSource-2)}, // longer than a value's text may be
		{strings.Repeat("'", api.MaxSource), strings.Repeat("'", api.MaxSource/2-1)},
	} {
		wantTokens(t, c.s, text(c.want))
	}
	for i := range 256 {
		if b := string([]byte{byte(i)}); b != "'" {
			wantTokens(t, "'"+b+"'", text(b))
		}
	}
	wantTokens(t, "'a' 'b'", text("a"), text("b"))
	wantTokens(t, "'a'\n'b'", text("a"), text("b"))
	wantTokens(t, "'a'b", text("a"), word("b"))
	wantTokens(t, "'a'1", text("a"), number(1))
	wantTokens(t, "'a'=''", text("a"), mark("="), text(""))
	for _, s := range []string{"'", "'a", "'''", "'a''", "'a''b", "'''''", "' ", "'?", "'1x", "'" + strings.Repeat("x", api.MaxSource-1), strings.Repeat("'", api.MaxSource-1)} {
		wantWrong(t, s, 0, api.ErrShort)
	}
	wantWrong(t, "'a' 'b", 4, api.ErrShort)
	wantWrong(t, "'a''", 0, api.ErrShort)
	wantWrong(t, "''' ''", 0, api.ErrShort)
}

// P5.1: marks, alone and one right behind the other, as long as can be.
func TestMarks(t *testing.T) {
	for _, a := range allMarks {
		wantTokens(t, a, mark(a))
		for _, b := range allMarks {
			s := a + b
			switch {
			case slices.Contains(allMarks, s):
				wantTokens(t, s, mark(s))
			case slices.Contains(allMarks, s[:2]):
				wantTokens(t, s, mark(s[:2]), mark(s[2:]))
			default:
				wantTokens(t, s, mark(a), mark(b))
			}
			wantTokens(t, a+" "+b, mark(a), mark(b))
		}
	}
	wantTokens(t, "=<", mark("="), mark("<"))
	wantTokens(t, "=>", mark("="), mark(">"))
	wantTokens(t, "><", mark(">"), mark("<"))
	wantTokens(t, "==", mark("="), mark("="))
	wantTokens(t, "<=>", mark("<="), mark(">"))
	wantTokens(t, "<>=", mark("<>"), mark("="))
	wantTokens(t, "<<>", mark("<"), mark("<>"))
	for _, s := range []string{"!=", ";", "/", "%", ".", "\"a\"", "[", "{", "|", "^", "&&"} {
		wantWrong(t, s, 0, api.ErrForm)
		wantWrong(t, "=="+s, 2, api.ErrForm)
	}
}

// P5.1: what may stand between tokens, ahead of them and behind them.
func TestBlanks(t *testing.T) {
	want := tokens(word("a"), number(1))
	for i := range 256 {
		b := string([]byte{byte(i)})
		switch i {
		case 32, 9, 10, 13:
			for _, s := range []string{b, b + b, b + " ", "\n" + b, strings.Repeat(b, 50)} {
				wantTokens(t, "a"+s+"1", want...)
				wantTokens(t, s+"a\r1", want...)
				wantTokens(t, "a\t1"+s, want...)
				wantTokens(t, s)
			}
		default:
			if l, _, _ := lex.Cut("a" + b + "1"); slices.Equal(l, want) {
				t.Errorf("byte %d may stand between tokens", i)
			}
		}
	}
	wantTokens(t, "")
	wantTokens(t, strings.Repeat(" ", api.MaxSource))
}

// P5.2: whole statements.
func TestStatements(t *testing.T) {
	wantTokens(t, "SELECT * FROM t WHERE n>=-1",
		word("SELECT"), mark("*"), word("FROM"), word("t"), word("WHERE"), word("n"), mark(">="), mark("-"), number(1))
	wantTokens(t, "INSERT INTO t\r\n\tVALUES(1,'it''s',NULL)",
		word("INSERT"), word("INTO"), word("t"), word("VALUES"), mark("("), number(1), mark(","), text("it's"), mark(","), word("NULL"), mark(")"))
	wantTokens(t, "UPDATE t SET n=n+1 WHERE id<>2",
		word("UPDATE"), word("t"), word("SET"), word("n"), mark("="), word("n"), mark("+"), number(1), word("WHERE"), word("id"), mark("<>"), number(2))
}

// P5.2: the place of the first one that is none, and what it says.
func TestPlaces(t *testing.T) {
	for _, c := range []struct {
		wrong string
		want  api.Errno
	}{
		{"1a", api.ErrForm}, {"9223372036854775808", api.ErrOver}, {"'a", api.ErrShort}, {"?", api.ErrForm}, {"\x00", api.ErrForm}, {"\x0b", api.ErrForm},
		{"\xc2\xa0", api.ErrForm}, {"99999999999999999999_", api.ErrForm},
	} {
		wantWrong(t, c.wrong, 0, c.want)
		for _, ahead := range []string{" ", "\n\t", "a ", "12 ", "'a' ", "'''' ", "(", "<=", "a<=12 'b''c'\r\n"} {
			wantWrong(t, ahead+c.wrong, len(ahead), c.want)
		}
		if c.want != api.ErrShort { // the first one that is none tells
			for _, behind := range []string{" ?", " 1a", " 'a", " 9223372036854775808", strings.Repeat(" a", 150)} {
				wantWrong(t, "a "+c.wrong+behind, 2, c.want)
			}
		}
	}
}

// P5.2: every byte, where a token should begin.
func TestFirstBytes(t *testing.T) {
	for i := range 256 {
		b := string([]byte{byte(i)})
		switch {
		case strings.Contains(letters+"_", b):
			wantTokens(t, "( "+b, mark("("), word(b))
		case strings.Contains(digits, b):
			wantTokens(t, "( "+b, mark("("), number(i-'0'))
		case slices.Contains(allMarks, b):
			wantTokens(t, "( "+b, mark("("), mark(b))
		case strings.Contains(" \t\n\r", b):
			wantTokens(t, "( "+b, mark("("))
		case b == "'":
			wantWrong(t, "( "+b, 2, api.ErrShort)
		default:
			wantWrong(t, "( "+b, 2, api.ErrForm)
		}
	}
}

// P5.2: as many bytes as there may be, and more.
func TestSize(t *testing.T) {
	wantTokens(t, "a"+strings.Repeat(" ", api.MaxSource-1), word("a"))
	wantTokens(t, strings.Repeat(" ", api.MaxSource-1)+"a", word("a"))
	wantWrong(t, strings.Repeat(" ", api.MaxSource-1)+"?", api.MaxSource-1, api.ErrForm)
	wantWrong(t, strings.Repeat(" ", api.MaxSource-1)+"'", api.MaxSource-1, api.ErrShort)
	for _, s := range []string{
		strings.Repeat(" ", api.MaxSource+1), strings.Repeat("x", api.MaxSource+1), "?" + strings.Repeat(" ", api.MaxSource), "1x" + strings.Repeat(" ", api.MaxSource),
		strings.Repeat("( ", 300), "'" + strings.Repeat("x", api.MaxSource), strings.Repeat("9", 100000),
	} {
		wantWrong(t, s, 0, api.ErrSize)
	}
}

// P5.2: as many tokens as there may be, and more: whatever would begin there, and be it none.
func TestFull(t *testing.T) {
	for _, c := range []struct {
		s string
		x api.Token
	}{{"a ", word("a")}, {"7\t", number(7)}, {"''\n", text("")}, {"<=", mark("<=")}, {"(", mark("(")}} {
		s := strings.Repeat(c.s, api.MaxTokens)
		all := slices.Repeat(tokens(c.x), api.MaxTokens)
		wantTokens(t, s, all...)
		wantTokens(t, s+" \t\r\n", all...)
		for _, more := range []string{"x", "7", "'z'", ")", "?", "1a", "'", "9223372036854775808", "x ?"} {
			wantWrong(t, s+" "+more, len(s)+1, api.ErrFull)
		}
		wantWrong(t, s[len(c.s):]+" ?", len(s)-len(c.s)+1, api.ErrForm)
		wantWrong(t, "?"+s+"x", 0, api.ErrForm)
		wantWrong(t, s+c.s+"?", len(s), api.ErrFull)
	}
	wantWrong(t, strings.Repeat("1,", api.MaxTokens), api.MaxTokens, api.ErrFull)
}

// P5.3: tokens that may be.
func TestMayBe(t *testing.T) {
	l := tokens(number(0), number(1), number(math.MaxInt), text(""), text("a"), text("'"), text("\x00\xff\n"), text(strings.Repeat("x", 1000)),
		word("a"), word("_"), word("a1"), word("SELECT"), word(letters+digits), word(strings.Repeat("x", 1000)))
	for _, s := range allMarks {
		l = append(l, mark(s))
	}
	for _, x := range l {
		if e := lex.Check(x); e != api.OK {
			t.Errorf("Check(%v) = %d", x, e)
		}
	}
}

// refusals: tokens that may not be, and what Check says of them.
var refusals = []struct {
	x    api.Token
	want api.Errno
}{
	{api.Token{}, api.ErrKind},
	{api.Token{Kind: 5, Text: "a"}, api.ErrKind},
	{api.Token{Kind: -1, Int: -1}, api.ErrKind},
	{api.Token{Text: "a", Int: 1}, api.ErrKind},
	{api.Token{Kind: math.MaxInt}, api.ErrKind},
	{api.Token{Kind: math.MinInt}, api.ErrKind},

	{number(-1), api.ErrRange},
	{number(math.MinInt), api.ErrRange},
	{api.Token{Kind: api.Number, Int: -1, Text: "1"}, api.ErrRange},

	{api.Token{Kind: api.Number, Text: "1"}, api.ErrForm},
	{api.Token{Kind: api.Number, Int: 1, Text: "1"}, api.ErrForm},
	{api.Token{Kind: api.Word, Text: "a", Int: 1}, api.ErrForm},
	{api.Token{Kind: api.Word, Text: "a", Int: -1}, api.ErrForm},
	{api.Token{Kind: api.String, Text: "a", Int: 1}, api.ErrForm},
	{api.Token{Kind: api.String, Int: math.MinInt}, api.ErrForm},
	{api.Token{Kind: api.Mark, Text: "(", Int: 1}, api.ErrForm},
	{api.Token{Kind: api.Mark, Text: "(", Int: -1}, api.ErrForm},

	{word(""), api.ErrForm}, {word("1"), api.ErrForm}, {word("1a"), api.ErrForm}, {word(" a"), api.ErrForm}, {word("a "), api.ErrForm},
	{word("a b"), api.ErrForm}, {word("a-b"), api.ErrForm}, {word("'a'"), api.ErrForm}, {word("é"), api.ErrForm}, {word("a\x00"), api.ErrForm}, {word("("), api.ErrForm},

	{mark(""), api.ErrForm}, {mark("=<"), api.ErrForm}, {mark("=>"), api.ErrForm}, {mark("<=>"), api.ErrForm}, {mark("()"), api.ErrForm}, {mark("<< "), api.ErrForm},
	{mark("( "), api.ErrForm}, {mark(" ("), api.ErrForm}, {mark("=="), api.ErrForm}, {mark("!="), api.ErrForm}, {mark("a"), api.ErrForm}, {mark("1"), api.ErrForm}, {mark("'"), api.ErrForm}, {mark(";"), api.ErrForm},
}

// P5.3: tokens that may not be.
func TestMayNotBe(t *testing.T) {
	for _, c := range refusals {
		if e := lex.Check(c.x); e != c.want {
			t.Errorf("Check(%v) = %d, want %d", c.x, e, c.want)
		}
	}
}

// P5.3: all texts of up to two bytes, as those of words and marks.
func TestShortTexts(t *testing.T) {
	all := []string{""}
	for i := range 256 {
		all = append(all, string([]byte{byte(i)}))
		for j := range 256 {
			all = append(all, string([]byte{byte(i), byte(j)}))
		}
	}
	for _, s := range all {
		isWord := s != "" && strings.Trim(s, letters+digits+"_") == "" && !strings.Contains(digits, s[:1])
		for _, c := range []struct {
			x   api.Token
			may bool
		}{{word(s), isWord}, {mark(s), slices.Contains(allMarks, s)}} {
			want := api.ErrForm
			if c.may {
				want = api.OK
			}
			if e := lex.Check(c.x); e != want {
				t.Errorf("Check(%q) = %d, want %d", fmt.Sprint(c.x), e, want)
			}
		}
	}
}

// P5.4
func TestJoin(t *testing.T) {
	wantJoined(t, nil, "")
	wantJoined(t, tokens(), "")
	wantJoined(t, tokens(word("a")), "a ")
	wantJoined(t, tokens(number(0)), "0 ")
	wantJoined(t, tokens(number(math.MaxInt)), "9223372036854775807 ")
	wantJoined(t, tokens(text("")), "'' ")
	wantJoined(t, tokens(text("'")), "'''' ")
	wantJoined(t, tokens(text("a'b''c")), "'a''b''''c' ")
	wantJoined(t, tokens(text(" \x00\xff\n")), "' \x00\xff\n' ")
	wantJoined(t, tokens(text("a"), text("b")), "'a' 'b' ")
	wantJoined(t, tokens(mark("<"), mark("="), mark("<="), mark("<"), mark(">")), "< = <= < > ")
	wantJoined(t, tokens(number(1), word("a"), word("b"), number(2), number(3)), "1 a b 2 3 ")
	wantJoined(t, tokens(word("SELECT"), mark("*"), word("FROM"), word("t"), word("WHERE"), word("n"), mark("="), text("it's")), "SELECT * FROM t WHERE n = 'it''s' ")
	for _, s := range allMarks {
		wantJoined(t, tokens(mark(s), mark(s)), s+" "+s+" ")
	}
}

// P5.4: as many tokens as there may be, and more.
func TestJoinFull(t *testing.T) {
	most := slices.Repeat(tokens(mark("<=")), api.MaxTokens)
	wantJoined(t, most, strings.Repeat("<= ", api.MaxTokens))
	wantNotJoined(t, append(slices.Clone(most), mark("(")), api.ErrFull)
	wantNotJoined(t, make([]api.Token, api.MaxTokens+1), api.ErrFull) // ahead of ErrKind
	wantNotJoined(t, slices.Repeat(tokens(word("abcdef")), api.MaxTokens+1), api.ErrFull)
	wantNotJoined(t, slices.Repeat(tokens(word("a")), 100000), api.ErrFull)
}

// P5.4: as many bytes as there may be, the blank behind the last one among them, and more.
func TestJoinSize(t *testing.T) {
	x := func(n int) string { return strings.Repeat("x", n) }
	most := api.MaxSource
	wantJoined(t, tokens(word(x(most-1))), x(most-1)+" ")
	wantJoined(t, tokens(text(x(most-3))), "'"+x(most-3)+"' ")
	wantJoined(t, tokens(text(strings.Repeat("'", most/2-2)+"x")), strings.Repeat("'", most-3)+"x' ")
	wantJoined(t, slices.Repeat(tokens(word("abc")), most/4), strings.Repeat("abc ", most/4))
	wantJoined(t, tokens(word(x(most-3)), number(7)), x(most-3)+" 7 ")
	for _, l := range [][]api.Token{
		{word(x(most))}, {word(x(most + 1))}, {text(x(most - 2))}, {text(strings.Repeat("'", most/2-1))}, {text(x(100000))},
		{word(x(most - 3)), number(77)}, {word(x(most - 1)), mark("(")}, {word(x(most - 2)), number(0)},
		append(slices.Repeat(tokens(word("abc")), most/4-1), word("abcd")),
	} {
		wantNotJoined(t, l, api.ErrSize)
	}
}

// P5.4: what Check refuses; token by token, so that the first one that is refused tells.
func TestJoinRefusals(t *testing.T) {
	long := text(strings.Repeat("x", api.MaxSource))
	for _, c := range refusals {
		wantNotJoined(t, tokens(c.x), c.want)
		wantNotJoined(t, tokens(word("a"), c.x), c.want)
		wantNotJoined(t, tokens(word("a"), c.x, long), c.want)
		wantNotJoined(t, tokens(long, c.x), api.ErrSize)
		wantNotJoined(t, append(slices.Repeat(tokens(mark("(")), api.MaxTokens-1), c.x), c.want)
		for _, d := range refusals {
			wantNotJoined(t, tokens(c.x, d.x), c.want)
		}
	}
	wantNotJoined(t, tokens(word(long.Text+"?")), api.ErrForm) // ahead of ErrSize, for one token
}
