package tests

import (
	"fmt"
	"math"
	"math/rand"
	"regexp"
	"slices"
	"strings"
	"testing"

	"loop.example/g00751/impl"
)

func word(text string, at int) impl.Token {
	return impl.Token{Kind: impl.TkWord, Text: text, At: at}
}

func name(text string, at int) impl.Token {
	return impl.Token{Kind: impl.TkName, Text: text, At: at}
}

func num(text string, at int) impl.Token {
	return impl.Token{Kind: impl.TkNum, Text: text, At: at}
}

func str(text string, at int) impl.Token {
	return impl.Token{Kind: impl.TkText, Text: text, At: at}
}

func sign(text string, at int) impl.Token {
	return impl.Token{Kind: impl.TkSign, Text: text, At: at}
}

// shown is short enough for a message, however many tokens there are.
func shown(list []impl.Token) string {
	return fmt.Sprintf("%.300q", fmt.Sprint(list))
}

type lexCase struct {
	s    string
	want []impl.Token
}

func checkLex(t *testing.T, cases []lexCase) {
	t.Helper()
	for _, c := range cases {
		if got, at := impl.Lex(c.s); at != -1 || !slices.Equal(got, c.want) {
			t.Errorf("Lex(%.200q) = %s, %d, want %s", c.s, shown(got), at, shown(c.want))
		}
	}
}

func checkMalformed(t *testing.T, s string, want int) {
	t.Helper()
	if got, at := impl.Lex(s); at != want || len(got) != 0 {
		t.Errorf("Lex(%.200q) = %s, %d, want none and %d", s, shown(got), at, want)
	}
}

func TestTokenKinds(t *testing.T) {
	kinds := []int{impl.TkWord, impl.TkName, impl.TkNum, impl.TkText, impl.TkSign}
	if !slices.Equal(kinds, []int{0, 1, 2, 3, 4}) {
		t.Error(kinds)
	}
}

func TestLexOfOneToken(t *testing.T) {
	checkLex(t, []lexCase{
		{"a", []impl.Token{word("a", 0)}}, {"_", []impl.Token{word("_", 0)}}, {"z9_", []impl.Token{word("z9_", 0)}},
		{"A", []impl.Token{word("a", 0)}}, {"Z", []impl.Token{word("z", 0)}}, {"CREATE", []impl.Token{word("create", 0)}},
		{"_Ab9Z_", []impl.Token{word("_ab9z_", 0)}}, {"__1", []impl.Token{word("__1", 0)}},
		{`"a"`, []impl.Token{name("a", 0)}}, {`"A b"`, []impl.Token{name("A b", 0)}}, {`"TABLE"`, []impl.Token{name("TABLE", 0)}},
		{`"it's"`, []impl.Token{name("it's", 0)}}, {"\"\x80\n\t\"", []impl.Token{name("\x80\n\t", 0)}}, {`"1"`, []impl.Token{name("1", 0)}},
		{"0", []impl.Token{num("0", 0)}}, {"7", []impl.Token{num("7", 0)}}, {"10", []impl.Token{num("10", 0)}},
		{"''", []impl.Token{str("", 0)}}, {"'A b'", []impl.Token{str("A b", 0)}}, {`'say "a"'`, []impl.Token{str(`say "a"`, 0)}},
		{"'\x00\xff\n'", []impl.Token{str("\x00\xff\n", 0)}},
		{"<=", []impl.Token{sign("<=", 0)}}, {">=", []impl.Token{sign(">=", 0)}}, {"<>", []impl.Token{sign("<>", 0)}},
	})
}

// Every byte alone, and at the end of a text, begins a token of one kind, is skipped, or is malformed.
func TestLexOfEveryByte(t *testing.T) {
	for b := range 256 {
		s := string([]byte{byte(b)})
		var want []impl.Token
		switch {
		case strings.Contains("ABCDEFGHIJKLMNOPQRSTUVWXYZ", s):
			want = []impl.Token{word(string(rune(b+32)), 2)}
		case strings.Contains("abcdefghijklmnopqrstuvwxyz_", s):
			want = []impl.Token{word(s, 2)}
		case strings.Contains("0123456789", s):
			want = []impl.Token{num(s, 2)}
		case strings.Contains("(),;=<>+-*.", s):
			want = []impl.Token{sign(s, 2)}
		case strings.Contains(" \t\n\r", s):
		default:
			checkMalformed(t, s, 0)
			checkMalformed(t, "x "+s, 2)
			checkMalformed(t, "x "+s+" y", 2)
			checkMalformed(t, "x"+s+"!", 1)
			continue
		}
		checkLex(t, []lexCase{{"x " + s, append([]impl.Token{word("x", 0)}, want...)}, {"  " + s, want}})
	}
}

func TestLexOfTokensSideBySide(t *testing.T) {
	checkLex(t, []lexCase{
		{"aB", []impl.Token{word("ab", 0)}}, {`a"B"`, []impl.Token{word("a", 0), name("B", 1)}},
		{"a1", []impl.Token{word("a1", 0)}}, {"a'B'", []impl.Token{word("a", 0), str("B", 1)}}, {"a=", []impl.Token{word("a", 0), sign("=", 1)}},
		{`"a"b`, []impl.Token{name("a", 0), word("b", 3)}}, {`"a""b"`, []impl.Token{name(`a"b`, 0)}},
		{`"a"1`, []impl.Token{name("a", 0), num("1", 3)}}, {`"a"'b'`, []impl.Token{name("a", 0), str("b", 3)}},
		{`"a"=`, []impl.Token{name("a", 0), sign("=", 3)}},
		{`1"b"`, []impl.Token{num("1", 0), name("b", 1)}}, {"12", []impl.Token{num("12", 0)}},
		{"1'b'", []impl.Token{num("1", 0), str("b", 1)}}, {"1=", []impl.Token{num("1", 0), sign("=", 1)}},
		{"'a'b", []impl.Token{str("a", 0), word("b", 3)}}, {`'a'"b"`, []impl.Token{str("a", 0), name("b", 3)}},
		{"'a'1", []impl.Token{str("a", 0), num("1", 3)}}, {"'a''b'", []impl.Token{str("a'b", 0)}},
		{"'a'=", []impl.Token{str("a", 0), sign("=", 3)}},
		{"=a", []impl.Token{sign("=", 0), word("a", 1)}}, {`="a"`, []impl.Token{sign("=", 0), name("a", 1)}},
		{"=1", []impl.Token{sign("=", 0), num("1", 1)}}, {"='a'", []impl.Token{sign("=", 0), str("a", 1)}},
		{"==", []impl.Token{sign("=", 0), sign("=", 1)}},
		{"1.5", []impl.Token{num("1", 0), sign(".", 1), num("5", 2)}}, {"a.b", []impl.Token{word("a", 0), sign(".", 1), word("b", 2)}},
		{"-1", []impl.Token{sign("-", 0), num("1", 1)}}, {"0-0", []impl.Token{num("0", 0), sign("-", 1), num("0", 2)}},
		{`''""""''`, []impl.Token{str("", 0), name(`"`, 2), str("", 6)}},
	})
	checkMalformed(t, "1a", 0)
	checkMalformed(t, `""a`, 0)
}

func TestLexOfSignsSideBySide(t *testing.T) {
	signs := []string{"<=", ">=", "<>", "(", ")", ",", ";", "=", "<", ">", "+", "-", "*", "."}
	merged := map[string][]impl.Token{
		"--":  nil,
		"<=":  {sign("<=", 0)},
		">=":  {sign(">=", 0)},
		"<>":  {sign("<>", 0)},
		"<>=": {sign("<>", 0), sign("=", 2)},
	}
	for _, a := range signs {
		checkLex(t, []lexCase{{a, []impl.Token{sign(a, 0)}}})
		for _, b := range signs {
			want, ok := merged[a+b]
			if !ok {
				want = []impl.Token{sign(a, 0), sign(b, len(a))}
			}
			checkLex(t, []lexCase{{a + b, want}, {a + " " + b, []impl.Token{sign(a, 0), sign(b, len(a)+1)}}})
		}
	}
	checkLex(t, []lexCase{
		{"<<>>", []impl.Token{sign("<", 0), sign("<>", 1), sign(">", 3)}},
		{"<=>=", []impl.Token{sign("<=", 0), sign(">=", 2)}},
		{"=<", []impl.Token{sign("=", 0), sign("<", 1)}},
		{"><", []impl.Token{sign(">", 0), sign("<", 1)}},
	})
}

func TestLexOfDoubledQuotes(t *testing.T) {
	checkLex(t, []lexCase{
		{`""""`, []impl.Token{name(`"`, 0)}}, {`""""""`, []impl.Token{name(`""`, 0)}}, {`"""a"`, []impl.Token{name(`"a`, 0)}},
		{`"a"""`, []impl.Token{name(`a"`, 0)}}, {`"a""b"`, []impl.Token{name(`a"b`, 0)}}, {`"a""""b"`, []impl.Token{name(`a""b`, 0)}},
		{`"a" "b"`, []impl.Token{name("a", 0), name("b", 4)}}, {`"a"""b`, []impl.Token{name(`a"`, 0), word("b", 5)}},
		{`"a''b"`, []impl.Token{name("a''b", 0)}},
		{"''''", []impl.Token{str("'", 0)}}, {"''''''", []impl.Token{str("''", 0)}}, {"'''a'", []impl.Token{str("'a", 0)}},
		{"'a'''", []impl.Token{str("a'", 0)}}, {"'a''b'", []impl.Token{str("a'b", 0)}}, {"'a''''b'", []impl.Token{str("a''b", 0)}},
		{"'a' 'b'", []impl.Token{str("a", 0), str("b", 4)}}, {"'a'''b", []impl.Token{str("a'", 0), word("b", 5)}},
		{`'a""b'`, []impl.Token{str(`a""b`, 0)}}, {"'' ''", []impl.Token{str("", 0), str("", 3)}},
	})
	for _, s := range []string{`"`, `"a`, `"a""`, `"""`, `"a""b`, `"""""`, `"a" "`, `"a'`, "\"a\n", "'", "'a", "'a''", "'''", "'a''b", "'''''", `'a"`, "'a\n", `""`, `""a""`} {
		want := 0
		if s == `"a" "` {
			want = 4
		}
		checkMalformed(t, s, want)
		checkMalformed(t, "=\n"+s, want+2)
	}
}

func TestLexOfNameLengths(t *testing.T) {
	for _, unit := range []string{"a", "A", " ", "-", "'", "\n", "\xff", `"`} {
		for _, n := range []int{1, 2, 39, 40} {
			value := strings.Repeat(unit, n)
			quoted := impl.Quote(value, '"')
			checkLex(t, []lexCase{{"=" + quoted + ",", []impl.Token{sign("=", 0), name(value, 1), sign(",", 1+len(quoted))}}})
		}
		for _, n := range []int{41, 42, 80, 81, 82, 5000} {
			checkMalformed(t, "="+impl.Quote(strings.Repeat(unit, n), '"')+",", 1)
		}
	}
	checkMalformed(t, `a ""`, 2)
	checkMalformed(t, `a "" b`, 2)
	for _, value := range []string{"\x00", "\x00a", "a\x00", "a\x00b", strings.Repeat("a", 39) + "\x00"} {
		checkMalformed(t, `a "`+value+`"`, 2)
	}
	checkLex(t, []lexCase{{"\"a\x01\"", []impl.Token{name("a\x01", 0)}}, {`"\0"`, []impl.Token{name(`\0`, 0)}}})
}

func TestLexOfStringLengths(t *testing.T) {
	for _, unit := range []string{"a", "A", " ", "-", "'", "\n", "\xff", `"`, "\x00"} {
		for _, n := range []int{0, 1, 99, 100} {
			value := strings.Repeat(unit, n)
			quoted := impl.Quote(value, '\'')
			checkLex(t, []lexCase{{"=" + quoted + ",", []impl.Token{sign("=", 0), str(value, 1), sign(",", 1+len(quoted))}}})
		}
		for _, n := range []int{101, 102, 200, 201, 202, 5000} {
			checkMalformed(t, "="+impl.Quote(strings.Repeat(unit, n), '\'')+",", 1)
		}
	}
}

func TestLexOfNumbers(t *testing.T) {
	for _, s := range []string{"0", "1", "9", "10", "90", "100", "12345678", "123456789", "100000000", "999999999"} {
		for _, behind := range []string{"", " ", "\n", "\t", "\r", "-- 1", "\n1"} {
			if got, at := impl.Lex("= " + s + behind); at != -1 || len(got) < 2 || got[1] != num(s, 2) {
				t.Errorf("%q, then %q: %s, %d", s, behind, shown(got), at)
			}
		}
		for b := range 256 {
			behind := string([]byte{byte(b)})
			_, alone := impl.Lex(behind)
			want := -1
			switch {
			case strings.Contains("ABCDEFGHIJKLMNOPQRSTUVWXYZabcdefghijklmnopqrstuvwxyz_", behind):
				want = 2
			case strings.Contains("0123456789", behind):
				if s == "0" || len(s) == 9 {
					want = 2
				}
			case alone != -1:
				want = 2 + len(s)
			}
			if got, at := impl.Lex("= " + s + behind); at != want || (at != -1 && len(got) != 0) {
				t.Errorf("%q, then %q: %s, %d, want %d", s, behind, shown(got), at, want)
			}
		}
	}
	bad := []string{
		"00", "01", "07", "007", "0123", "000000000", "0000000001", "1234567890", "1000000000", "9999999999", "12345678901234567890",
		strings.Repeat("1", 5000), "1a", "1Z", "1_", "0x1", "1e3", "123456789a", "123456789_", "0_", "1_0", "1a2", "00a",
	}
	for _, s := range bad {
		checkMalformed(t, s, 0)
		checkMalformed(t, "a "+s, 2)
		checkMalformed(t, "=("+s+")", 2)
		checkMalformed(t, "'x'"+s+" !", 3)
	}
}

func TestLexOfWords(t *testing.T) {
	long := strings.Repeat("aB_9", 100)
	checkLex(t, []lexCase{
		{"Create tAble T_1", []impl.Token{word("create", 0), word("table", 7), word("t_1", 13)}},
		{long, []impl.Token{word(strings.ToLower(long), 0)}},
		{"ABCDEFGHIJKLMNOPQRSTUVWXYZ", []impl.Token{word("abcdefghijklmnopqrstuvwxyz", 0)}},
		{"abcdefghijklmnopqrstuvwxyz_0123456789", []impl.Token{word("abcdefghijklmnopqrstuvwxyz_0123456789", 0)}},
		{"SELECT \"SELECT\" 'SELECT'", []impl.Token{word("select", 0), name("SELECT", 7), str("SELECT", 16)}},
	})
	for b := range 256 {
		behind := string([]byte{byte(b)})
		got, at := impl.Lex("Ab" + behind)
		if strings.Contains("ABCDEFGHIJKLMNOPQRSTUVWXYZabcdefghijklmnopqrstuvwxyz_0123456789", behind) {
			if want := word(strings.ToLower("Ab"+behind), 0); at != -1 || !slices.Equal(got, []impl.Token{want}) {
				t.Errorf("Ab, then %q: %s, %d", behind, shown(got), at)
			}
		} else if _, alone := impl.Lex(behind); (alone == -1) != (at == -1) || (at == -1 && got[0] != word("ab", 0)) || (at != -1 && at != 2) {
			t.Errorf("Ab, then %q: %s, %d", behind, shown(got), at)
		}
	}
}

func TestLexOfComments(t *testing.T) {
	a, b := word("a", 0), word("b", 0)
	at := func(x impl.Token, i int) impl.Token { x.At = i; return x }
	checkLex(t, []lexCase{
		{"--", nil}, {"---", nil}, {"----", nil}, {"--\n", nil}, {"--\n--", nil}, {"-- a", nil}, {"--a\n", nil}, {"--!\x00'\"\n", nil},
		{"--x\na", []impl.Token{at(a, 4)}}, {"-- it's \"\na", []impl.Token{at(a, 10)}}, {"--x\n\na", []impl.Token{at(a, 5)}},
		{"--x\n--y\na", []impl.Token{at(a, 8)}}, {"--x--y\na", []impl.Token{at(a, 7)}}, {"--x\ra\n", nil}, {"--x\ta", nil},
		{"a--b", []impl.Token{a}}, {"a --b", []impl.Token{a}}, {"a-- b\nb", []impl.Token{a, at(b, 6)}}, {"a--\nb", []impl.Token{a, at(b, 4)}},
		{"a\n--x\n\tb--", []impl.Token{a, at(b, 7)}}, {"a---b\nb", []impl.Token{a, at(b, 6)}},
		{"a-b", []impl.Token{a, sign("-", 1), at(b, 2)}}, {"a - -b", []impl.Token{a, sign("-", 2), sign("-", 4), at(b, 5)}},
		{"-", []impl.Token{sign("-", 0)}}, {"-\n-", []impl.Token{sign("-", 0), sign("-", 2)}}, {"- --\n-", []impl.Token{sign("-", 0), sign("-", 5)}},
		{"1--1\n1", []impl.Token{num("1", 0), num("1", 5)}}, {"<--=\n=", []impl.Token{sign("<", 0), sign("=", 5)}},
		{"'a'--'\n'b'", []impl.Token{str("a", 0), str("b", 7)}}, {"\"a\"--\"\n\"b\"", []impl.Token{name("a", 0), name("b", 7)}},
		{"'--'", []impl.Token{str("--", 0)}}, {"'a--b'b", []impl.Token{str("a--b", 0), at(b, 6)}}, {"'--\n'", []impl.Token{str("--\n", 0)}},
		{`"--"`, []impl.Token{name("--", 0)}}, {`"a--b"b`, []impl.Token{name("a--b", 0), at(b, 6)}}, {"\"--\n\"", []impl.Token{name("--\n", 0)}},
		{"'''--'--'", []impl.Token{str("'--", 0)}},
	})
	checkMalformed(t, "'--", 0)
	checkMalformed(t, "\"--\n", 0)
	checkMalformed(t, "--x\n!", 4)
	checkMalformed(t, "a --'\n'", 6)
}

func TestLexOfBlanks(t *testing.T) {
	checkLex(t, []lexCase{
		{"", nil}, {" ", nil}, {"\t", nil}, {"\n", nil}, {"\r", nil}, {" \t\r\n ", nil},
		{" a", []impl.Token{word("a", 1)}}, {"a ", []impl.Token{word("a", 0)}}, {"\t\r\n a\r\n", []impl.Token{word("a", 4)}},
		{"a\tb\nc\rd e", []impl.Token{word("a", 0), word("b", 2), word("c", 4), word("d", 6), word("e", 8)}},
		{"< =", []impl.Token{sign("<", 0), sign("=", 2)}}, {"1 2", []impl.Token{num("1", 0), num("2", 2)}},
	})
	for _, s := range []string{"\v", "\f", "\x00", "\x85", "\xa0", "\xc2\xa0"} {
		checkMalformed(t, "a"+s+"b", 1)
	}
}

func TestLexTellsTheFirstMalformedToken(t *testing.T) {
	cases := []struct {
		s    string
		want int
	}{
		{"!", 0}, {"a !", 2}, {"a ! !", 2}, {"a ! 'x", 2}, {"01 !", 0}, {"a 1b !", 2}, {"'x", 0}, {"'x' \"", 4}, {"\"\" '", 0}, {"a\n\n\t07", 4},
		{"a -- !\n !", 8}, {"(a,b) @", 6}, {"a:b", 1}, {"a/b", 1}, {"a|b", 1}, {"[a]", 0}, {"{a}", 0}, {"a != b", 2}, {"a\\", 1}, {"`a`", 0},
		{"#a", 0}, {"$a", 0}, {"a%b", 1}, {"a&b", 1}, {"a?", 1}, {"~a", 0}, {"a^b", 1}, {"\xef\xbb\xbfa", 0}, {"na\xc3\xafve", 2}, {"\x7f", 0},
	}
	for _, c := range cases {
		checkMalformed(t, c.s, c.want)
	}
}

func TestLexOfLongTexts(t *testing.T) {
	full := impl.MaxText
	letters := strings.Repeat("A", full)
	checkLex(t, []lexCase{
		{letters, []impl.Token{word(strings.ToLower(letters), 0)}},
		{strings.Repeat(" ", full), nil}, {strings.Repeat("-", full), nil}, {"--" + strings.Repeat("'", full-2), nil},
		{strings.Repeat(" ", full-1) + "a", []impl.Token{word("a", full-1)}},
		{strings.Repeat(" ", full-2) + "''", []impl.Token{str("", full-2)}},
	})
	if got, at := impl.Lex(strings.Repeat("(", full)); at != -1 || len(got) != full || got[full-1] != sign("(", full-1) {
		t.Errorf("%d signs: %d tokens, %d", full, len(got), at)
	}
	checkMalformed(t, strings.Repeat(" ", full-1)+"!", full-1)
	checkMalformed(t, strings.Repeat(" ", full-1)+"'", full-1)
	checkMalformed(t, strings.Repeat("1", full), 0)
	checkMalformed(t, "'"+strings.Repeat("x", full-1), 0)
	// The length decides before any token does.
	for _, s := range []string{"A", " ", "-", "(", "!", "'", "\"", "1", "\x00", "\n"} {
		checkMalformed(t, strings.Repeat(s, full+1), full)
		checkMalformed(t, strings.Repeat(s, full*3), full)
	}
	checkMalformed(t, "! "+strings.Repeat(" ", full-1), full)
	checkMalformed(t, strings.Repeat(" ", full)+"a", full)
}

func TestQuote(t *testing.T) {
	cases := []struct {
		s    string
		by   byte
		want string
	}{
		{"", '"', `""`}, {"", '\'', "''"}, {"a", '"', `"a"`}, {"a", '\'', "'a'"}, {"it's", '\'', "'it''s'"}, {"it's", '"', `"it's"`},
		{`a"b`, '"', `"a""b"`}, {`a"b`, '\'', `'a"b'`}, {`"`, '"', `""""`}, {"'", '\'', "''''"}, {`""`, '"', `""""""`}, {"'''", '\'', "''''''''"},
		{`"a"`, '"', `"""a"""`}, {"A b", '"', `"A b"`}, {"a", 'a', "aaaa"}, {"", 'a', "aa"}, {"bab", 'a', "abaaba"},
		{"\x00", 0, "\x00\x00\x00\x00"}, {"", 0, "\x00\x00"}, {"\xc3\xa4", '"', "\"\xc3\xa4\""}, {"\xff", '\'', "'\xff'"},
		{"", 0xff, "\xff\xff"}, {"\xff\xfe", 0xff, "\xff\xff\xff\xfe\xff"}, {"\xc3\xa4", 0xa4, "\xa4\xc3\xa4\xa4\xa4"}, {"ä", 0xe4, "\xe4ä\xe4"},
	}
	for _, c := range cases {
		if got := impl.Quote(c.s, c.by); got != c.want {
			t.Errorf("Quote(%q, %q) = %q, want %q", c.s, c.by, got, c.want)
		}
	}
	for b := range 256 {
		by := string([]byte{byte(b)})
		for n := range 5 {
			if got := impl.Quote(strings.Repeat(by, n), byte(b)); got != strings.Repeat(by, 2*n+2) {
				t.Errorf("Quote of %d times %q = %q", n, by, got)
			}
		}
	}
	if got := impl.Quote(strings.Repeat("'", 30000), '\''); got != strings.Repeat("'", 60002) {
		t.Error("a long text of quotes has", len(got), "bytes")
	}
}

func TestSpell(t *testing.T) {
	cases := []struct {
		list []impl.Token
		want string
	}{
		{nil, ""}, {[]impl.Token{}, ""},
		{[]impl.Token{word("a", 0)}, "a"}, {[]impl.Token{name("a", 0)}, `"a"`}, {[]impl.Token{num("12", 0)}, "12"},
		{[]impl.Token{str("a", 0)}, "'a'"}, {[]impl.Token{sign("<=", 0)}, "<="},
		{[]impl.Token{word("a", 5), name(`A "b"`, 5), num("0", -1), str("it's", 5), sign("-", 0), sign("-", 9)}, `a "A ""b""" 0 'it''s' - -`},
		{[]impl.Token{name("it's", 0), str(`"`, 0)}, `"it's" '"'`}, {[]impl.Token{name(`"`, 0), str("'", 0)}, `"""" ''''`},
		{[]impl.Token{str("", 0), str("", 0)}, "'' ''"}, {[]impl.Token{name("", 0)}, `""`},
		// Texts that Lex never gives are spelled as they are.
		{[]impl.Token{word("", 0)}, ""}, {[]impl.Token{word("", 0), num("", 0), sign("", 0)}, "  "}, {[]impl.Token{word("", 0), word("a", 0)}, " a"},
		{[]impl.Token{word("A b", 0), num("007", 0), sign("!", 0)}, "A b 007 !"},
	}
	for _, c := range cases {
		if got := impl.Spell(c.list); got != c.want {
			t.Errorf("Spell(%s) = %q, want %q", shown(c.list), got, c.want)
		}
	}
}

func TestSpellLeavesOtherKindsOut(t *testing.T) {
	a, b := word("a", 0), word("b", 2)
	for _, kind := range []int{-1, -5, 5, 6, 9, 256, 260, 1 << 32, math.MaxInt, math.MinInt} {
		x := impl.Token{Kind: kind, Text: "x"}
		cases := []struct {
			list []impl.Token
			want string
		}{
			{[]impl.Token{x}, ""}, {[]impl.Token{x, x}, ""}, {[]impl.Token{x, a}, "a"}, {[]impl.Token{a, x}, "a"},
			{[]impl.Token{a, x, b}, "a b"}, {[]impl.Token{x, a, x, x, b, x}, "a b"},
		}
		for _, c := range cases {
			if got := impl.Spell(c.list); got != c.want {
				t.Errorf("Spell(%s) = %q, want %q", shown(c.list), got, c.want)
			}
		}
	}
}

// sameTokens compares kinds and texts, not places.
func sameTokens(a, b []impl.Token) bool {
	return slices.EqualFunc(a, b, func(x, y impl.Token) bool { return x.Kind == y.Kind && x.Text == y.Text })
}

// sampleTokens holds tokens of every kind, those that could be mistaken for others among them.
func sampleTokens() []impl.Token {
	out := []impl.Token{
		word("a", 0), word("_", 0), word("table", 0), word("x_1", 0), word(strings.Repeat("w", 200), 0),
		name("a", 0), name("A b", 0), name(`"`, 0), name(`""`, 0), name("'", 0), name("--", 0), name("\n", 0), name(`a"`, 0), name(strings.Repeat(`"`, 40), 0),
		num("0", 0), num("1", 0), num("999999999", 0),
		str("", 0), str("a", 0), str("'", 0), str("''", 0), str(`"`, 0), str("--", 0), str("\x00\n", 0), str("a'", 0), str(strings.Repeat("'", 100), 0),
	}
	for _, s := range []string{"<=", ">=", "<>", "(", ")", ",", ";", "=", "<", ">", "+", "-", "*", "."} {
		out = append(out, sign(s, 0))
	}
	return out
}

func TestTokensAreRecovered(t *testing.T) {
	samples := sampleTokens()
	for _, a := range samples {
		for _, b := range samples {
			for _, list := range [][]impl.Token{{a}, {a, b}, {a, b, a}} {
				s := impl.Spell(list)
				if got, at := impl.Lex(s); at != -1 || !sameTokens(got, list) {
					t.Errorf("Lex(%q) = %s, %d, want %s", s, shown(got), at, shown(list))
				}
			}
		}
	}
}

func TestTokensAreRecoveredWhateverIsSkipped(t *testing.T) {
	gaps := []string{" ", "\t", "\n", "\r", "  ", " \r\n\t", "--\n", "-- x\n", "--'\"!\n", "---\n", "\n--a\n--b\n\n", " --\x00\xff\n "}
	samples := sampleTokens()
	for _, a := range samples {
		for _, b := range samples {
			for _, gap := range gaps {
				if a.Text == "-" && gap[0] == '-' {
					gap = " " + gap
				}
				first := impl.Spell([]impl.Token{a})
				s := gap + first + gap + impl.Spell([]impl.Token{b}) + strings.TrimSuffix(" "+gap, "\n")
				want := []impl.Token{a, b}
				want[0].At = len(gap)
				want[1].At = 2*len(gap) + len(first)
				if got, at := impl.Lex(s); at != -1 || !slices.Equal(got, want) {
					t.Errorf("Lex(%q) = %s, %d, want %s", s, shown(got), at, shown(want))
				}
			}
		}
	}
}

var (
	skippedPart = regexp.MustCompile(`^(?:[ \t\n\r]|--[^\n]*)+`)
	wordPart    = regexp.MustCompile(`^[A-Za-z_][A-Za-z0-9_]*`)
	numPart     = regexp.MustCompile(`^(0|[1-9][0-9]{0,8})(?:[^A-Za-z0-9_]|$)`)
	namePart    = regexp.MustCompile(`^("(?:[^"]|"")*")(?:[^"]|$)`)
	textPart    = regexp.MustCompile(`^('(?:[^']|'')*')(?:[^']|$)`)
	signPart    = regexp.MustCompile(`^(?:<=|>=|<>|[(),;=<>+*.-])`)
)

// wantLex restates the chapter by patterns, to be held against Lex.
func wantLex(s string) ([]impl.Token, int) {
	if len(s) > 20000 {
		return nil, 20000
	}
	var out []impl.Token
	for at := 0; at < len(s); {
		rest := s[at:]
		if gap := skippedPart.FindString(rest); gap != "" {
			at += len(gap)
			continue
		}
		kind, part, text := wantToken(rest)
		if part == "" {
			return nil, at
		}
		out = append(out, impl.Token{Kind: kind, Text: text, At: at})
		at += len(part)
	}
	return out, -1
}

func wantToken(rest string) (kind int, part string, text string) {
	if part := wordPart.FindString(rest); part != "" {
		return 0, part, strings.ToLower(part)
	}
	if m := numPart.FindStringSubmatch(rest); m != nil {
		return 2, m[1], m[1]
	}
	if m := namePart.FindStringSubmatch(rest); m != nil {
		text := strings.ReplaceAll(m[1][1:len(m[1])-1], `""`, `"`)
		if len(text) >= 1 && len(text) <= 40 && !strings.Contains(text, "\x00") {
			return 1, m[1], text
		}
		return 0, "", ""
	}
	if m := textPart.FindStringSubmatch(rest); m != nil {
		if text := strings.ReplaceAll(m[1][1:len(m[1])-1], "''", "'"); len(text) <= 100 {
			return 3, m[1], text
		}
		return 0, "", ""
	}
	part = signPart.FindString(rest)
	return 4, part, part
}

func checkAgainstPatterns(t *testing.T, s string) {
	t.Helper()
	got, at := impl.Lex(s)
	want, wantAt := wantLex(s)
	if at != wantAt || !slices.Equal(got, want) {
		t.Fatalf("Lex(%q) = %s, %d, want %s, %d", s, shown(got), at, shown(want), wantAt)
	}
	spelled := impl.Spell(got)
	if at != -1 || len(spelled) > impl.MaxText {
		return
	}
	again, at := impl.Lex(spelled)
	if at != -1 || !sameTokens(again, got) {
		t.Fatalf("Lex(%q) = %s, but its spelling %q gives %s, %d", s, shown(got), spelled, shown(again), at)
	}
	if twice := impl.Spell(again); twice != spelled {
		t.Fatalf("the spelling %q becomes %q", spelled, twice)
	}
}

func TestLexOfAllShortTexts(t *testing.T) {
	const alphabet = "aZ_01\"'-<=>. \n!\x00"
	last := []string{""}
	for range 4 {
		var next []string
		for _, s := range last {
			for i := range len(alphabet) {
				next = append(next, s+alphabet[i:i+1])
			}
		}
		for _, s := range next {
			checkAgainstPatterns(t, s)
		}
		last = next
	}
}

func TestLexOfMixedTexts(t *testing.T) {
	parts := []string{
		"a", "B_9", "select", "_", "0", "1", "12", "123456789", "\"", "\"\"", "'", "''", "\"a\"", "'b'", "'it''s'", "\"x\"\"y\"",
		"-", "--", "-- c\n", "--'\n", "<", "=", ">", "<=", "<>", "(", ")", ",", ";", "+", "*", ".", " ", " ", " ", "\n", "\t", "\r",
		"!", "\x00", "\xff", "é", strings.Repeat("n", 39), strings.Repeat("\"\"", 40), strings.Repeat("''", 50),
	}
	random := rand.New(rand.NewSource(2))
	for range 40000 {
		var s strings.Builder
		for range random.Intn(12) {
			s.WriteString(parts[random.Intn(len(parts))])
		}
		checkAgainstPatterns(t, s.String())
	}
}

func TestLexOfAnyBytes(t *testing.T) {
	random := rand.New(rand.NewSource(3))
	for range 20000 {
		s := make([]byte, random.Intn(30))
		random.Read(s)
		checkAgainstPatterns(t, string(s))
	}
}

func TestSpellArgumentIsUnchanged(t *testing.T) {
	whole := append(sampleTokens(), impl.Token{Kind: 9, Text: "x", At: 3})
	before := slices.Clone(whole)
	for n := range len(whole) + 1 {
		impl.Spell(whole[:n])
		if !slices.Equal(whole, before) {
			t.Fatalf("the argument became %s", shown(whole))
		}
	}
}

func TestLexResultsShareNoMemory(t *testing.T) {
	const s = "create table \"T\" (a int, b char(3)) -- end\n;"
	first, _ := impl.Lex(s)
	want := slices.Clone(first)
	second, _ := impl.Lex(s)
	full := second[:cap(second)]
	for i := range full {
		full[i] = impl.Token{Kind: 9, Text: "overwritten", At: -5}
	}
	third, at := impl.Lex(s)
	if at != -1 || !slices.Equal(first, want) || !slices.Equal(third, want) {
		t.Errorf("writing into a result changed another one: %s, %s", shown(first), shown(third))
	}
}
