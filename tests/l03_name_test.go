package tests

import (
	"math"
	"math/rand"
	"regexp"
	"slices"
	"strings"
	"testing"
	"unsafe"

	"loop.example/g00751/impl"
)

var reservedWords = strings.Fields(`
	add all alter and as bool char check column constraint create default drop enum false foreign from index int is
	key not null on or primary references select sequence set start table text to true type unique view where`)

func letters(n int) string {
	return strings.Repeat("a", n)
}

// sampleNames holds valid names, those that are easily written wrongly among them.
func sampleNames() []string {
	out := []string{
		"a", "z", "_", "__", "x_1", "a1", "_1", "a_", "z9_", "tables", "tabl", "_table", "table_", "table1", letters(2), letters(39), letters(40),
		"A", "Z", "Big", "bIg", "biG", "1", "1a", "9_", "0", "12", " ", " a", "a ", "a b", "two words", "\t", "a\n", "\na", "a\r",
		`"`, `""`, `"a`, `a"`, `a"b`, `"a"`, `""a""`, `"""`, strings.Repeat(`"`, 39), strings.Repeat(`"`, 40), letters(39) + `"`, `"` + letters(39),
		"'", "a'b", "-", "--", "a--b", "a-b", "--a", ".", "a.b", "(", ")", ",", ";", "=", "<=", "*", "!", "a!", "`", "{", "@", "[", "/", ":", "^",
		"not null", "drop table", "table ", " table", "table;", "Table", "TABLE", "tablE",
		"\x01", "\x7f", "\x80", "\xff", "caf\xc3\xa9", "\xc3\xa9", "a\x80", "\x80a", strings.Repeat("\xff", 40), "ｔable", "é", "ß", "K", "ſet",
		strings.Repeat("A", 40), strings.Repeat(" ", 40), strings.Repeat("_", 40), strings.Repeat("1", 40),
	}
	for _, w := range reservedWords {
		out = append(out, w, strings.ToUpper(w), strings.ToUpper(w[:1])+w[1:], w+"_", w+"s", w[1:], w[:len(w)-1])
	}
	return out
}

// badNames holds what is no name, by its length or by a NUL.
func badNames() []string {
	return []string{
		"", letters(41), letters(42), letters(80), letters(5000), letters(30000), strings.Repeat("A", 41), strings.Repeat(`"`, 41), strings.Repeat("\xff", 41),
		strings.Repeat("é", 21), strings.Repeat("table", 9), "table" + letters(36),
		"\x00", "\x00\x00", "\x00a", "a\x00", "a\x00b", "table\x00", "\x00table", "a\x00\x00b", "\"\x00\"",
		"\x00" + letters(39), letters(39) + "\x00", letters(20) + "\x00" + letters(19), "\x00" + letters(40), letters(40) + "\x00",
	}
}

func TestTypeKinds(t *testing.T) {
	kinds := []int{impl.TyInt, impl.TyText, impl.TyBool, impl.TyChar, impl.TyEnum}
	if !slices.Equal(kinds, []int{0, 1, 2, 3, 4}) {
		t.Error(kinds)
	}
}

func TestNameOk(t *testing.T) {
	for _, s := range sampleNames() {
		if !impl.NameOk(s) {
			t.Errorf("NameOk(%q) = false", s)
		}
	}
	for _, s := range badNames() {
		if impl.NameOk(s) {
			t.Errorf("NameOk(%.100q) = true", s)
		}
	}
}

func TestNameOkOfEveryLength(t *testing.T) {
	for _, unit := range []string{"a", "A", "_", "1", " ", `"`, "'", "\n", "\x80", "\xff", "\x00"} {
		for n := range 130 {
			want := n >= 1 && n <= 40 && unit != "\x00"
			if got := impl.NameOk(strings.Repeat(unit, n)); got != want {
				t.Errorf("NameOk of %d times %q = %v", n, unit, got)
			}
		}
	}
}

func TestNameOkOfEveryByte(t *testing.T) {
	for b := range 256 {
		x := string([]byte{byte(b)})
		for _, s := range []string{x, x + "a", "a" + x, "a" + x + "b", x + letters(39), letters(39) + x, letters(19) + x + letters(20)} {
			if got := impl.NameOk(s); got != (b != 0) {
				t.Errorf("NameOk(%q) = %v", s, got)
			}
		}
		for _, s := range []string{x + letters(40), letters(40) + x, letters(20) + x + letters(20)} {
			if impl.NameOk(s) {
				t.Errorf("NameOk(%q) = true", s)
			}
		}
	}
}

func TestPutName(t *testing.T) {
	cases := []struct{ s, want string }{
		{"a", "a"}, {"z", "z"}, {"_", "_"}, {"__", "__"}, {"x_1", "x_1"}, {"_1", "_1"}, {"a0", "a0"}, {"a9", "a9"}, {"abc_xyz_09", "abc_xyz_09"},
		{letters(40), letters(40)}, {"tables", "tables"}, {"tabl", "tabl"}, {"able", "able"}, {"_table", "_table"}, {"table_", "table_"}, {"table1", "table1"},
		{"A", `"A"`}, {"Big", `"Big"`}, {"biG", `"biG"`}, {"_A", `"_A"`}, {"1", `"1"`}, {"1a", `"1a"`}, {"0", `"0"`}, {"9_", `"9_"`},
		{" ", `" "`}, {" a", `" a"`}, {"a ", `"a "`}, {"two words", `"two words"`}, {"a\n", "\"a\n\""}, {"\na", "\"\na\""}, {"a\nb", "\"a\nb\""},
		{`"`, `""""`}, {`""`, `""""""`}, {`a"b`, `"a""b"`}, {`"a`, `"""a"`}, {`a"`, `"a"""`}, {`"a"`, `"""a"""`},
		{"it's", `"it's"`}, {"a.b", `"a.b"`}, {"a-b", `"a-b"`}, {"--", `"--"`}, {"caf\xc3\xa9", "\"caf\xc3\xa9\""}, {"\xff", "\"\xff\""}, {"a\x80", "\"a\x80\""},
		{"table", `"table"`}, {"TABLE", `"TABLE"`}, {"Table", `"Table"`}, {"not null", `"not null"`}, {"int", `"int"`}, {"where", `"where"`}, {"add", `"add"`},
	}
	for _, c := range cases {
		if got := impl.PutName(c.s); got != c.want {
			t.Errorf("PutName(%q) = %q, want %q", c.s, got, c.want)
		}
	}
}

// What is no name is written by the same rule: the chapter does not ask for a name here.
func TestPutNameOfNoName(t *testing.T) {
	cases := []struct{ s, want string }{
		{"", `""`}, {"\x00", "\"\x00\""}, {"a\x00", "\"a\x00\""}, {"\x00a", "\"\x00a\""}, {"a\x00b", "\"a\x00b\""}, {"table\x00", "\"table\x00\""},
		{letters(41), letters(41)}, {letters(5000), letters(5000)}, {"_" + letters(40), "_" + letters(40)}, {"table" + letters(36), "table" + letters(36)},
		{strings.Repeat("table", 9), strings.Repeat("table", 9)}, {letters(40) + "1", letters(40) + "1"},
		{"1" + letters(40), `"1` + letters(40) + `"`}, {letters(40) + "A", `"` + letters(40) + `A"`}, {strings.Repeat("A", 41), `"` + strings.Repeat("A", 41) + `"`},
		{strings.Repeat(`"`, 41), strings.Repeat(`"`, 84)}, {letters(40) + "\x00", `"` + letters(40) + "\x00\""}, {letters(5000) + " ", `"` + letters(5000) + ` "`},
	}
	for _, c := range cases {
		if got := impl.PutName(c.s); got != c.want {
			t.Errorf("PutName(%.100q) = %.100q, want %.100q", c.s, got, c.want)
		}
	}
}

func TestReservedWordsAsNames(t *testing.T) {
	if len(reservedWords) != 39 || !impl.Rising(reservedWords) {
		t.Fatalf("the list of this test has %d words", len(reservedWords))
	}
	for _, w := range reservedWords {
		if !impl.NameOk(w) {
			t.Errorf("NameOk(%q) = false", w)
		}
		for _, s := range []string{w, strings.ToUpper(w), strings.ToUpper(w[:1]) + w[1:], w[:1] + strings.ToUpper(w[1:])} {
			if got := impl.PutName(s); got != `"`+s+`"` {
				t.Errorf("PutName(%q) = %q", s, got)
			}
		}
	}
}

// oneEditAway returns the words that arise from w by a letter more, a letter less or another letter.
func oneEditAway(w string) []string {
	var out []string
	for i := range len(w) + 1 {
		for _, x := range "abcdefghijklmnopqrstuvwxyz_" {
			out = append(out, w[:i]+string(x)+w[i:])
			if i < len(w) {
				out = append(out, w[:i]+string(x)+w[i+1:])
			}
		}
		if i < len(w) {
			out = append(out, w[:i]+w[i+1:])
		}
	}
	return out
}

func checkWord(t *testing.T, s string) {
	t.Helper()
	want := s
	if slices.Contains(reservedWords, s) {
		want = `"` + s + `"`
	}
	if got := impl.PutName(s); got != want || !impl.NameOk(s) {
		t.Errorf("PutName(%q) = %q, want %q", s, got, want)
	}
}

func TestWordsBesideReservedOnes(t *testing.T) {
	for _, w := range reservedWords {
		for _, s := range oneEditAway(w) {
			checkWord(t, s)
		}
		for _, other := range reservedWords {
			checkWord(t, w+other)
			checkWord(t, w+"_"+other)
		}
		for digit := range 10 {
			checkWord(t, w+impl.DecText(digit))
		}
	}
	for _, s := range []string{"begin", "by", "cascade", "delete", "exists", "group", "if", "in", "insert", "integer", "into", "join", "limit", "no", "order", "update", "values", "varchar", "with"} {
		checkWord(t, s)
	}
}

func TestAllShortWords(t *testing.T) {
	last := []string{""}
	for range 3 {
		var next []string
		for _, s := range last {
			for _, x := range "abcdefghijklmnopqrstuvwxyz_" {
				next = append(next, s+string(x))
			}
		}
		for _, s := range next {
			checkWord(t, s)
		}
		last = next
	}
}

var plainName = regexp.MustCompile(`\A[a-z_][a-z0-9_]*\z`)

// wantName restates the chapter by a pattern, to be held against PutName.
func wantName(s string) string {
	if plainName.MatchString(s) && !slices.Contains(reservedWords, s) {
		return s
	}
	return `"` + strings.ReplaceAll(s, `"`, `""`) + `"`
}

func TestPutNameOfEveryByte(t *testing.T) {
	for b := range 256 {
		x := string([]byte{byte(b)})
		for _, s := range []string{x, x + "a", x + "1", "a" + x, "_" + x, "a" + x + "b", "1" + x, x + x, "tabl" + x, x + "able", "table" + x, x + "table"} {
			if got := impl.PutName(s); got != wantName(s) {
				t.Errorf("PutName(%q) = %q, want %q", s, got, wantName(s))
			}
		}
	}
}

// nameOf returns the name that a token stands for where a name is asked for.
func nameOf(x impl.Token) (string, bool) {
	switch x.Kind {
	case impl.TkName:
		return x.Text, impl.NameOk(x.Text)
	case impl.TkWord:
		return x.Text, impl.NameOk(x.Text) && !slices.Contains(reservedWords, x.Text)
	}
	return "", false
}

// readName returns the name of which s is a written form.
func readName(s string) (string, bool) {
	list, at := impl.Lex(s)
	if at != -1 || len(list) != 1 || list[0].At != 0 {
		return "", false
	}
	return nameOf(list[0])
}

func checkName(t *testing.T, s string) {
	t.Helper()
	text := impl.PutName(s)
	if text != wantName(s) {
		t.Fatalf("PutName(%.100q) = %.100q, want %.100q", s, text, wantName(s))
	}
	valid := len(s) >= 1 && len(s) <= 40 && !strings.Contains(s, "\x00")
	if impl.NameOk(s) != valid {
		t.Fatalf("NameOk(%.100q) = %v", s, !valid)
	}
	if got, ok := readName(text); ok != valid || ok && got != s {
		t.Fatalf("%.100q is written as %.100q, which is read as %.100q, %v", s, text, got, ok)
	}
}

func TestNamesAreRecovered(t *testing.T) {
	for _, s := range slices.Concat(sampleNames(), badNames()) {
		checkName(t, s)
	}
}

func TestNamesAreRecoveredAmongOtherTokens(t *testing.T) {
	for _, s := range sampleNames() {
		for _, around := range [][2]string{{"(", ")"}, {"drop table ", ";"}, {"a.", ","}, {"'x' ", " 'y'"}, {"1 ", " int"}, {"-- c\n", "-- c"}} {
			before, _ := impl.Lex(around[0])
			list, at := impl.Lex(around[0] + impl.PutName(s) + around[1])
			if at != -1 || len(list) <= len(before) {
				t.Fatalf("%q between %q: %s, %d", s, around, shown(list), at)
			}
			if got, ok := nameOf(list[len(before)]); !ok || got != s {
				t.Errorf("%q between %q is read as %q, %v", s, around, got, ok)
			}
		}
	}
}

func TestNamesOfRandomParts(t *testing.T) {
	parts := []string{"a", "z", "_", "0", "9", "A", "Z", `"`, `""`, "'", " ", "\n", "-", ".", "\x00", "\x80", "\xff", "é", "table", "int", "text", "aaaaaaaaaaaa"}
	random := rand.New(rand.NewSource(4))
	for range 60000 {
		var s strings.Builder
		for range random.Intn(8) {
			s.WriteString(parts[random.Intn(len(parts))])
		}
		checkName(t, s.String())
	}
	for range 20000 {
		s := make([]byte, random.Intn(45))
		random.Read(s)
		checkName(t, string(s))
	}
}

func TestPutNameSharesNoMemory(t *testing.T) {
	for _, s := range sampleNames() {
		if unsafe.StringData(impl.PutName(s)) == unsafe.StringData(s) {
			t.Errorf("PutName(%q) shares memory with its argument", s)
		}
	}
}

func kindOf(kind int) impl.Type {
	return impl.Type{Kind: kind}
}

func char(n int) impl.Type {
	return impl.Type{Kind: impl.TyChar, Len: n}
}

func enum(s string) impl.Type {
	return impl.Type{Kind: impl.TyEnum, Name: s}
}

func TestTypeText(t *testing.T) {
	cases := []struct {
		x    impl.Type
		want string
	}{
		{impl.Type{}, "int"}, {kindOf(impl.TyInt), "int"}, {kindOf(impl.TyText), "text"}, {kindOf(impl.TyBool), "bool"},
		{char(1), "char(1)"}, {char(2), "char(2)"}, {char(9), "char(9)"}, {char(10), "char(10)"}, {char(99), "char(99)"}, {char(100), "char(100)"},
		{enum("mood"), "enum mood"}, {enum("Mood"), `enum "Mood"`}, {enum("_"), "enum _"}, {enum("two words"), `enum "two words"`}, {enum(`"`), `enum """"`},
		{enum("enum"), `enum "enum"`}, {enum("int"), `enum "int"`}, {enum("table"), `enum "table"`}, {enum("char(3)"), `enum "char(3)"`}, {enum("1"), `enum "1"`},
		{enum(letters(40)), "enum " + letters(40)}, {enum("\xff"), "enum \"\xff\""},
	}
	for _, c := range cases {
		if got := impl.TypeText(c.x); got != c.want || !impl.TypeOk(c.x) {
			t.Errorf("TypeText(%#v) = %q, want %q; TypeOk = %v", c.x, got, c.want, impl.TypeOk(c.x))
		}
	}
}

func TestInvalidTypes(t *testing.T) {
	bad := []impl.Type{
		kindOf(-1), kindOf(5), kindOf(6), kindOf(256), kindOf(260), kindOf(1 << 32), kindOf(math.MaxInt), kindOf(math.MinInt),
		{Kind: 5, Len: 3}, {Kind: 5, Name: "a"}, {Kind: -1, Len: 3}, {Kind: -1, Name: "a"},
		char(0), char(-1), char(101), char(102), char(1000), char(math.MaxInt), char(math.MinInt), char(1 << 32), char(1<<32 + 1),
		{Kind: impl.TyChar, Len: 3, Name: "a"}, {Kind: impl.TyChar, Name: "a"}, {Kind: impl.TyChar, Len: 3, Name: " "}, {Kind: impl.TyChar, Len: 3, Name: letters(41)},
		enum(""), enum(letters(41)), enum("\x00"), enum("a\x00"), enum("\x00a"), enum("a\x00b"),
		{Kind: impl.TyEnum, Len: 1, Name: "a"}, {Kind: impl.TyEnum, Len: -1, Name: "a"}, {Kind: impl.TyEnum, Len: 100, Name: "a"}, {Kind: impl.TyEnum, Len: 1},
	}
	for _, kind := range []int{impl.TyInt, impl.TyText, impl.TyBool} {
		for _, n := range []int{-1, 1, 2, 100, 101, 1 << 32, math.MaxInt, math.MinInt} {
			bad = append(bad, impl.Type{Kind: kind, Len: n})
		}
		for _, s := range []string{"a", "int", "text", "bool", " ", "\x00", `"`, letters(40), letters(41)} {
			bad = append(bad, impl.Type{Kind: kind, Name: s}, impl.Type{Kind: kind, Len: 1, Name: s})
		}
	}
	for _, x := range bad {
		if got := impl.TypeText(x); got != "" || impl.TypeOk(x) {
			t.Errorf("TypeText(%#v) = %q; TypeOk = %v", x, got, impl.TypeOk(x))
		}
	}
}

// someTypes returns types of every kind and of none, valid and invalid ones.
func someTypes() []impl.Type {
	kinds := []int{math.MinInt, -1, 0, 1, 2, 3, 4, 5, 6, 256, math.MaxInt}
	lens := []int{math.MinInt, -1, 0, 1, 2, 99, 100, 101, math.MaxInt}
	names := []string{"", "a", "b", "Mood", "two words", "table", "int", `"`, `a"b`, "\xff", letters(40), letters(41), "\x00", "a\x00"}
	var out []impl.Type
	for _, kind := range kinds {
		for _, n := range lens {
			for _, s := range names {
				out = append(out, impl.Type{Kind: kind, Len: n, Name: s})
			}
		}
	}
	return out
}

// wantType restates the chapter: the text of a type, or the empty string for an invalid one.
func wantType(x impl.Type) string {
	simple := map[int]string{0: "int", 1: "text", 2: "bool"}
	switch {
	case x.Kind == 3 && x.Len >= 1 && x.Len <= 100 && x.Name == "":
		return "char(" + impl.DecText(x.Len) + ")"
	case x.Kind == 4 && x.Len == 0 && impl.NameOk(x.Name):
		return "enum " + wantName(x.Name)
	case x.Len == 0 && x.Name == "":
		return simple[x.Kind]
	}
	return ""
}

func TestTypesOfEveryShape(t *testing.T) {
	for _, x := range someTypes() {
		want := wantType(x)
		if got := impl.TypeText(x); got != want {
			t.Errorf("TypeText(%#v) = %q, want %q", x, got, want)
		}
		if got := impl.TypeOk(x); got != (want != "") {
			t.Errorf("TypeOk(%#v) = %v", x, got)
		}
	}
}

// readType returns the type of which s is the text.
func readType(s string) (impl.Type, bool) {
	list, at := impl.Lex(s)
	if at != -1 || len(list) == 0 || list[0].Kind != impl.TkWord {
		return impl.Type{}, false
	}
	rest := list[1:]
	switch head := list[0].Text; {
	case len(rest) == 0:
		kind := slices.Index([]string{"int", "text", "bool"}, head)
		return impl.Type{Kind: kind}, kind >= 0
	case head == "char" && len(rest) == 3 && rest[0].Text == "(" && rest[1].Kind == impl.TkNum && rest[2].Text == ")":
		return char(impl.ReadDec(rest[1].Text)), true
	case head == "enum" && len(rest) == 1:
		s, ok := nameOf(rest[0])
		return enum(s), ok
	}
	return impl.Type{}, false
}

// validTypes returns types of every kind, each once.
func validTypes() []impl.Type {
	out := []impl.Type{kindOf(impl.TyInt), kindOf(impl.TyText), kindOf(impl.TyBool)}
	for n := 1; n <= 100; n++ {
		out = append(out, char(n))
	}
	for _, s := range slices.Compact(slices.Sorted(slices.Values(sampleNames()))) {
		out = append(out, enum(s))
	}
	return out
}

func TestTypesAreRecovered(t *testing.T) {
	for _, x := range validTypes() {
		text := impl.TypeText(x)
		if got, ok := readType(text); !ok || got != x {
			t.Errorf("%#v has the text %q, which is read as %#v, %v", x, text, got, ok)
		}
	}
	for _, x := range someTypes() {
		if got, ok := readType(impl.TypeText(x)); ok != impl.TypeOk(x) || ok && got != x {
			t.Errorf("%#v has the text %q, which is read as %#v, %v", x, impl.TypeText(x), got, ok)
		}
	}
}

func TestTextsOfTypesDiffer(t *testing.T) {
	owner := map[string]impl.Type{}
	for _, x := range validTypes() {
		text := impl.TypeText(x)
		if other, taken := owner[text]; taken || text == "" {
			t.Errorf("%#v and %#v have the text %q", x, other, text)
		}
		owner[text] = x
	}
}

func TestTurnsForEveryPairOfKinds(t *testing.T) {
	types := []impl.Type{kindOf(impl.TyInt), kindOf(impl.TyText), kindOf(impl.TyBool), char(3), enum("mood")}
	// A row for each type to turn from, in the order of the kinds.
	want := [5][5]bool{
		{true, true, false, false, false},
		{false, true, false, true, true},
		{false, true, true, false, false},
		{false, true, false, true, false},
		{false, true, false, false, true},
	}
	for i, from := range types {
		for j, to := range types {
			if got := impl.Turns(from, to); got != want[i][j] {
				t.Errorf("Turns(%#v, %#v) = %v", from, to, got)
			}
		}
	}
}

func TestTurnsForLengthsAndNames(t *testing.T) {
	for a := 1; a <= 100; a++ {
		for b := 1; b <= 100; b++ {
			if got := impl.Turns(char(a), char(b)); got != (a == b) {
				t.Errorf("Turns(char(%d), char(%d)) = %v", a, b, got)
			}
		}
		if !impl.Turns(kindOf(impl.TyText), char(a)) || !impl.Turns(char(a), kindOf(impl.TyText)) {
			t.Errorf("text and char(%d)", a)
		}
	}
	names := []string{"mood", "moods", "Mood", "moo", "mood ", "_", "text", letters(40)}
	for _, a := range names {
		for _, b := range names {
			if got := impl.Turns(enum(a), enum(b)); got != (a == b) {
				t.Errorf("Turns(enum %q, enum %q) = %v", a, b, got)
			}
		}
		if !impl.Turns(kindOf(impl.TyText), enum(a)) || !impl.Turns(enum(a), kindOf(impl.TyText)) {
			t.Errorf("text and enum %q", a)
		}
		if impl.Turns(char(40), enum(a)) || impl.Turns(enum(a), char(40)) {
			t.Errorf("char and enum %q", a)
		}
	}
}

// The chapter states no result of its own for invalid types, so that its three reasons decide for them as well.
func TestTurnsForInvalidTypes(t *testing.T) {
	text := kindOf(impl.TyText)
	cases := []struct {
		from, to impl.Type
		want     bool
	}{
		{kindOf(5), kindOf(5), true}, {kindOf(-1), kindOf(-1), true}, {kindOf(5), kindOf(6), false}, {kindOf(-1), kindOf(5), false},
		{kindOf(5), text, true}, {kindOf(-1), text, true}, {kindOf(math.MinInt), text, true}, {kindOf(math.MaxInt), text, true},
		{text, kindOf(5), false}, {text, kindOf(-1), false}, {text, kindOf(math.MaxInt), false}, {text, kindOf(math.MinInt), false},
		{impl.Type{Kind: 5, Len: 1}, impl.Type{Kind: 5, Len: 2}, false}, {impl.Type{Kind: 5, Name: "a"}, impl.Type{Kind: 5, Name: "b"}, false},
		{impl.Type{Len: 1}, impl.Type{Len: 1}, true}, {impl.Type{Len: 1}, impl.Type{}, false}, {impl.Type{}, impl.Type{Len: 1}, false}, {impl.Type{Name: "a"}, impl.Type{}, false},
		{impl.Type{}, impl.Type{Kind: impl.TyText, Len: 3}, true}, {impl.Type{}, impl.Type{Kind: impl.TyText, Name: "a"}, true}, {impl.Type{Kind: impl.TyText, Len: 3}, text, true},
		{impl.Type{Kind: impl.TyText, Len: 3}, char(3), true}, {impl.Type{Kind: impl.TyText, Name: "a"}, enum("b"), true}, {impl.Type{Kind: impl.TyText, Len: 3}, impl.Type{Len: 3}, false},
		{text, char(0), true}, {text, char(101), true}, {text, char(-1), true}, {text, enum(""), true}, {text, enum("\x00"), true}, {text, enum(letters(41)), true},
		{char(0), char(0), true}, {char(0), char(1), false}, {char(100), char(101), false}, {char(101), text, true}, {enum(""), enum(""), true}, {enum(""), enum("a"), false}, {enum(""), text, true},
		{impl.Type{Kind: impl.TyChar, Len: 3, Name: "a"}, char(3), false}, {impl.Type{Kind: impl.TyEnum, Len: 1, Name: "a"}, enum("a"), false},
		{impl.Type{Kind: impl.TyBool, Len: 1}, kindOf(impl.TyBool), false},
	}
	for _, c := range cases {
		if got := impl.Turns(c.from, c.to); got != c.want {
			t.Errorf("Turns(%#v, %#v) = %v", c.from, c.to, got)
		}
	}
}

func TestTurnsForTypesOfEveryShape(t *testing.T) {
	types := someTypes()
	for _, from := range types {
		for _, to := range types {
			equal := from.Kind == to.Kind && from.Len == to.Len && from.Name == to.Name
			want := equal || to.Kind == 1 || from.Kind == 1 && (to.Kind == 3 || to.Kind == 4)
			if got := impl.Turns(from, to); got != want {
				t.Fatalf("Turns(%#v, %#v) = %v", from, to, got)
			}
		}
	}
}

func TestEveryTypeTurnsToItselfAndToText(t *testing.T) {
	for _, x := range slices.Concat(validTypes(), someTypes()) {
		if !impl.Turns(x, x) || !impl.Turns(x, kindOf(impl.TyText)) {
			t.Errorf("%#v", x)
		}
	}
}
