package tests

import (
	"fmt"
	"math"
	"math/rand"
	"slices"
	"strconv"
	"strings"
	"testing"

	"loop.example/g00751/impl"
)

// stmtKinds has a row for each kind, in order: a letter for each field that its statements use beside Kind and Name
// (On, List, Num, Flag, Type, Cols, Rules, Exprs), and how they are written, as the chapter states it. The second
// text is for statements without Flag and Exprs.
var stmtKinds = []struct {
	uses string
	text string
	bare string
}{
	{"l", "create type NAME as enum (LABELS)", ""},
	{"", "drop type NAME", ""},
	{"n", "create sequence NAME start NUM", ""},
	{"", "drop sequence NAME", ""},
	{"cr", "create table NAME (PARTS)", ""},
	{"", "drop table NAME", ""},
	{"c", "alter table NAME add column PARTS", ""},
	{"o", "alter table NAME drop column ON", ""},
	{"ot", "alter table NAME alter column ON type TYPE", ""},
	{"of", "alter table NAME alter column ON set not null", "alter table NAME alter column ON drop not null"},
	{"oe", "alter table NAME alter column ON set default EXPR", "alter table NAME alter column ON drop default"},
	{"r", "alter table NAME add PARTS", ""},
	{"o", "alter table NAME drop constraint ON", ""},
	{"olf", "create unique index NAME on ON (COLUMNS)", "create index NAME on ON (COLUMNS)"},
	{"", "drop index NAME", ""},
	{"ole", "create view NAME as select COLUMNS from ON where EXPR", "create view NAME as select COLUMNS from ON"},
	{"", "drop view NAME", ""},
}

var ruleTexts = []string{
	"constraint NAME primary key (COLUMNS)", "constraint NAME unique (COLUMNS)", "constraint NAME check (EXPR)",
	"constraint NAME foreign key (COLUMNS) references TABLE (TO)",
}

func TestStmtKinds(t *testing.T) {
	kinds := []int{
		impl.StEnum, impl.StDropEnum, impl.StSeq, impl.StDropSeq, impl.StTable, impl.StDropTable, impl.StAddCol, impl.StDropCol, impl.StColType,
		impl.StColNull, impl.StColDefault, impl.StAddRule, impl.StDropRule, impl.StIndex, impl.StDropIndex, impl.StView, impl.StDropView,
	}
	for i, kind := range kinds {
		if kind != i {
			t.Errorf("kind %d is %d", i, kind)
		}
	}
	if len(kinds) != 17 || len(stmtKinds) != 17 || len(ruleTexts) != 4 {
		t.Error(len(kinds), len(stmtKinds), len(ruleTexts))
	}
}

// checkStmt takes the empty string for an invalid statement.
func checkStmt(t *testing.T, s impl.Stmt, want string, what ...any) {
	t.Helper()
	if got := impl.StmtOk(s); got != (want != "") {
		t.Errorf("StmtOk = %v: %.300s: %.2000s", got, fmt.Sprint(what...), fmt.Sprintf("%+v", s))
	}
	if got := impl.PutStmt(s); got != want {
		t.Errorf("PutStmt = %.2000q, want %.2000q: %.300s", got, want, fmt.Sprint(what...))
	}
	if got := impl.Script([]impl.Stmt{s}); got != want+";\n" {
		t.Errorf("Script = %.2000q, want %.2000q: %.300s", got, want+";\n", fmt.Sprint(what...))
	}
}

// checkCol asks for the column by itself and in the statements that may contain one.
func checkCol(t *testing.T, x impl.Col, want string) {
	t.Helper()
	if got := impl.PutCol(x); got != want {
		t.Errorf("PutCol = %.2000q, want %.2000q", got, want)
	}
	add, table, second := "", "", ""
	if want != "" {
		add, table, second = "alter table t add column "+want, "create table t ("+want+")", "create table t (first int, "+want+")"
	}
	checkStmt(t, impl.Stmt{Kind: impl.StAddCol, Name: "t", Cols: []impl.Col{x}}, add, x.Name)
	checkStmt(t, impl.Stmt{Kind: impl.StTable, Name: "t", Cols: []impl.Col{x}}, table, x.Name)
	checkStmt(t, impl.Stmt{Kind: impl.StTable, Name: "t", Cols: []impl.Col{{Name: "first"}, x}}, second, x.Name)
}

// checkRule does the same for a rule.
func checkRule(t *testing.T, r impl.Rule, want string) {
	t.Helper()
	if got := impl.PutRule(r); got != want {
		t.Errorf("PutRule = %.2000q, want %.2000q", got, want)
	}
	add, table, second := "", "", ""
	if want != "" {
		add, table, second = "alter table t add "+want, "create table t ("+want+")", "create table t (first int, constraint k unique (a), "+want+")"
	}
	checkStmt(t, impl.Stmt{Kind: impl.StAddRule, Name: "t", Rules: []impl.Rule{r}}, add, r.Name)
	checkStmt(t, impl.Stmt{Kind: impl.StTable, Name: "t", Rules: []impl.Rule{r}}, table, r.Name)
	rules := []impl.Rule{key(impl.RuUnique, "k", "a"), r}
	checkStmt(t, impl.Stmt{Kind: impl.StTable, Name: "t", Cols: []impl.Col{{Name: "first"}}, Rules: rules}, second, r.Name)
}

type stmtCase struct {
	s    impl.Stmt
	want string
}

// sampleStmts has valid statements of each kind with their texts.
func sampleStmts() []stmtCase {
	a := impl.Col{Name: "a", NotNull: true, Default: []impl.Expr{lit(5)}}
	b := impl.Col{Name: "B", Type: char(8)}
	pk := key(impl.RuPrimary, "pk", "a", "B")
	ck := condition("ck", op(impl.EpLt, col("a"), lit(9)))
	rf := reference("rf", []string{"a", "B"}, "table", "id", "the key")
	return []stmtCase{
		{impl.Stmt{Name: "mood", List: []string{"sad"}}, "create type mood as enum ('sad')"},
		{impl.Stmt{Name: "Mood", List: []string{"it's", "B", "two words", "'", "\"", "sad"}}, "create type \"Mood\" as enum ('it''s', 'B', 'two words', '''', '\"', 'sad')"},
		{impl.Stmt{Kind: impl.StDropEnum, Name: "mood"}, "drop type mood"},
		{impl.Stmt{Kind: impl.StDropEnum, Name: "type"}, "drop type \"type\""},
		{impl.Stmt{Kind: impl.StSeq, Name: "s", Num: 7}, "create sequence s start 7"},
		{impl.Stmt{Kind: impl.StSeq, Name: "start"}, "create sequence \"start\" start 0"},
		{impl.Stmt{Kind: impl.StDropSeq, Name: "s_2"}, "drop sequence s_2"},
		{impl.Stmt{Kind: impl.StTable, Name: "t"}, "create table t ()"},
		{impl.Stmt{Kind: impl.StTable, Name: "t", Cols: []impl.Col{a}}, "create table t (a int not null default 5)"},
		{impl.Stmt{Kind: impl.StTable, Name: "t", Rules: []impl.Rule{ck}}, "create table t (constraint ck check (a < 9))"},
		{impl.Stmt{Kind: impl.StTable, Name: "t", Cols: []impl.Col{b, a}, Rules: []impl.Rule{rf, ck, pk}}, "create table t (\"B\" char(8), a int not null default 5, " +
			"constraint rf foreign key (a, \"B\") references \"table\" (id, \"the key\"), constraint ck check (a < 9), constraint pk primary key (a, \"B\"))"},
		{impl.Stmt{Kind: impl.StDropTable, Name: "t"}, "drop table t"},
		{impl.Stmt{Kind: impl.StAddCol, Name: "t", Cols: []impl.Col{a}}, "alter table t add column a int not null default 5"},
		{impl.Stmt{Kind: impl.StAddCol, Name: "add", Cols: []impl.Col{b}}, "alter table \"add\" add column \"B\" char(8)"},
		{impl.Stmt{Kind: impl.StDropCol, Name: "t", On: "column"}, "alter table t drop column \"column\""},
		{impl.Stmt{Kind: impl.StColType, Name: "t", On: "a"}, "alter table t alter column a type int"},
		{impl.Stmt{Kind: impl.StColType, Name: "t", On: "a", Type: char(100)}, "alter table t alter column a type char(100)"},
		{impl.Stmt{Kind: impl.StColType, Name: "t", On: "a", Type: enum("two words")}, "alter table t alter column a type enum \"two words\""},
		{impl.Stmt{Kind: impl.StColNull, Name: "t", On: "a", Flag: true}, "alter table t alter column a set not null"},
		{impl.Stmt{Kind: impl.StColNull, Name: "t", On: "a"}, "alter table t alter column a drop not null"},
		{impl.Stmt{Kind: impl.StColDefault, Name: "t", On: "a", Exprs: []impl.Expr{op(impl.EpIsNull, op(impl.EpNull))}}, "alter table t alter column a set default null is null"},
		{impl.Stmt{Kind: impl.StColDefault, Name: "t", On: "a"}, "alter table t alter column a drop default"},
		{impl.Stmt{Kind: impl.StAddRule, Name: "t", Rules: []impl.Rule{pk}}, "alter table t add constraint pk primary key (a, \"B\")"},
		{impl.Stmt{Kind: impl.StAddRule, Name: "t", Rules: []impl.Rule{key(impl.RuUnique, "unique", "a")}}, "alter table t add constraint \"unique\" unique (a)"},
		{impl.Stmt{Kind: impl.StAddRule, Name: "t", Rules: []impl.Rule{ck}}, "alter table t add constraint ck check (a < 9)"},
		{impl.Stmt{Kind: impl.StAddRule, Name: "t", Rules: []impl.Rule{rf}}, "alter table t add constraint rf foreign key (a, \"B\") references \"table\" (id, \"the key\")"},
		{impl.Stmt{Kind: impl.StDropRule, Name: "t", On: "pk"}, "alter table t drop constraint pk"},
		{impl.Stmt{Kind: impl.StIndex, Name: "i", On: "t", List: []string{"b", "a"}}, "create index i on t (b, a)"},
		{impl.Stmt{Kind: impl.StIndex, Name: "index", On: "on", List: []string{"a"}, Flag: true}, "create unique index \"index\" on \"on\" (a)"},
		{impl.Stmt{Kind: impl.StDropIndex, Name: "i"}, "drop index i"},
		{impl.Stmt{Kind: impl.StView, Name: "v", On: "t", List: []string{"b", "a", "from"}}, "create view v as select b, a, \"from\" from t"},
		{impl.Stmt{Kind: impl.StView, Name: "as", On: "select", List: []string{"a"}, Exprs: []impl.Expr{op(impl.EpNot, op(impl.EpOr, col("a"), col("where")))}}, "create view \"as\" as select a from \"select\" where not (a or \"where\")"},
		{impl.Stmt{Kind: impl.StDropView, Name: "v"}, "drop view v"},
	}
}

func TestStatements(t *testing.T) {
	met := map[int]int{}
	for _, x := range sampleStmts() {
		checkStmt(t, x.s, x.want)
		if got := wantStmt(x.s); got != x.want {
			t.Errorf("this test restates %q as %q", x.want, got)
		}
		met[x.s.Kind]++
	}
	if len(met) != 17 {
		t.Error(met)
	}
}

func TestStatementsOfNoKind(t *testing.T) {
	for _, kind := range []int{math.MinInt, -1 << 32, -256, -17, -2, -1, 17, 18, 31, 256, 256 + 5, 1 << 32, 1<<32 + 5, math.MaxInt} {
		checkStmt(t, impl.Stmt{Kind: kind}, "")
		for _, x := range sampleStmts() {
			x.s.Kind = kind
			checkStmt(t, x.s, "")
		}
	}
	for kind := range stmtKinds {
		checkStmt(t, impl.Stmt{Kind: kind}, "", "without a Name")
	}
}

// clearings and fillings have for each letter of stmtKinds what empties the field, and what puts something in it that is
// not zero: right, wrong, and empty where it is a list of something.
var clearings = map[string]func(s *impl.Stmt){
	"o": func(s *impl.Stmt) { s.On = "" },
	"l": func(s *impl.Stmt) { s.List = nil },
	"n": func(s *impl.Stmt) { s.Num = 0 },
	"f": func(s *impl.Stmt) { s.Flag = false },
	"t": func(s *impl.Stmt) { s.Type = impl.Type{} },
	"c": func(s *impl.Stmt) { s.Cols = nil },
	"r": func(s *impl.Stmt) { s.Rules = nil },
	"e": func(s *impl.Stmt) { s.Exprs = nil },
}

var fillings = map[string][]func(s *impl.Stmt){
	"o": {
		func(s *impl.Stmt) { s.On = "a" }, func(s *impl.Stmt) { s.On = s.Name }, func(s *impl.Stmt) { s.On = " " },
		func(s *impl.Stmt) { s.On = "\x00" }, func(s *impl.Stmt) { s.On = letters(41) },
	},
	"l": {
		func(s *impl.Stmt) { s.List = []string{"a"} }, func(s *impl.Stmt) { s.List = []string{""} },
		func(s *impl.Stmt) { s.List = []string{"a", "b"} }, func(s *impl.Stmt) { s.List = make([]string, 13) },
	},
	"n": {
		func(s *impl.Stmt) { s.Num = 1 }, func(s *impl.Stmt) { s.Num = -1 }, func(s *impl.Stmt) { s.Num = 999999999 },
		func(s *impl.Stmt) { s.Num = 1 << 32 }, func(s *impl.Stmt) { s.Num = math.MinInt },
	},
	"f": {func(s *impl.Stmt) { s.Flag = true }},
	"t": {
		func(s *impl.Stmt) { s.Type = kindOf(impl.TyText) }, func(s *impl.Stmt) { s.Type = char(3) }, func(s *impl.Stmt) { s.Type = enum("a") },
		func(s *impl.Stmt) { s.Type.Len = 1 }, func(s *impl.Stmt) { s.Type.Name = "a" }, func(s *impl.Stmt) { s.Type.Kind = -1 }, func(s *impl.Stmt) { s.Type.Kind = 5 },
	},
	"c": {
		func(s *impl.Stmt) { s.Cols = []impl.Col{{Name: "a"}} }, func(s *impl.Stmt) { s.Cols = []impl.Col{{}} },
		func(s *impl.Stmt) { s.Cols = []impl.Col{{Name: "a"}, {Name: "b"}} },
	},
	"r": {
		func(s *impl.Stmt) { s.Rules = []impl.Rule{key(impl.RuUnique, "u", "a")} }, func(s *impl.Stmt) { s.Rules = []impl.Rule{{}} },
		func(s *impl.Stmt) { s.Rules = []impl.Rule{condition("c", lit(1)), condition("d", lit(1))} },
	},
	"e": {
		func(s *impl.Stmt) { s.Exprs = []impl.Expr{lit(1)} }, func(s *impl.Stmt) { s.Exprs = []impl.Expr{{}} },
		func(s *impl.Stmt) { s.Exprs = []impl.Expr{lit(1), lit(2)} },
	},
}

func TestFieldsThatAreNotUsed(t *testing.T) {
	met := map[string]int{}
	for _, x := range sampleStmts() {
		for letter, list := range fillings {
			if strings.Contains(stmtKinds[x.s.Kind].uses, letter) {
				continue
			}
			for i, fill := range list {
				s := x.s
				fill(&s)
				checkStmt(t, s, "", "filling ", letter, i)
				met[fmt.Sprint(s.Kind, letter)]++
			}
			s := x.s
			clearings[letter](&s)
			checkStmt(t, s, x.want, "clearing ", letter)
		}
	}
	if len(met) != 17*8-20 {
		t.Error(len(met))
	}
}

// What is used must be there, but for a Num, a Flag and a Type, which are then zero, and for what may be missing.
func TestFieldsThatAreEmpty(t *testing.T) {
	needed := []string{"l", "", "", "", "", "", "c", "o", "o", "o", "o", "r", "o", "ol", "", "ol", ""}
	for _, x := range sampleStmts() {
		for letter, clear := range clearings {
			s := x.s
			clear(&s)
			if strings.Contains(needed[s.Kind], letter) {
				checkStmt(t, s, "", "clearing ", letter)
			} else if got := impl.PutStmt(s); got == "" || got != wantStmt(s) {
				t.Errorf("without %s: %q, want %q", letter, got, wantStmt(s))
			}
		}
		x.s.Name = ""
		checkStmt(t, x.s, "", "without a Name")
	}
}

type place struct {
	put  func(s string) impl.Stmt
	text string
}

func withCol(x impl.Col) impl.Stmt {
	return impl.Stmt{Kind: impl.StAddCol, Name: "t", Cols: []impl.Col{x}}
}

func withRule(r impl.Rule) impl.Stmt {
	return impl.Stmt{Kind: impl.StAddRule, Name: "t", Rules: []impl.Rule{r}}
}

// namePlaces has a place for each name in a statement, with ? for it in the text.
func namePlaces() []place {
	index := func(list ...string) impl.Stmt { return impl.Stmt{Kind: impl.StIndex, Name: "i", On: "t", List: list} }
	view := func(list ...string) impl.Stmt { return impl.Stmt{Kind: impl.StView, Name: "v", On: "t", List: list} }
	table := func(s string, cols []impl.Col, rules ...impl.Rule) impl.Stmt {
		return impl.Stmt{Kind: impl.StTable, Name: s, Cols: cols, Rules: rules}
	}
	out := []place{
		{func(s string) impl.Stmt { return index(s) }, "create index i on t (?)"},
		{func(s string) impl.Stmt { return index("a", s, "b") }, "create index i on t (a, ?, b)"},
		{func(s string) impl.Stmt { return index("a", "b", s) }, "create index i on t (a, b, ?)"},
		{func(s string) impl.Stmt { return view(s) }, "create view v as select ? from t"},
		{func(s string) impl.Stmt { return view("a", s, "b") }, "create view v as select a, ?, b from t"},
		{func(s string) impl.Stmt { return view("a", "b", s) }, "create view v as select a, b, ? from t"},
		{func(s string) impl.Stmt { return withCol(impl.Col{Name: s}) }, "alter table t add column ? int"},
		{func(s string) impl.Stmt { return withCol(column("c", enum(s))) }, "alter table t add column c enum ?"},
		{func(s string) impl.Stmt { return withCol(impl.Col{Name: "c", Default: []impl.Expr{col(s)}}) }, "alter table t add column c int default ?"},
		{func(s string) impl.Stmt { return impl.Stmt{Kind: impl.StColType, Name: "t", On: "a", Type: enum(s)} }, "alter table t alter column a type enum ?"},
		{func(s string) impl.Stmt { return withRule(key(impl.RuPrimary, s, "a")) }, "alter table t add constraint ? primary key (a)"},
		{func(s string) impl.Stmt { return withRule(key(impl.RuUnique, s, "a")) }, "alter table t add constraint ? unique (a)"},
		{func(s string) impl.Stmt { return withRule(condition(s, lit(1))) }, "alter table t add constraint ? check (1)"},
		{func(s string) impl.Stmt { return withRule(reference(s, []string{"a"}, "u", "b")) }, "alter table t add constraint ? foreign key (a) references u (b)"},
		{func(s string) impl.Stmt { return withRule(key(impl.RuPrimary, "k", s)) }, "alter table t add constraint k primary key (?)"},
		{func(s string) impl.Stmt { return withRule(key(impl.RuUnique, "k", "a", s)) }, "alter table t add constraint k unique (a, ?)"},
		{func(s string) impl.Stmt { return withRule(condition("k", op(impl.EpIsNull, col(s)))) }, "alter table t add constraint k check (? is null)"},
		{func(s string) impl.Stmt { return withRule(reference("r", []string{"a", s}, "u", "b", "c")) }, "alter table t add constraint r foreign key (a, ?) references u (b, c)"},
		{func(s string) impl.Stmt { return withRule(reference("r", []string{"a"}, s, "b")) }, "alter table t add constraint r foreign key (a) references ? (b)"},
		{func(s string) impl.Stmt { return withRule(reference("r", []string{"a", "b"}, "u", s, "c")) }, "alter table t add constraint r foreign key (a, b) references u (?, c)"},
		{func(s string) impl.Stmt { return withRule(reference("r", []string{"a", "b"}, "u", "c", s)) }, "alter table t add constraint r foreign key (a, b) references u (c, ?)"},
		{func(s string) impl.Stmt { return table("t", []impl.Col{{Name: "a"}, {Name: s}, {Name: "b"}}) }, "create table t (a int, ? int, b int)"},
		{func(s string) impl.Stmt { return table("t", nil, condition("a", lit(1)), condition(s, lit(1))) }, "create table t (constraint a check (1), constraint ? check (1))"},
	}
	for _, x := range sampleStmts() {
		named, on := x.s, x.s
		named.Name, on.On = "(name)", "(on)"
		text := strings.Replace(wantStmt(named), wantName("(name)"), "?", 1)
		out = append(out, place{func(s string) impl.Stmt { named.Name = s; return named }, text})
		if x.s.On != "" {
			text := strings.Replace(wantStmt(on), wantName("(on)"), "?", 1)
			out = append(out, place{func(s string) impl.Stmt { on.On = s; return on }, text})
		}
	}
	return out
}

func TestNamesInStatements(t *testing.T) {
	places := namePlaces()
	for i, x := range places {
		if strings.Count(x.text, "?") != 1 {
			t.Fatal(i, x.text)
		}
		for _, s := range sampleNames() {
			checkStmt(t, x.put(s), strings.Replace(x.text, "?", wantName(s), 1), i)
		}
		for _, s := range badNames() {
			checkStmt(t, x.put(s), "", i)
		}
	}
}

func TestLabelsInStatements(t *testing.T) {
	enumOf := func(list ...string) impl.Stmt { return impl.Stmt{Name: "e", List: list} }
	written := func(s string) string { return "'" + strings.ReplaceAll(s, "'", "''") + "'" }
	for _, s := range append(sampleNames(), strings.Repeat("'", 39), strings.Repeat("'", 40), "''", "it''s", "'a'", "a,b", "a', 'b", "--", "\\'") {
		checkStmt(t, enumOf(s), "create type e as enum ("+written(s)+")")
		checkStmt(t, enumOf("a", s), "create type e as enum ('a', "+written(s)+")")
		checkStmt(t, enumOf(s, "a", "b"), "create type e as enum ("+written(s)+", 'a', 'b')")
		checkStmt(t, enumOf(s, s), "create type e as enum ("+written(s)+", "+written(s)+")", "the same label twice")
	}
	for _, s := range badNames() {
		checkStmt(t, enumOf(s), "")
		checkStmt(t, enumOf("a", s), "")
		checkStmt(t, enumOf(s, "a", "b"), "")
	}
	for _, unit := range []string{"a", "'", "\"", " ", "\xff", "\n", "\x00"} {
		for _, n := range []int{0, 1, 2, 39, 40, 41, 42, 100} {
			s, want := strings.Repeat(unit, n), ""
			if n >= 1 && n <= 40 && unit != "\x00" {
				want = "create type e as enum (" + written(s) + ")"
			}
			checkStmt(t, enumOf(s), want, n)
		}
	}
	checkStmt(t, enumOf(slices.Repeat([]string{"a"}, 12)...), "create type e as enum ("+strings.Repeat("'a', ", 11)+"'a')")
	checkStmt(t, enumOf(slices.Repeat([]string{"a"}, 13)...), "")
}

func TestLengthsOfListsInStatements(t *testing.T) {
	for n := range 20 {
		names := numbered(n)
		plain, labelled := strings.Join(names, ", "), "'"+strings.Join(names, "', '")+"'"
		for kind := range stmtKinds {
			for _, x := range sampleStmts() {
				if x.s.Kind != kind {
					continue
				}
				x.s.List = names
				want := wantStmt(x.s)
				if uses := strings.Contains(stmtKinds[kind].uses, "l"); (want != "") != (uses && n >= 1 && n <= 12 || !uses && n == 0) {
					t.Fatalf("this test wants %q of kind %d with %d elements", want, kind, n)
				}
				checkStmt(t, x.s, want, kind, n)
			}
		}
		if n < 1 || n > 12 {
			plain, labelled = "", ""
		}
		for _, x := range []struct {
			s            impl.Stmt
			before, text string
			behind       string
		}{
			{impl.Stmt{Name: "e"}, "create type e as enum (", labelled, ")"},
			{impl.Stmt{Kind: impl.StIndex, Name: "i", On: "t"}, "create index i on t (", plain, ")"},
			{impl.Stmt{Kind: impl.StIndex, Name: "i", On: "t", Flag: true}, "create unique index i on t (", plain, ")"},
			{impl.Stmt{Kind: impl.StView, Name: "v", On: "t"}, "create view v as select ", plain, " from t"},
			{impl.Stmt{Kind: impl.StView, Name: "v", On: "t", Exprs: []impl.Expr{op(impl.EpFalse)}}, "create view v as select ", plain, " from t where false"},
		} {
			x.s.List = names
			want := ""
			if x.text != "" {
				want = x.before + x.text + x.behind
			}
			checkStmt(t, x.s, want, n)
		}
	}
}

// Only what a plan makes of a statement asks for columns that are distinct, rising or at most four.
func TestColumnsTwice(t *testing.T) {
	checkStmt(t, impl.Stmt{Kind: impl.StIndex, Name: "i", On: "i", List: []string{"i", "i", "a", "i", "i"}}, "create index i on i (i, i, a, i, i)")
	checkStmt(t, impl.Stmt{Kind: impl.StView, Name: "v", On: "v", List: []string{"b", "a", "b"}}, "create view v as select b, a, b from v")
	checkStmt(t, impl.Stmt{Kind: impl.StTable, Name: "t", Cols: []impl.Col{{Name: "b"}, {Name: "a"}, {Name: "b"}}}, "create table t (b int, a int, b int)")
	checkRule(t, key(impl.RuPrimary, "k", "b", "a", "b"), "constraint k primary key (b, a, b)")
	checkRule(t, reference("r", []string{"b", "a"}, "t", "c", "c"), "constraint r foreign key (b, a) references t (c, c)")
	checkStmt(t, impl.Stmt{Kind: impl.StTable, Name: "t", Rules: []impl.Rule{key(impl.RuPrimary, "k", "a"), key(impl.RuPrimary, "k", "a")}}, "create table t (constraint k primary key (a), constraint k primary key (a))")
}

func TestNumbersInStatements(t *testing.T) {
	for _, n := range []int{0, 1, 9, 10, 99, 100, 4095, 123456789, 999999998, 999999999} {
		checkStmt(t, impl.Stmt{Kind: impl.StSeq, Name: "s", Num: n}, "create sequence s start "+strconv.Itoa(n))
	}
	for _, n := range []int{math.MinInt, -1 << 32, -999999999, -2, -1, 1000000000, 1000000001, 1 << 32, 1<<32 + 1, math.MaxInt} {
		checkStmt(t, impl.Stmt{Kind: impl.StSeq, Name: "s", Num: n}, "", n)
	}
}

func TestTypesInStatements(t *testing.T) {
	for _, x := range append(someTypes(), validTypes()...) {
		text, want, plain := wantType(x), "", ""
		if text != "" {
			want, plain = "alter table t alter column a type "+text, "c "+text
		}
		checkStmt(t, impl.Stmt{Kind: impl.StColType, Name: "t", On: "a", Type: x}, want, x)
		checkCol(t, column("c", x), plain)
	}
}

func TestColumnsOfEveryShape(t *testing.T) {
	types := []impl.Type{kindOf(impl.TyInt), kindOf(impl.TyText), kindOf(impl.TyBool), char(1), enum("mood"), kindOf(7), char(0), enum(""), {Len: 1}, {Kind: impl.TyText, Name: "a"}}
	defaults := [][]impl.Expr{nil, {}, {lit(5)}, {quoted("it's")}, {op(impl.EpNull)}, {op(impl.EpAnd, col("a"), op(impl.EpNot, col("b")))}, {lit(1), lit(1)}, {lit(1), {}}, {lit(1), lit(2), lit(3)}, {{}}, {lit(-1)}, {op(impl.EpNot)}}
	valid := 0
	for _, name := range []string{"a", "Big", "not", "default", letters(40), "", letters(41), "a\x00"} {
		for _, x := range types {
			for _, notNull := range []bool{false, true} {
				for _, list := range defaults {
					c := impl.Col{Name: name, Type: x, NotNull: notNull, Default: list}
					want := wantCol(c)
					checkCol(t, c, want)
					if want != "" {
						valid++
					}
				}
			}
		}
	}
	if valid != 5*5*2*6 {
		t.Error(valid)
	}
	checkCol(t, impl.Col{Name: "a", NotNull: true, Default: []impl.Expr{op(impl.EpNot, op(impl.EpNull))}}, "a int not null default not null")
	checkCol(t, impl.Col{Name: "a", Default: []impl.Expr{op(impl.EpNot, op(impl.EpNull))}}, "a int default not null")
	checkCol(t, impl.Col{Name: "a", Type: enum("not"), NotNull: true}, "a enum \"not\" not null")
	checkCol(t, impl.Col{}, "")
}

// numberedTable returns a table with so many columns and rules, and their texts.
func numberedTable(cols int, rules int) (s impl.Stmt, parts []string) {
	s = impl.Stmt{Kind: impl.StTable, Name: "t"}
	for _, name := range numbered(cols) {
		s.Cols = append(s.Cols, impl.Col{Name: name})
		parts = append(parts, name+" int")
	}
	for _, name := range numbered(rules) {
		s.Rules = append(s.Rules, key(impl.RuUnique, name, "a"))
		parts = append(parts, "constraint "+name+" unique (a)")
	}
	return s, parts
}

// The number of columns and rules together has no limit of its own.
func TestNumbersOfColumnsAndRules(t *testing.T) {
	for cols := range 16 {
		for rules := range 12 {
			s, parts := numberedTable(cols, rules)
			want := ""
			if cols <= 12 && rules <= 8 {
				want = "create table t (" + strings.Join(parts, ", ") + ")"
			}
			checkStmt(t, s, want, cols, rules)
			for _, kind := range []int{impl.StAddCol, impl.StAddRule} {
				s.Kind, want = kind, ""
				switch {
				case kind == impl.StAddCol && cols == 1 && rules == 0:
					want = "alter table t add column n000000 int"
				case kind == impl.StAddRule && cols == 0 && rules == 1:
					want = "alter table t add constraint n000000 unique (a)"
				}
				checkStmt(t, s, want, kind, cols, rules)
			}
		}
	}
	for i := range 12 {
		s := impl.Stmt{Kind: impl.StTable, Name: "t"}
		for _, name := range numbered(12) {
			s.Cols = append(s.Cols, impl.Col{Name: name})
		}
		s.Cols[i].Type.Len = 1
		checkStmt(t, s, "", "bad column ", i)
	}
	for i := range 8 {
		s := impl.Stmt{Kind: impl.StTable, Name: "t"}
		for _, name := range numbered(8) {
			s.Rules = append(s.Rules, key(impl.RuUnique, name, "a"))
		}
		s.Rules[i].To = []string{"a"}
		checkStmt(t, s, "", "bad rule ", i)
	}
}

// Each field of a rule of each kind is empty, right and wrong.
func TestRulesOfEveryShapeInStatements(t *testing.T) {
	lists := [][]string{nil, {}, {"a"}, {"Big"}, {"a", "b"}, {"a", "b", "c", "d"}, {"a", "b", "c", "d", "e"}, {""}, {"a", ""}, {"", "a"}, {letters(41)}, {"a\x00", "b"}}
	exprs := [][]impl.Expr{nil, {}, {op(impl.EpTrue)}, {lit(1), lit(1)}, {{}}, {lit(1), {}}, {op(impl.EpIsNull, col("a"))}}
	tables := []string{"", "t", "two words", letters(40), letters(41), "\x00"}
	names := []string{"r", "unique", "", letters(41)}
	kinds := []int{math.MinInt, -1, 0, 1, 2, 3, 4, 256, math.MaxInt}
	valid := map[int]int{}
	for _, kind := range kinds {
		for _, name := range names {
			for _, list := range lists {
				for _, e := range exprs {
					for _, table := range tables {
						for _, to := range lists {
							r := impl.Rule{Name: name, Kind: kind, Cols: list, Expr: e, Table: table, To: to}
							want := wantRule(r)
							if got := impl.PutRule(r); got != want {
								t.Errorf("PutRule(%+v) = %q, want %q", r, got, want)
							}
							if got := impl.StmtOk(withRule(r)); got != (want != "") {
								t.Errorf("StmtOk = %v of %+v", got, r)
							}
							if want != "" {
								valid[kind]++
							}
						}
					}
				}
			}
		}
	}
	// Right are two names, two lists of one column, one of two and one of four, two lists of expressions, and three tables;
	// empty are two lists of each kind, and one table.
	for kind, n := range map[int]int{0: 2 * 4 * 2 * 2, 1: 2 * 4 * 2 * 2, 2: 2 * 2 * 2 * 2, 3: 2 * (2*2 + 1 + 1) * 2 * 3} {
		if valid[kind] != n {
			t.Errorf("%d rules of kind %d, want %d", valid[kind], kind, n)
		}
		delete(valid, kind)
	}
	if len(valid) > 0 {
		t.Error(valid)
	}
}

func TestRules(t *testing.T) {
	for _, x := range []struct {
		r    impl.Rule
		want string
	}{
		{key(impl.RuPrimary, "k", "a"), "constraint k primary key (a)"},
		{key(impl.RuPrimary, "k", "d", "c", "b", "a"), "constraint k primary key (d, c, b, a)"},
		{key(impl.RuUnique, "primary", "key", "a"), "constraint \"primary\" unique (\"key\", a)"},
		{condition("c", op(impl.EpMul, op(impl.EpAdd, col("a"), lit(1)), lit(2))), "constraint c check ((a + 1) * 2)"},
		{condition("c", quoted("it's)")), "constraint c check ('it''s)')"},
		{reference("r", []string{"a", "b", "c", "d"}, "t", "e", "f", "g", "h"), "constraint r foreign key (a, b, c, d) references t (e, f, g, h)"},
		{reference("r", []string{"a"}, "r", "a"), "constraint r foreign key (a) references r (a)"},
		{impl.Rule{}, ""}, {impl.Rule{Name: "k"}, ""}, {key(impl.RuPrimary, "", "a"), ""}, {key(impl.RuPrimary, "k", "a", "b", "c", "d", "e"), ""},
		{key(impl.RuCheck, "k", "a"), ""}, {key(impl.RuRef, "k", "a"), ""}, {key(-1, "k", "a"), ""}, {key(4, "k", "a"), ""},
		{condition("c"), ""}, {condition("c", lit(1), lit(2)), ""}, {condition("c", impl.Expr{}), ""},
		{reference("r", nil, "t"), ""}, {reference("r", []string{"a"}, "t"), ""}, {reference("r", nil, "t", "a"), ""}, {reference("r", []string{"a"}, "", "a"), ""},
		{reference("r", []string{"a"}, "t", "a", "b"), ""}, {reference("r", []string{"a", "b"}, "t", "a"), ""}, {reference("r", []string{"a"}, "t", ""), ""},
		{reference("r", []string{"a", "b", "c", "d", "e"}, "t", "a", "b", "c", "d", "e"), ""},
		{impl.Rule{Name: "c", Kind: impl.RuCheck, Cols: []string{"a"}, Expr: []impl.Expr{lit(1)}}, ""},
		{impl.Rule{Name: "c", Kind: impl.RuCheck, Cols: []string{"a"}, Expr: []impl.Expr{lit(1)}, To: []string{"a"}}, ""},
		{impl.Rule{Name: "k", Kind: impl.RuUnique, Cols: []string{"a"}, To: []string{"a"}}, ""},
	} {
		checkRule(t, x.r, x.want)
		if got := wantRule(x.r); got != x.want {
			t.Errorf("this test restates %q as %q", x.want, got)
		}
	}
}

func TestLengthsOfListsInRules(t *testing.T) {
	for n := range 8 {
		list := numbered(n)
		text := strings.Join(list, ", ")
		for m := range 8 {
			to, want := numbered(m), ""
			if n == m && n >= 1 && n <= 4 {
				want = "constraint r foreign key (" + text + ") references t (" + text + ")"
			}
			checkRule(t, reference("r", list, "t", to...), want)
		}
		primary, unique := "", ""
		if n >= 1 && n <= 4 {
			primary, unique = "constraint r primary key ("+text+")", "constraint r unique ("+text+")"
		}
		checkRule(t, key(impl.RuPrimary, "r", list...), primary)
		checkRule(t, key(impl.RuUnique, "r", list...), unique)
		check := ""
		if n == 0 {
			check = "constraint r check (true)"
		}
		checkRule(t, impl.Rule{Name: "r", Kind: impl.RuCheck, Cols: list, Expr: []impl.Expr{op(impl.EpTrue)}}, check)
	}
}

type exprPlace struct {
	put      func(list ...impl.Expr) impl.Stmt
	before   string
	behind   string
	optional string
}

// exprPlaces has a place for each expression in a statement, and the text without one, if it may be missing.
var exprPlaces = []exprPlace{
	{func(list ...impl.Expr) impl.Stmt {
		return impl.Stmt{Kind: impl.StColDefault, Name: "t", On: "a", Exprs: list}
	}, "alter table t alter column a set default ", "", "alter table t alter column a drop default"},
	{func(list ...impl.Expr) impl.Stmt {
		return impl.Stmt{Kind: impl.StView, Name: "v", On: "t", List: []string{"a"}, Exprs: list}
	}, "create view v as select a from t where ", "", "create view v as select a from t"},
	{func(list ...impl.Expr) impl.Stmt { return withCol(impl.Col{Name: "a", Default: list}) }, "alter table t add column a int default ", "", "alter table t add column a int"},
	{func(list ...impl.Expr) impl.Stmt { return withCol(impl.Col{Name: "a", NotNull: true, Default: list}) }, "alter table t add column a int not null default ", "", "alter table t add column a int not null"},
	{func(list ...impl.Expr) impl.Stmt { return withRule(condition("c", list...)) }, "alter table t add constraint c check (", ")", ""},
	{func(list ...impl.Expr) impl.Stmt {
		return impl.Stmt{Kind: impl.StTable, Name: "t", Cols: []impl.Col{{Name: "a", Default: list}, {Name: "b"}}}
	}, "create table t (a int default ", ", b int)", "create table t (a int, b int)"},
	{func(list ...impl.Expr) impl.Stmt {
		return impl.Stmt{Kind: impl.StTable, Name: "t", Rules: []impl.Rule{condition("a", lit(1)), condition("b", list...)}}
	}, "create table t (constraint a check (1), constraint b check (", "))", ""},
}

func TestExpressionsInStatements(t *testing.T) {
	random := rand.New(rand.NewSource(8))
	for i, x := range exprPlaces {
		checkStmt(t, x.put(), x.optional, i)
		checkStmt(t, x.put([]impl.Expr{}...), x.optional, i)
		for n := range 400 {
			e := anyExpr(random, 1+n%40)
			checkStmt(t, x.put(e), x.before+written(e, 1, noMore)+x.behind, i)
			checkStmt(t, x.put(e, e), "", i, "twice")
			checkStmt(t, x.put(e, impl.Expr{}), "", i, "beside a bad one")
			checkStmt(t, x.put(impl.Expr{}, e), "", i, "behind a bad one")
		}
		for _, e := range badNodes() {
			checkStmt(t, x.put(e), "", i)
			checkStmt(t, x.put(op(impl.EpNot, e)), "", i)
		}
		for n := 38; n <= 43; n++ {
			for _, e := range []impl.Expr{chain(impl.EpNot, n, col("a")), chain(impl.EpIsNull, n, col("a")), tree(impl.EpAdd, n), tree(impl.EpOr, n)} {
				want := ""
				if n <= 40 {
					want = x.before + written(e, 1, noMore) + x.behind
				}
				checkStmt(t, x.put(e), want, i, n)
			}
		}
	}
}

// An expression need not have a sort: only what a plan makes of a statement asks for one.
func TestExpressionsWithoutASort(t *testing.T) {
	for i, x := range exprPlaces {
		for _, e := range []impl.Expr{lit(1), quoted("x"), col("none"), op(impl.EpNot, lit(1)), op(impl.EpAdd, quoted("a"), op(impl.EpTrue)), op(impl.EpEq, op(impl.EpTrue), lit(1))} {
			checkStmt(t, x.put(e), x.before+written(e, 1, noMore)+x.behind, i)
		}
	}
}

func TestScript(t *testing.T) {
	for _, list := range [][]impl.Stmt{nil, {}} {
		if got := impl.Script(list); got != "" {
			t.Errorf("Script of nothing = %q", got)
		}
	}
	good, bad := impl.Stmt{Kind: impl.StDropView, Name: "v"}, impl.Stmt{Kind: 17, Name: "v"}
	for _, x := range []struct {
		list []impl.Stmt
		want string
	}{
		{[]impl.Stmt{good}, "drop view v;\n"}, {[]impl.Stmt{good, good}, "drop view v;\ndrop view v;\n"},
		{[]impl.Stmt{bad}, ";\n"}, {[]impl.Stmt{{}}, ";\n"}, {[]impl.Stmt{bad, bad}, ";\n;\n"},
		{[]impl.Stmt{bad, good}, ";\ndrop view v;\n"}, {[]impl.Stmt{good, bad}, "drop view v;\n;\n"}, {[]impl.Stmt{good, {}, good}, "drop view v;\n;\ndrop view v;\n"},
		{[]impl.Stmt{{Kind: impl.StSeq, Name: ";"}, good}, "create sequence \";\" start 0;\ndrop view v;\n"},
		{[]impl.Stmt{{Name: "e", List: []string{"a;\n"}}, good}, "create type e as enum ('a;\n');\ndrop view v;\n"},
	} {
		if got := impl.Script(x.list); got != x.want {
			t.Errorf("Script = %q, want %q", got, x.want)
		}
	}
	var list []impl.Stmt
	want := ""
	for _, x := range sampleStmts() {
		list, want = append(list, x.s), want+x.want+";\n"
		if got := impl.Script(list); got != want {
			t.Errorf("Script = %q, want %q", got, want)
		}
	}
	if got := impl.Script(slices.Repeat([]impl.Stmt{good, bad}, 100000)); got != strings.Repeat("drop view v;\n;\n", 100000) {
		t.Errorf("a long script has %d bytes", len(got))
	}
}

// stmtFaults restates the chapter: it counts the conditions that a statement breaks.
func stmtFaults(s impl.Stmt) faults {
	f := faults{}
	if s.Kind < 0 || s.Kind > 16 {
		f["kind"]++
		return f
	}
	uses := map[string]bool{}
	for letter := range fillings {
		uses[letter] = strings.Contains(stmtKinds[s.Kind].uses, letter)
	}
	f.unless(nameByHand(s.Name), "name")
	f.unless(nameByHand(s.On) || !uses["o"], "on")
	f.unless(s.On == "" || uses["o"], "on-unused")
	f.unless(len(s.List) >= 1 && len(s.List) <= 12 || !uses["l"], "list-number")
	f.unless(len(s.List) == 0 || uses["l"], "list-unused")
	for _, x := range s.List {
		f.unless(nameByHand(x) || !uses["l"], "list-element")
	}
	f.unless(s.Num >= 0 && s.Num < 1000000000 || !uses["n"], "num")
	f.unless(s.Num == 0 || uses["n"], "num-unused")
	f.unless(!s.Flag || uses["f"], "flag-unused")
	f.unless(wantType(s.Type) != "" || !uses["t"], "type")
	f.unless(s.Type == impl.Type{} || uses["t"], "type-unused")
	f.unless(len(s.Cols) <= 12 && (len(s.Cols) == 1 || s.Kind == impl.StTable) || !uses["c"], "cols-number")
	f.unless(len(s.Cols) == 0 || uses["c"], "cols-unused")
	f.unless(len(s.Rules) <= 8 && (len(s.Rules) == 1 || s.Kind == impl.StTable) || !uses["r"], "rules-number")
	f.unless(len(s.Rules) == 0 || uses["r"], "rules-unused")
	f.unless(len(s.Exprs) <= 1 || !uses["e"], "exprs-number")
	f.unless(len(s.Exprs) == 0 || uses["e"], "exprs-unused")
	for _, e := range s.Exprs {
		f.unless(impl.ExprOk(e) || !uses["e"], "expr")
	}
	if uses["c"] {
		for _, x := range s.Cols {
			f.stmtCol(x)
		}
	}
	if uses["r"] {
		for _, r := range s.Rules {
			f.stmtRule(r)
		}
	}
	return f
}

func (f faults) stmtCol(x impl.Col) {
	f.unless(nameByHand(x.Name), "col-name")
	f.unless(wantType(x.Type) != "", "col-type")
	f.unless(len(x.Default) <= 1, "col-defaults")
	for _, e := range x.Default {
		f.unless(impl.ExprOk(e), "col-default")
	}
}

func (f faults) stmtRule(r impl.Rule) {
	f.unless(nameByHand(r.Name), "rule-name")
	f.unless(r.Kind >= 0 && r.Kind <= 3, "rule-kind")
	if r.Kind == impl.RuCheck {
		f.unless(len(r.Cols) == 0 && r.Table == "" && len(r.To) == 0, "rule-unused")
		f.unless(len(r.Expr) == 1, "rule-exprs")
		for _, e := range r.Expr {
			f.unless(impl.ExprOk(e), "rule-expr")
		}
		return
	}
	f.unless(len(r.Cols) >= 1 && len(r.Cols) <= 4, "rule-cols")
	f.unless(len(r.Expr) == 0, "rule-unused")
	for _, s := range r.Cols {
		f.unless(nameByHand(s), "rule-col")
	}
	if r.Kind != impl.RuRef {
		f.unless(r.Table == "" && len(r.To) == 0, "rule-unused")
		return
	}
	f.unless(nameByHand(r.Table), "rule-table")
	f.unless(len(r.To) == len(r.Cols), "rule-to")
	for _, s := range r.To {
		f.unless(nameByHand(s), "rule-to-name")
	}
}

// stmtWords are all the words of stmtFaults.
var stmtWords = strings.Fields(`kind name on on-unused list-number list-unused list-element num num-unused flag-unused type type-unused
	cols-number cols-unused rules-number rules-unused exprs-number exprs-unused expr col-name col-type col-defaults col-default
	rule-name rule-kind rule-unused rule-exprs rule-expr rule-cols rule-col rule-table rule-to rule-to-name`)

func listed(list []string, put func(string) string) string {
	var out []string
	for _, s := range list {
		out = append(out, put(s))
	}
	return strings.Join(out, ", ")
}

func wantLabel(s string) string {
	return "'" + strings.ReplaceAll(s, "'", "''") + "'"
}

func wantExpr(list []impl.Expr) string {
	if len(list) == 0 {
		return ""
	}
	return written(list[0], 1, noMore)
}

// wantCol, wantRule and wantStmt restate the texts; the empty string is for what is invalid.
func wantCol(x impl.Col) string {
	f := faults{}
	if f.stmtCol(x); len(f) > 0 {
		return ""
	}
	text := wantName(x.Name) + " " + wantType(x.Type)
	if x.NotNull {
		text += " not null"
	}
	if len(x.Default) > 0 {
		text += " default " + wantExpr(x.Default)
	}
	return text
}

func wantRule(r impl.Rule) string {
	f := faults{}
	if f.stmtRule(r); len(f) > 0 {
		return ""
	}
	return strings.NewReplacer("NAME", wantName(r.Name), "COLUMNS", listed(r.Cols, wantName), "EXPR", wantExpr(r.Expr),
		"TABLE", wantName(r.Table), "TO", listed(r.To, wantName)).Replace(ruleTexts[r.Kind])
}

func wantStmt(s impl.Stmt) string {
	if len(stmtFaults(s)) > 0 {
		return ""
	}
	var parts []string
	for _, x := range s.Cols {
		parts = append(parts, wantCol(x))
	}
	for _, r := range s.Rules {
		parts = append(parts, wantRule(r))
	}
	form := stmtKinds[s.Kind].text
	if bare := stmtKinds[s.Kind].bare; bare != "" && !s.Flag && len(s.Exprs) == 0 {
		form = bare
	}
	return strings.NewReplacer("NAME", wantName(s.Name), "ON", wantName(s.On), "LABELS", listed(s.List, wantLabel), "COLUMNS", listed(s.List, wantName),
		"NUM", strconv.Itoa(s.Num), "TYPE", wantType(s.Type), "PARTS", strings.Join(parts, ", "), "EXPR", wantExpr(s.Exprs)).Replace(form)
}

// stmtMaker makes valid statements of every kind.
type stmtMaker struct {
	*rand.Rand
}

var stmtTypes = validTypes()

func (r stmtMaker) name() string {
	if r.Intn(2) == 0 {
		return string(rune('a' + r.Intn(26)))
	}
	return leafNames[r.Intn(len(leafNames))]
}

func (r stmtMaker) list(n int) []string {
	var out []string
	for range n {
		out = append(out, r.name())
	}
	return out
}

func (r stmtMaker) expr() impl.Expr {
	return anyExpr(r.Rand, []int{1, 1 + r.Intn(6), 1 + r.Intn(6), 1 + r.Intn(40)}[r.Intn(4)])
}

func (r stmtMaker) maybeExpr() []impl.Expr {
	if r.Intn(2) == 0 {
		return nil
	}
	return []impl.Expr{r.expr()}
}

func (r stmtMaker) dataType() impl.Type {
	return []impl.Type{{}, kindOf(impl.TyText), kindOf(impl.TyBool), stmtTypes[r.Intn(len(stmtTypes))]}[r.Intn(4)]
}

func (r stmtMaker) col() impl.Col {
	return impl.Col{Name: r.name(), Type: r.dataType(), NotNull: r.Intn(2) == 0, Default: r.maybeExpr()}
}

func (r stmtMaker) rule() impl.Rule {
	n := 1 + r.Intn(4)
	switch kind := r.Intn(4); kind {
	case impl.RuCheck:
		return condition(r.name(), r.expr())
	case impl.RuRef:
		return reference(r.name(), r.list(n), r.name(), r.list(n)...)
	default:
		return key(kind, r.name(), r.list(n)...)
	}
}

func (r stmtMaker) cols(n int) []impl.Col {
	var out []impl.Col
	for range n {
		out = append(out, r.col())
	}
	return out
}

func (r stmtMaker) rules(n int) []impl.Rule {
	var out []impl.Rule
	for range n {
		out = append(out, r.rule())
	}
	return out
}

func (r stmtMaker) stmt(kind int) impl.Stmt {
	s := impl.Stmt{Kind: kind, Name: r.name()}
	for _, letter := range stmtKinds[kind].uses {
		switch letter {
		case 'o':
			s.On = r.name()
		case 'l':
			s.List = r.list(1 + r.Intn(12))
		case 'n':
			s.Num = []int{0, 1, 999999999, r.Intn(1000000000)}[r.Intn(4)]
		case 'f':
			s.Flag = r.Intn(2) == 0
		case 't':
			s.Type = r.dataType()
		case 'c':
			s.Cols = r.cols(1)
			if kind == impl.StTable {
				s.Cols = r.cols([]int{0, 12, r.Intn(13), r.Intn(3)}[r.Intn(4)])
			}
		case 'r':
			s.Rules = r.rules(1)
			if kind == impl.StTable {
				s.Rules = r.rules([]int{0, 8, r.Intn(9), r.Intn(3)}[r.Intn(4)])
			}
		case 'e':
			s.Exprs = r.maybeExpr()
		}
	}
	return s
}

// stmtBreaker makes one small change anywhere in a statement, in new memory.
type stmtBreaker struct {
	stmtMaker
}

func (r stmtBreaker) name() string {
	return []string{"", letters(41), "a\x00", r.stmtMaker.name()}[r.Intn(4)]
}

func (r stmtBreaker) expr() impl.Expr {
	bad := badNodes()
	return []impl.Expr{bad[r.Intn(len(bad))], r.stmtMaker.expr()}[r.Intn(2)]
}

func (r stmtBreaker) dataType() impl.Type {
	return []impl.Type{{}, {Len: 1}, {Name: "a"}, char(0), char(101), enum(""), kindOf(5), kindOf(-1), char(1 + r.Intn(100)), enum("a")}[r.Intn(10)]
}

// changed takes an element away, puts one more in, or replaces one.
func changed[T any](r stmtBreaker, list []T, one func() T) []T {
	at := r.Intn(len(list) + 1)
	switch n := r.Intn(3); {
	case n == 0 || len(list) == 0:
		return slices.Insert(slices.Clone(list), at, one())
	case at == len(list):
		return slices.Clone(list[:at-1])
	case n == 1:
		return slices.Delete(slices.Clone(list), at, at+1)
	default:
		out := slices.Clone(list)
		out[at] = one()
		return out
	}
}

// onePart changes one element of a list, if there is one, and otherwise puts one in.
func onePart[T any](r stmtBreaker, list []T, one func() T, change func(x *T)) []T {
	if len(list) == 0 {
		return []T{one()}
	}
	out := slices.Clone(list)
	change(&out[r.Intn(len(out))])
	return out
}

func (r stmtBreaker) changeCol(x *impl.Col) {
	switch r.Intn(5) {
	case 0:
		x.Name = r.name()
	case 1:
		x.Type = r.dataType()
	case 2:
		x.NotNull = !x.NotNull
	default:
		x.Default = changed(r, x.Default, r.expr)
	}
}

func (r stmtBreaker) changeRule(x *impl.Rule) {
	switch r.Intn(8) {
	case 0:
		x.Name = r.name()
	case 1:
		x.Kind = r.Intn(6) - 1
	case 2:
		x.Table = r.name()
	case 3:
		x.Expr = changed(r, x.Expr, r.expr)
	case 4, 5:
		x.Cols = changed(r, x.Cols, r.name)
	default:
		x.To = changed(r, x.To, r.name)
	}
}

func (r stmtBreaker) change(s *impl.Stmt) {
	switch r.Intn(13) {
	case 0:
		s.Kind = r.Intn(21) - 2
	case 1:
		s.Name = r.name()
	case 2:
		s.On = r.name()
	case 3:
		s.List = changed(r, s.List, r.name)
	case 4:
		s.Num = []int{-1, 0, 1, 999999999, 1000000000, -1 << 40}[r.Intn(6)]
	case 5:
		s.Flag = !s.Flag
	case 6:
		s.Type = r.dataType()
	case 7:
		s.Cols = changed(r, s.Cols, r.col)
	case 8:
		s.Rules = changed(r, s.Rules, r.rule)
	case 9:
		s.Exprs = changed(r, s.Exprs, r.expr)
	case 10:
		s.Cols = onePart(r, s.Cols, r.col, r.changeCol)
	default:
		s.Rules = onePart(r, s.Rules, r.rule, r.changeRule)
	}
}

func sameCol(a, b impl.Col) bool {
	return a.Name == b.Name && a.Type == b.Type && a.NotNull == b.NotNull && slices.EqualFunc(a.Default, b.Default, sameExpr)
}

func sameRule(a, b impl.Rule) bool {
	return a.Name == b.Name && a.Kind == b.Kind && a.Table == b.Table && slices.Equal(a.Cols, b.Cols) && slices.Equal(a.To, b.To) &&
		slices.EqualFunc(a.Expr, b.Expr, sameExpr)
}

func sameStmt(a, b impl.Stmt) bool {
	return a.Kind == b.Kind && a.Name == b.Name && a.On == b.On && slices.Equal(a.List, b.List) && a.Num == b.Num && a.Flag == b.Flag && a.Type == b.Type &&
		slices.EqualFunc(a.Cols, b.Cols, sameCol) && slices.EqualFunc(a.Rules, b.Rules, sameRule) && slices.EqualFunc(a.Exprs, b.Exprs, sameExpr)
}

// spaced writes tokens as the chapter asks for.
func spaced(list []impl.Token) string {
	text, last := "", ""
	for _, x := range list {
		one := impl.Spell([]impl.Token{x})
		tight := last == "" || last == "(" || one == ")" && x.Kind == impl.TkSign || one == "," || last == "char" && one == "("
		if !tight {
			text += " "
		}
		text, last = text+one, one
	}
	return text
}

// Every valid statement has the text of the chapter; what is spaced in another way would not be it.
func TestRandomStatements(t *testing.T) {
	random := stmtMaker{rand.New(rand.NewSource(80))}
	owner := map[string]impl.Stmt{}
	again := 0
	for i := range 20000 {
		s := random.stmt(i % 17)
		want := wantStmt(s)
		if want == "" {
			t.Fatalf("statement %d breaks %v: %+v", i, stmtFaults(s).words(), s)
		}
		checkStmt(t, s, want, i)
		if other, taken := owner[want]; taken && !sameStmt(s, other) {
			t.Fatalf("%+v and %+v have the text %q", s, other, want)
		} else if taken {
			again++
		}
		owner[want] = s
		if list, at := impl.Lex(want); len(want) <= impl.MaxText && (at != -1 || spaced(list) != want) {
			t.Fatalf("%.2000q is spaced as %.2000q", want, spaced(list))
		}
	}
	if again < 1000 || len(owner) < 10000 {
		t.Error(again, len(owner))
	}
}

// Every condition is met as the only one that a statement breaks, and many statements break none. A change of a valid
// statement into another one changes its text.
func TestRandomChangesOfStatements(t *testing.T) {
	random := stmtBreaker{stmtMaker{rand.New(rand.NewSource(81))}}
	alone := map[string]int{}
	valid := 0
	for i := range 60000 {
		before := random.stmt([]int{i % 17, impl.StTable, impl.StAddCol, impl.StAddRule}[i%4])
		s := before
		for range 1 + i%3/2 {
			random.change(&s)
		}
		found := stmtFaults(s).words()
		want := wantStmt(s)
		checkStmt(t, s, want, i, found)
		if t.Failed() {
			t.FailNow()
		}
		switch len(found) {
		case 0:
			valid++
			if same := sameStmt(before, s); same != (impl.PutStmt(before) == want) {
				t.Fatalf("%+v and %+v have the text %q", before, s, want)
			}
		case 1:
			alone[found[0]]++
		}
	}
	if valid < 5000 {
		t.Error(valid)
	}
	for _, word := range stmtWords {
		if alone[word] < 5 {
			t.Errorf("%s is alone in %d statements", word, alone[word])
		}
		delete(alone, word)
	}
	if len(alone) > 0 {
		t.Error(alone)
	}
}

// creating has a statement for each object of a plan.
func creating(p impl.Plan) []impl.Stmt {
	var out []impl.Stmt
	for _, x := range p.Enums {
		out = append(out, impl.Stmt{Kind: impl.StEnum, Name: x.Name, List: x.List})
	}
	for _, x := range p.Seqs {
		out = append(out, impl.Stmt{Kind: impl.StSeq, Name: x.Name, Num: x.Start})
	}
	for _, x := range p.Tables {
		out = append(out, impl.Stmt{Kind: impl.StTable, Name: x.Name, Cols: x.Cols, Rules: x.Rules})
		for _, c := range x.Cols {
			out = append(out, impl.Stmt{Kind: impl.StAddCol, Name: x.Name, Cols: []impl.Col{c}}, impl.Stmt{Kind: impl.StColType, Name: x.Name, On: c.Name, Type: c.Type},
				impl.Stmt{Kind: impl.StColDefault, Name: x.Name, On: c.Name, Exprs: c.Default}, impl.Stmt{Kind: impl.StColNull, Name: x.Name, On: c.Name, Flag: c.NotNull})
		}
		for _, r := range x.Rules {
			out = append(out, impl.Stmt{Kind: impl.StAddRule, Name: x.Name, Rules: []impl.Rule{r}}, impl.Stmt{Kind: impl.StDropRule, Name: x.Name, On: r.Name})
		}
	}
	for _, x := range p.Indexes {
		out = append(out, impl.Stmt{Kind: impl.StIndex, Name: x.Name, On: x.Table, List: x.Cols, Flag: x.Unique})
	}
	for _, x := range p.Views {
		out = append(out, impl.Stmt{Kind: impl.StView, Name: x.Name, On: x.Table, List: x.Cols, Exprs: x.Where})
	}
	return out
}

// Whatever a valid plan contains, a statement may contain.
func TestStatementsOfPlans(t *testing.T) {
	for _, p := range somePlans(t, 1000) {
		list := creating(p)
		var want strings.Builder
		for _, s := range list {
			text := wantStmt(s)
			if text == "" {
				t.Fatalf("%+v breaks %v", s, stmtFaults(s).words())
			}
			checkStmt(t, s, text)
			want.WriteString(text + ";\n")
		}
		if got := impl.Script(list); got != want.String() {
			t.Fatalf("Script = %q, want %q", got, want.String())
		}
	}
}

// someStmts returns valid and invalid statements.
func someStmts(n int) []impl.Stmt {
	random := stmtBreaker{stmtMaker{rand.New(rand.NewSource(82))}}
	var out []impl.Stmt
	for _, x := range sampleStmts() {
		out = append(out, x.s)
	}
	for i := range n {
		s := random.stmt(i % 17)
		if i%2 == 0 {
			random.change(&s)
		}
		out = append(out, s)
	}
	return out
}

// filledStmt returns the statement with empty lists where it has nil lists, or the other way round.
func filledStmt(s impl.Stmt, empty bool) impl.Stmt {
	s.List, s.Cols, s.Rules, s.Exprs = emptied(s.List, empty), emptied(s.Cols, empty), emptied(s.Rules, empty), emptied(s.Exprs, empty)
	for i, x := range s.Cols {
		s.Cols[i].Default = emptied(x.Default, empty)
	}
	for i, r := range s.Rules {
		r.Cols, r.Expr, r.To = emptied(r.Cols, empty), emptied(r.Expr, empty), emptied(r.To, empty)
		s.Rules[i] = r
	}
	return s
}

func TestNilAndEmptyListsInStatements(t *testing.T) {
	for i, given := range someStmts(3000) {
		want := wantStmt(given)
		for _, empty := range []bool{false, true} {
			s := filledStmt(given, empty)
			checkStmt(t, s, want, i, empty)
			for _, x := range s.Cols {
				if got := impl.PutCol(x); got != wantCol(x) {
					t.Errorf("PutCol = %q, want %q", got, wantCol(x))
				}
			}
			for _, r := range s.Rules {
				if got := impl.PutRule(r); got != wantRule(r) {
					t.Errorf("PutRule = %q, want %q", got, wantRule(r))
				}
			}
		}
	}
}

func roomyCols(list []impl.Col) []impl.Col {
	out := roomyList(list, impl.Col{Name: "spare", NotNull: true})
	for i, x := range out {
		out[i].Default = roomyExprs(x.Default)
	}
	return out
}

func roomyRules(list []impl.Rule) []impl.Rule {
	out := roomyList(list, key(impl.RuPrimary, "spare", "spare"))
	for i, r := range out {
		r.Cols, r.Expr, r.To = roomyList(r.Cols, "spare", "spare"), roomyExprs(r.Expr), roomyList(r.To, "spare")
		out[i] = r
	}
	return out
}

// roomyStmt copies a statement; each of its lists has spare capacity, with what would matter in it.
func roomyStmt(s impl.Stmt) impl.Stmt {
	s.List, s.Cols, s.Rules, s.Exprs = roomyList(s.List, "spare", "room"), roomyCols(s.Cols), roomyRules(s.Rules), roomyExprs(s.Exprs)
	return s
}

func wholeExprs(list []impl.Expr) string {
	text := ""
	for _, e := range list[:cap(list)] {
		text += wholeText(e)
	}
	return text
}

// wholeStmt writes a statement with all the spare capacity of its lists.
func wholeStmt(s impl.Stmt) string {
	var out strings.Builder
	fmt.Fprintf(&out, "%d %q %q %q %d %v %v %s %s\n", s.Kind, s.Name, s.On, s.List[:cap(s.List)], s.Num, s.Flag, s.Type, wholeExprs(s.Exprs), wholeSchema(s.Cols, nil))
	for _, r := range s.Rules[:cap(s.Rules)] {
		fmt.Fprintf(&out, "%q %d %q %s %q %q\n", r.Name, r.Kind, r.Cols[:cap(r.Cols)], wholeExprs(r.Expr), r.Table, r.To[:cap(r.To)])
	}
	return out.String()
}

// The spare capacity of a list is no part of it, and nothing is written there.
func TestStmtArgumentsAreUnchanged(t *testing.T) {
	var list []impl.Stmt
	var want, before strings.Builder
	for i, given := range someStmts(3000) {
		s := roomyStmt(given)
		whole := wholeStmt(s)
		checkStmt(t, s, wantStmt(given), "with spare capacity ", i)
		checkStmt(t, s, wantStmt(given), "a second time ", i)
		for j, x := range s.Cols {
			if got := impl.PutCol(x); got != wantCol(given.Cols[j]) {
				t.Errorf("PutCol = %q, want %q", got, wantCol(given.Cols[j]))
			}
		}
		for j, r := range s.Rules {
			if got := impl.PutRule(r); got != wantRule(given.Rules[j]) {
				t.Errorf("PutRule = %q, want %q", got, wantRule(given.Rules[j]))
			}
		}
		if after := wholeStmt(s); after != whole {
			t.Fatalf("%s became %s", whole, after)
		}
		list = append(list, s)
		want.WriteString(wantStmt(given) + ";\n")
		before.WriteString(whole)
	}
	list = roomyList(list, impl.Stmt{Kind: impl.StDropView, Name: "spare"})
	if got := impl.Script(list); got != want.String() {
		t.Errorf("Script has %d bytes, want %d", len(got), want.Len())
	}
	var after strings.Builder
	for _, s := range list {
		after.WriteString(wholeStmt(s))
	}
	if spare := list[:cap(list)][len(list)]; after.String() != before.String() || !sameStmt(spare, impl.Stmt{Kind: impl.StDropView, Name: "spare"}) {
		t.Error("Script changed its argument")
	}
}

// textsWithin returns all the strings in a statement but those in expressions deeper than the first node.
func textsWithin(s impl.Stmt) []string {
	out := append([]string{s.Name, s.On, s.Type.Name}, s.List...)
	for _, e := range s.Exprs {
		out = append(out, e.Text)
	}
	for _, x := range s.Cols {
		out = append(out, x.Name, x.Type.Name)
		for _, e := range x.Default {
			out = append(out, e.Text)
		}
	}
	for _, r := range s.Rules {
		out = slices.Concat(out, []string{r.Name, r.Table}, r.Cols, r.To)
		for _, e := range r.Expr {
			out = append(out, e.Text)
		}
	}
	return out
}

func TestStmtResultsShareNoMemory(t *testing.T) {
	for _, s := range someStmts(500) {
		results := []string{impl.PutStmt(s), impl.PutStmt(s), impl.Script([]impl.Stmt{s}), impl.Script([]impl.Stmt{s, s})}
		for _, x := range s.Cols {
			results = append(results, impl.PutCol(x), impl.PutCol(x))
		}
		for _, r := range s.Rules {
			results = append(results, impl.PutRule(r), impl.PutRule(r))
		}
		for i, text := range results {
			if slices.ContainsFunc(textsWithin(s), func(x string) bool { return overlaps(text, x) }) {
				t.Errorf("%.200q shares memory with an argument", text)
			}
			if slices.ContainsFunc(results[:i], func(x string) bool { return overlaps(text, x) }) {
				t.Errorf("%.200q shares memory with another result", text)
			}
		}
	}
}

// refused does without the text of what is wrong, which may have no end.
func refused(t *testing.T, s impl.Stmt, what ...any) {
	t.Helper()
	if impl.StmtOk(s) || impl.PutStmt(s) != "" || impl.Script([]impl.Stmt{s}) != ";\n" {
		t.Error("not refused:", fmt.Sprint(what...))
	}
}

func refusedCol(t *testing.T, x impl.Col, what ...any) {
	t.Helper()
	if impl.PutCol(x) != "" {
		t.Error("not refused as a column:", fmt.Sprint(what...))
	}
	for kind := range stmtKinds {
		refused(t, impl.Stmt{Kind: kind, Name: "n", Cols: []impl.Col{x}}, kind, what)
	}
}

func refusedRule(t *testing.T, r impl.Rule, what ...any) {
	t.Helper()
	if impl.PutRule(r) != "" {
		t.Error("not refused as a rule:", fmt.Sprint(what...))
	}
	for kind := range stmtKinds {
		refused(t, impl.Stmt{Kind: kind, Name: "n", Rules: []impl.Rule{r}}, kind, what)
	}
}

// Every call ends, also for expressions that contain themselves, wherever they stand.
func TestEndlessExpressionsInStatements(t *testing.T) {
	wide := op(impl.EpAnd, make([]impl.Expr, 1000000)...)
	for i, e := range append(endlessExprs(), wide) {
		for j, x := range exprPlaces {
			refused(t, x.put(e), "expression ", i, " at place ", j)
			refused(t, x.put(op(impl.EpNot, e)), "expression ", i, " within another at place ", j)
			refused(t, x.put(lit(1), e), "expression ", i, " second at place ", j)
		}
		for _, x := range sampleStmts() {
			x.s.Exprs = []impl.Expr{e}
			refused(t, x.s, "expression ", i, " in Exprs of ", x.s.Kind)
		}
		refusedCol(t, impl.Col{Name: "c", Default: []impl.Expr{e}}, "expression ", i)
		for kind := -1; kind <= 4; kind++ {
			refusedRule(t, impl.Rule{Name: "r", Kind: kind, Expr: []impl.Expr{e}}, "expression ", i)
			refusedRule(t, impl.Rule{Name: "r", Kind: kind, Cols: []string{"a"}, Expr: []impl.Expr{e}, Table: "t", To: []string{"a"}}, "expression ", i)
		}
	}
}

func TestLargeInvalidStatements(t *testing.T) {
	many := numbered(200000)
	huge := strings.Repeat("a", 1<<20)
	for i, change := range []func(s *impl.Stmt){
		func(s *impl.Stmt) { s.Name = huge },
		func(s *impl.Stmt) { s.On = huge },
		func(s *impl.Stmt) { s.Type.Name = huge },
		func(s *impl.Stmt) { s.List = many },
		func(s *impl.Stmt) { s.List = []string{huge} },
		func(s *impl.Stmt) { s.Exprs = make([]impl.Expr, 200000) },
		func(s *impl.Stmt) { s.Cols = make([]impl.Col, 200000) },
		func(s *impl.Stmt) { s.Rules = make([]impl.Rule, 200000) },
	} {
		for _, x := range sampleStmts() {
			change(&x.s)
			refused(t, x.s, x.s.Kind, i)
		}
	}
	for i, x := range []impl.Col{{Name: huge}, column("c", enum(huge)), {Name: "c", Default: make([]impl.Expr, 200000)}, {Name: "c", Default: []impl.Expr{col(huge)}}} {
		refusedCol(t, x, i)
	}
	for i, r := range []impl.Rule{
		key(impl.RuPrimary, huge, "a"), key(impl.RuPrimary, "k", huge), key(impl.RuPrimary, "k", many...), key(impl.RuUnique, "k", many...),
		reference("r", many, "t", many...), reference("r", []string{"a"}, "t", many...), reference("r", many, "t", "a"), reference("r", []string{"a"}, huge, "a"),
		condition("c", make([]impl.Expr, 200000)...), condition("c", quoted(huge)), {Name: "c", Kind: impl.RuCheck, Cols: many, Expr: []impl.Expr{lit(1)}},
	} {
		refusedRule(t, r, i)
	}
}

// The greatest table has a text, however long it is.
func TestLongTexts(t *testing.T) {
	deep := leftComb(impl.EpNe, 0)
	for range 12 {
		deep = op(impl.EpAdd, deep, quoted(strings.Repeat("'", 100)))
	}
	s := impl.Stmt{Kind: impl.StTable, Name: letters(40)}
	for range 12 {
		s.Cols = append(s.Cols, impl.Col{Name: strings.Repeat("\"", 40), Type: enum(strings.Repeat("\"", 40)), NotNull: true, Default: []impl.Expr{deep}})
	}
	for range 8 {
		s.Rules = append(s.Rules, condition(strings.Repeat("A", 40), deep))
	}
	want := wantStmt(s)
	if len(want) <= 2*impl.MaxText {
		t.Fatal(len(want))
	}
	checkStmt(t, s, want)
}
