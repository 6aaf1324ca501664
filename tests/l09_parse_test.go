package tests

import (
	"fmt"
	"math"
	"math/rand"
	"slices"
	"strconv"
	"strings"
	"testing"

	"loop.example/g00751/impl"
)

// checkRead holds what ParseStmt answers against what is wanted; next is -1 for none.
func checkRead(t *testing.T, list []impl.Token, at int, want impl.Stmt, next int, what ...any) {
	t.Helper()
	if got, end := impl.ParseStmt(list, at); end != next || !sameStmt(got, want) {
		t.Errorf("ParseStmt(%s, %d) = %.600s, %d, want %.600s, %d: %.300s", shown(list), at, fmt.Sprintf("%+v", got), end, fmt.Sprintf("%+v", want), next, fmt.Sprint(what...))
	}
}

func checkNoStmt(t *testing.T, list []impl.Token, at int, what ...any) {
	t.Helper()
	checkRead(t, list, at, impl.Stmt{}, -1, what...)
}

func checkReadType(t *testing.T, list []impl.Token, at int, want impl.Type, next int, what ...any) {
	t.Helper()
	if got, end := impl.ParseType(list, at); end != next || got != want {
		t.Errorf("ParseType(%s, %d) = %+v, %d, want %+v, %d: %.300s", shown(list), at, got, end, want, next, fmt.Sprint(what...))
	}
}

func checkReadCol(t *testing.T, list []impl.Token, at int, want impl.Col, next int, what ...any) {
	t.Helper()
	if got, end := impl.ParseCol(list, at); end != next || !sameCol(got, want) {
		t.Errorf("ParseCol(%s, %d) = %.600s, %d, want %.600s, %d: %.300s", shown(list), at, fmt.Sprintf("%+v", got), end, fmt.Sprintf("%+v", want), next, fmt.Sprint(what...))
	}
}

func checkReadRule(t *testing.T, list []impl.Token, at int, want impl.Rule, next int, what ...any) {
	t.Helper()
	if got, end := impl.ParseRule(list, at); end != next || !sameRule(got, want) {
		t.Errorf("ParseRule(%s, %d) = %.600s, %d, want %.600s, %d: %.300s", shown(list), at, fmt.Sprintf("%+v", got), end, fmt.Sprintf("%+v", want), next, fmt.Sprint(what...))
	}
}

// checkScript takes -1 for a script that is wanted to be read.
func checkScript(t *testing.T, s string, want []impl.Stmt, bad int) {
	t.Helper()
	if got, at := impl.ParseScript(s); at != bad || !slices.EqualFunc(got, want, sameStmt) {
		t.Errorf("ParseScript(%.300q) = %.600s, %d, want %.600s, %d", s, fmt.Sprintf("%+v", got), at, fmt.Sprintf("%+v", want), bad)
	}
}

// neighbours cannot be a part of the statement that stands ahead of them, nor of the one behind them.
func neighbours() [][]impl.Token {
	return [][]impl.Token{
		nil, {sign(";", 0)}, {sign(")", 0)}, {sign(",", 0), str("a", 0)}, {word("create", 0)}, {str("x", 0)}, {num("9", 0)}, {name("n", 0)}, {word("n", 0)},
		{{Kind: 9, Text: "where"}}, {word("drop", 0), word("table", 0), word("t", 0)}, {sign("(", 0), word("constraint", 0)}, {name("where", 0)}, {name("default", 0), num("1", 0)},
	}
}

// checkAmong asks for a statement by itself, and where something stands ahead of it and behind it.
func checkAmong(t *testing.T, s impl.Stmt, list []impl.Token) {
	t.Helper()
	for _, before := range neighbours() {
		for _, behind := range neighbours() {
			whole := slices.Concat(before, list, behind)
			checkRead(t, whole, len(before), s, len(before)+len(list))
		}
	}
	checkScript(t, impl.Spell(list), []impl.Stmt{s}, -1)
}

func TestEveryKindIsReadBack(t *testing.T) {
	met := map[int]int{}
	for _, x := range sampleStmts() {
		checkAmong(t, x.s, tokensOf(t, x.want))
		met[x.s.Kind]++
	}
	if len(met) != 17 {
		t.Error(met)
	}
}

func TestEveryColumnAndRuleIsReadBack(t *testing.T) {
	cols, rules := 0, 0
	for _, x := range sampleStmts() {
		for _, before := range neighbours() {
			for _, behind := range neighbours() {
				for _, c := range x.s.Cols {
					list := tokensOf(t, wantCol(c))
					checkReadCol(t, slices.Concat(before, list, behind), len(before), c, len(before)+len(list))
					cols++
				}
				for _, r := range x.s.Rules {
					list := tokensOf(t, wantRule(r))
					checkReadRule(t, slices.Concat(before, list, behind), len(before), r, len(before)+len(list))
					rules++
				}
			}
		}
	}
	if cols == 0 || rules == 0 {
		t.Error(cols, rules)
	}
}

func TestEveryTypeIsReadBack(t *testing.T) {
	behinds := append(neighbours(), []impl.Token{sign("(", 0), num("5", 0), sign(")", 0)}, tokensOf(t, "not null default 1"))
	for _, x := range validTypes() {
		list := tokensOf(t, wantType(x))
		for _, before := range neighbours() {
			for _, behind := range behinds {
				checkReadType(t, slices.Concat(before, list, behind), len(before), x, len(before)+len(list))
			}
		}
	}
}

// textReader follows the texts that the tables of chapter 8 state through a list of tokens.
type textReader struct {
	list []impl.Token
}

func (g textReader) is(at int, kind int, text string) bool {
	return at >= 0 && at < len(g.list) && g.list[at].Kind == kind && g.list[at].Text == text
}

func (g textReader) step(at int, kind int, text string) int {
	if g.is(at, kind, text) {
		return at + 1
	}
	return -1
}

var itemsByText = map[string][]string{}

func itemsOf(text string) []string {
	if itemsByText[text] == nil {
		itemsByText[text] = strings.Fields(strings.NewReplacer("(", " ( ", ")", " ) ").Replace(text))
	}
	return itemsByText[text]
}

// follow calls put for what is written in great letters; put returns the index behind it, or -1.
func (g textReader) follow(text string, at int, put func(slot string, at int) int) int {
	for _, item := range itemsOf(text) {
		switch {
		case item == "(" || item == ")":
			at = g.step(at, impl.TkSign, item)
		case item == strings.ToUpper(item):
			at = put(item, at)
		default:
			at = g.step(at, impl.TkWord, item)
		}
		if at < 0 {
			return -1
		}
	}
	return at
}

func (g textReader) value(at int, kinds ...int) (string, int) {
	if at < 0 || at >= len(g.list) || !slices.Contains(kinds, g.list[at].Kind) {
		return "", -1
	}
	return g.list[at].Text, at + 1
}

func (g textReader) name(at int) (string, int) {
	s, next := g.value(at, impl.TkWord, impl.TkName)
	if next > 0 && g.list[at].Kind == impl.TkWord && slices.Contains(reservedWords, s) {
		return "", -1
	}
	return s, next
}

func (g textReader) label(at int) (string, int) {
	return g.value(at, impl.TkText)
}

func (g textReader) num(at int) (int, int) {
	s, next := g.value(at, impl.TkNum)
	n, err := strconv.Atoi(s)
	if next < 0 || err != nil || strconv.Itoa(n) != s || n < 0 || n > 999999999 {
		return 0, -1
	}
	return n, next
}

func (g textReader) several(at int, one func(at int) (string, int)) (out []string, next int) {
	for {
		s, next := one(at)
		if next < 0 {
			return nil, -1
		}
		out = append(out, s)
		if !g.is(next, impl.TkSign, ",") {
			return out, next
		}
		at = next + 1
	}
}

func (g textReader) expr(at int) ([]impl.Expr, int) {
	e, next := impl.ParseExpr(g.list, at)
	return []impl.Expr{e}, next
}

// typeTexts has a row for each kind of a type.
var typeTexts = []string{"int", "text", "bool", "char (NUM)", "enum NAME"}

func (g textReader) typeAt(at int) (impl.Type, int) {
	for kind, text := range typeTexts {
		x := impl.Type{Kind: kind}
		next := g.follow(text, at, func(slot string, at int) (next int) {
			if slot == "NUM" {
				x.Len, next = g.num(at)
			} else {
				x.Name, next = g.name(at)
			}
			return next
		})
		if next >= 0 && wantType(x) != "" {
			return x, next
		}
	}
	return impl.Type{}, -1
}

var colTexts = []string{"NAME TYPE", "NAME TYPE not null", "NAME TYPE default EXPR", "NAME TYPE not null default EXPR"}

// colAt takes the longest of the texts that fits, but for a default without its expression.
func (g textReader) colAt(at int) (impl.Col, int) {
	best, end := impl.Col{}, -1
	for _, text := range colTexts {
		x := impl.Col{NotNull: strings.Contains(text, "null")}
		next := g.follow(text, at, func(slot string, at int) (next int) {
			switch slot {
			case "NAME":
				x.Name, next = g.name(at)
			case "TYPE":
				x.Type, next = g.typeAt(at)
			default:
				x.Default, next = g.expr(at)
			}
			return next
		})
		if next > end {
			best, end = x, next
		}
	}
	if wantCol(best) == "" || len(best.Default) == 0 && g.is(end, impl.TkWord, "default") {
		return impl.Col{}, -1
	}
	return best, end
}

func (g textReader) ruleAt(at int) (impl.Rule, int) {
	for kind, text := range ruleTexts {
		r := impl.Rule{Kind: kind}
		next := g.follow(text, at, func(slot string, at int) (next int) {
			switch slot {
			case "NAME":
				r.Name, next = g.name(at)
			case "TABLE":
				r.Table, next = g.name(at)
			case "COLUMNS":
				r.Cols, next = g.several(at, g.name)
			case "TO":
				r.To, next = g.several(at, g.name)
			default:
				r.Expr, next = g.expr(at)
			}
			return next
		})
		if next >= 0 && wantRule(r) != "" {
			return r, next
		}
	}
	return impl.Rule{}, -1
}

// parts reads the columns and rules of a statement; where it finds none, only a table goes on.
func (g textReader) parts(s *impl.Stmt, at int) int {
	if s.Kind == impl.StTable && g.is(at, impl.TkSign, ")") {
		return at
	}
	for {
		r, next := g.ruleAt(at)
		if next >= 0 {
			s.Rules = append(s.Rules, r)
		} else if c, end := g.colAt(at); end >= 0 && len(s.Rules) == 0 {
			s.Cols, next = append(s.Cols, c), end
		}
		if next < 0 || s.Kind != impl.StTable || !g.is(next, impl.TkSign, ",") {
			return next
		}
		at = next + 1
	}
}

func (g textReader) slot(s *impl.Stmt, slot string, at int) (next int) {
	switch slot {
	case "NAME":
		s.Name, next = g.name(at)
	case "ON":
		s.On, next = g.name(at)
	case "LABELS":
		s.List, next = g.several(at, g.label)
	case "COLUMNS":
		s.List, next = g.several(at, g.name)
	case "NUM":
		s.Num, next = g.num(at)
	case "TYPE":
		s.Type, next = g.typeAt(at)
	case "EXPR":
		s.Exprs, next = g.expr(at)
	default:
		next = g.parts(s, at)
	}
	return next
}

// stmtAt takes the longest of the texts that fits, but for a where without its expression.
func (g textReader) stmtAt(at int) (impl.Stmt, int) {
	best, end := impl.Stmt{}, -1
	for kind, form := range stmtKinds {
		for i, text := range []string{form.text, form.bare} {
			if text == "" {
				continue
			}
			s := impl.Stmt{Kind: kind, Flag: i == 0 && strings.Contains(form.uses, "f")}
			next := g.follow(text, at, func(slot string, at int) int { return g.slot(&s, slot, at) })
			open := kind == impl.StView && i == 1 && g.is(next, impl.TkWord, "where")
			if next > end && !open && len(stmtFaults(s)) == 0 {
				best, end = s, next
			}
		}
	}
	return best, end
}

// checkAgainstTexts asks for everything that can be read at an index, and tells whether there is a statement.
func checkAgainstTexts(t *testing.T, list []impl.Token, at int) bool {
	t.Helper()
	g := textReader{list}
	s, next := g.stmtAt(at)
	checkRead(t, list, at, s, next)
	x, end := g.typeAt(at)
	checkReadType(t, list, at, x, end)
	c, end := g.colAt(at)
	checkReadCol(t, list, at, c, end)
	r, end := g.ruleAt(at)
	checkReadRule(t, list, at, r, end)
	return next >= 0
}

// oddTokens holds all words and signs that matter, and tokens that stand for nothing.
func oddTokens() []impl.Token {
	var out []impl.Token
	for _, w := range reservedWords {
		out = append(out, word(w, 0))
	}
	for _, s := range []string{"table", "constraint", "not", "a", "B", "", "a\x00", letters(40), letters(41)} {
		out = append(out, name(s, 0), word(s, 0), str(s, 0))
	}
	for _, s := range []string{"(", ")", ",", ";", "=", "<=", "-", "*", ".", "((", "constraint", "a"} {
		out = append(out, sign(s, 0))
	}
	for _, s := range []string{"0", "1", "5", "100", "101", "999999999", "1000000000", "007", "", "-1", "x", "(", "int"} {
		out = append(out, num(s, 0))
	}
	out = append(out, word("TABLE", 0), word("Not", 0), word("(", 0), name("(", 0), str(",", 0), str(letters(101), 0))
	for _, kind := range []int{math.MinInt, -1, 5, 256, 260} {
		out = append(out, impl.Token{Kind: kind, Text: "table"}, impl.Token{Kind: kind, Text: "("}, impl.Token{Kind: kind, Text: "a"})
	}
	return out
}

// Each statement is cut behind each of its tokens, loses one or several, has one twice, and has one replaced by another.
func TestStatementsWithOneTokenChanged(t *testing.T) {
	odd := oddTokens()
	for _, x := range sampleStmts() {
		list := tokensOf(t, x.want)
		for i := range list {
			cut, left, twice := slices.Clone(list[:i]), slices.Delete(slices.Clone(list), i, i+1), slices.Insert(slices.Clone(list), i, list[i])
			for _, changed := range [][]impl.Token{cut, left, twice} {
				checkAgainstTexts(t, changed, 0)
			}
			for j := i + 2; j <= len(list); j++ {
				checkAgainstTexts(t, slices.Delete(slices.Clone(list), i, j), 0)
			}
			for _, other := range odd {
				changed := slices.Clone(list)
				changed[i] = other
				checkAgainstTexts(t, changed, 0)
				checkAgainstTexts(t, slices.Insert(slices.Clone(list), i, other), 0)
			}
			for kind := -1; kind <= 5; kind++ {
				changed := slices.Clone(list)
				changed[i].Kind = kind
				checkAgainstTexts(t, changed, 0)
			}
		}
		for _, other := range odd {
			checkAgainstTexts(t, append(slices.Clone(list), other), 0)
			checkAgainstTexts(t, append(slices.Clone(list), other, num("1", 0)), 0)
		}
	}
}

// A word is no word as a token of another kind, and a sign is no sign; a text that is not exactly the same is none.
func TestWordsAndSignsOfOtherKinds(t *testing.T) {
	changes := 0
	for _, x := range sampleStmts() {
		list := tokensOf(t, x.want)
		for i, token := range list[:len(list)-mayBeLeftOut(x.s)] {
			if !(token.Kind == impl.TkSign && strings.Contains("(),", token.Text) || token.Kind == impl.TkWord && slices.Contains(reservedWords, token.Text)) {
				continue
			}
			for kind := -1; kind <= 6; kind++ {
				changed := slices.Clone(list)
				if changed[i].Kind = kind; kind != token.Kind {
					checkNoStmt(t, changed, 0, i, kind)
				}
			}
			texts := []string{"", token.Text + " ", " " + token.Text, token.Text + token.Text, "x" + token.Text, token.Text + "\x00"}
			if token.Kind == impl.TkWord {
				texts = append(texts, strings.ToUpper(token.Text), strings.ToUpper(token.Text[:1])+token.Text[1:])
			}
			for _, text := range texts {
				changed := slices.Clone(list)
				changed[i].Text = text
				checkNoStmt(t, changed, 0, i, text)
				changes++
			}
		}
	}
	if changes < 1000 {
		t.Error(changes)
	}
}

// mayBeLeftOut counts the tokens at the end of a statement without which it is another one, and those of its expression.
func mayBeLeftOut(s impl.Stmt) int {
	n := 0
	for _, e := range s.Exprs {
		list, _ := impl.Lex(impl.PutExpr(e))
		n += len(list)
	}
	switch {
	case s.Kind == impl.StView && n > 0:
		n++
	case s.Kind == impl.StAddCol && s.Cols[0].NotNull:
		n = 4
	}
	return n
}

// Ahead of the bar stands all that is read, as PutStmt writes it.
var readUpToBar = []string{
	"drop type e |", "drop type e | ;", "drop type e | f", "drop type e | , f", "drop type e | type", "drop table t | drop table u", "drop index i | on t (a)", "drop view v | where a", "drop sequence s | start 1",
	"create sequence s start 1 |", "create sequence s start 1 | 2", "create sequence s start 1 | start 2", "create sequence s start 0 | . 5", "create sequence s start 1 | + 1",
	"create type e as enum ('a') | )", "create type e as enum ('a') | , 'b'", "create type e as enum ('a') | ('b')",
	"create table t () | ()", "create table t () | )", "create table t (a int) | , b int", "create table t (a int) | , constraint c unique (a)", "create table t (constraint c unique (a)) | not null",
	"alter table t add column a int | ,", "alter table t add column a int | , b int", "alter table t add column a int | constraint c unique (a)", "alter table t add column a int | int", "alter table t add column a int | (5)",
	"alter table t add column a int | null", "alter table t add column a int | not", "alter table t add column a int | not a", "alter table t add column a int | not default 1", "alter table t add column a int | not not null",
	"alter table t add column a int | null not", "alter table t add column a int not null | not null", "alter table t add column a int not null | null", "alter table t add column a int not null | not",
	"alter table t add column a int default 1 | not null", "alter table t add column a int default 1 | not", "alter table t add column a int default 1 | null", "alter table t add column a int default 1 | default 2",
	"alter table t add column a int default 1 | default", "alter table t add column a int default 1 | 2", "alter table t add column a int default 1 | is", "alter table t add column a int default 1 | is not null",
	"alter table t add column a int default 1 | and", "alter table t add column a int default 1 | + )", "alter table t add column a int default 1 = 2 | = 3", "alter table t add column a int default 1 | (2)",
	"alter table t add column a int not null default 1 | not null", "alter table t add column a int not null default 1 | default 2", "alter table t add column a int not null default not null | not null",
	"alter table t add column a int default not null |", "alter table t add column a int default not null | not null", "alter table t add column a int default 1 is null | not null", "alter table t add column a int default b | c",
	"alter table t add column a char(5) | (5)", "alter table t add column a enum e | (5)", "alter table t add column a text | (5)", "alter table t add column a bool default true | , b bool",
	"alter table t drop column a | b", "alter table t drop column a | , b", "alter table t drop column a | not null", "alter table t drop constraint c | unique (a)", "alter table t drop constraint c | , d",
	"alter table t alter column a type char(5) | (5)", "alter table t alter column a type int | not null", "alter table t alter column a type int | default 1", "alter table t alter column a type text | (5)", "alter table t alter column a type enum e | f",
	"alter table t alter column a set not null | default 1", "alter table t alter column a set not null | null", "alter table t alter column a drop not null | drop default", "alter table t alter column a drop default | 1", "alter table t alter column a drop default | default 1",
	"alter table t alter column a set default 1 | not null", "alter table t alter column a set default 1 | , 2", "alter table t alter column a set default 1 + 2 | set default 3", "alter table t alter column a set default 1 | default 2", "alter table t alter column a set default not null |",
	"alter table t add constraint c check (a) | = b", "alter table t add constraint c check (a) | (b)", "alter table t add constraint c check (a) | and b", "alter table t add constraint c check (a) | , constraint d unique (a)",
	"alter table t add constraint c unique (a) | (b)", "alter table t add constraint c primary key (a) | key", "alter table t add constraint c foreign key (a) references u (b) | (c)", "alter table t add constraint c unique (a) | references u (b)",
	"create index i on t (a) | where a", "create index i on t (a) | (b)", "create unique index i on t (a) | unique",
	"create view v as select a from t |", "create view v as select a from t | , u", "create view v as select a from t | u", "create view v as select a from t | (where a)", "create view v as select a from t | ; where a",
	"create view v as select a from t where a | where b", "create view v as select a from t where a | , b", "create view v as select a from t where a = 1 | = 2", "create view v as select a from t where a | b", "create view v as select a from t where not a | not null",
	"create view v as select a from t | \"where\" a", "alter table t add column a int | \"default\" 1", "alter table t add column a int | not \"null\"",
}

func TestStatementsWithSomethingBehindThem(t *testing.T) {
	for _, x := range readUpToBar {
		part, rest, _ := strings.Cut(x, " |")
		list := tokensOf(t, part+" "+rest)
		next := len(tokensOf(t, part))
		s, end := impl.ParseStmt(list, 0)
		if end != next || impl.PutStmt(s) != part {
			t.Errorf("%q is read as %q up to %d, want %d", x, impl.PutStmt(s), end, next)
		}
		checkAgainstTexts(t, list, 0)
		if isPart := strings.TrimLeft(rest, " ;") == "" || rest[1] == ';'; isPart {
			continue
		}
		checkScript(t, part+" "+rest, nil, 0)
		checkScript(t, "drop view w; "+part+" "+rest+";", nil, 13)
	}
}

var noStatements = []string{
	"", ";", "create", "drop", "alter", "create table", "drop table", "alter table", "a", "1", "'a'", "\"drop\" table t", "drop \"table\" t", "table t", "t", "select a from t", "insert", "create t", "drop t", "drop column a", "drop constraint c",
	"drop unique index i", "drop type", "drop enum e", "drop table (t)", "drop table 't'", "drop table 1", "drop table table", "drop drop table t", "create drop table t", "drop table .t", "drop key k", "alter type e", "alter view v", "alter column a type int",
	"alter t drop column a", "create all t", "create unique table t ()", "create unique view v as select a from t", "create unique i on t (a)", "create index unique i on t (a)", "create unique unique index i on t (a)",
	"create type e", "create type e as", "create type e as enum", "create type e as enum (", "create type e as enum ()", "create type e as enum ('a'", "create type e as enum ('a',", "create type e as enum ('a',)", "create type e as enum (,'a')",
	"create type e as enum (,)", "create type e as enum ('a',,'b')", "create type e as enum ('a' 'b')", "create type e as enum 'a'", "create type e as enum (a)", "create type e as enum (\"a\")", "create type e as enum (1)", "create type e as enum ('')",
	"create type e as enum ('a', '')", "create type e as enum (('a'))", "create type e enum ('a')", "create type e ('a')", "create type e as ('a')", "create type as enum ('a')", "create enum e as enum ('a')", "create type e as text ('a')", "create type e as enum ('a', b)", "create type 'e' as enum ('a')",
	"create sequence s", "create sequence s start", "create sequence s 1", "create sequence start 1", "create sequence s start a", "create sequence s start '1'", "create sequence s start -1", "create sequence s start (1)", "create sequence s start \"1\"", "create sequence s begin 1", "create sequence s start + 1",
	"create table", "create table t", "create table t (", "create table t a int", "create table ()", "create table t (,)", "create table t (a)", "create table t (a int", "create table t (a int,", "create table t (a int,)", "create table t (, a int)", "create table t (a int,, b int)", "create table t (a int b int)",
	"create table t (a int; b int)", "create table t (a int, b)", "create table t ((a int))", "create table t (a int not)", "create table t (a int not, b int)", "create table t (a int null)", "create table t (a int not null null)", "create table t (a int not null not null)", "create table t (a int not not null)",
	"create table t (a int not null default)", "create table t (a int default)", "create table t (a int default, b int)", "create table t (a int default 1 default 2)", "create table t (a int default 1 not null)", "create table t (a int default 1 not)", "create table t (a int default 1 2)", "create table t (a int not default 1)",
	"create table t (a int default not)", "create table t (a int default (1)", "create table t (int a)", "create table t (a float)", "create table t (a 'int')", "create table t (a \"int\")", "create table t (1 int)", "create table t ('a' int)", "create table t (a int default where)",
	"create table t (constraint c unique (a),)", "create table t (, constraint c unique (a))", "create table t (constraint c unique (a),, constraint d unique (a))", "create table t (constraint c unique (a) constraint d unique (a))", "create table t (constraint c unique (a)", "create table t (a int constraint c unique (a))",
	"create table t (constraint c unique (a), a int)", "create table t (a int, constraint c unique (a), b int)", "create table t (constraint c unique (a), a int, constraint d unique (a))", "create table t (constraint c unique (a), constraint d check (a), a int not null)", "create table t (constraint int)",
	"create table t (constraint c)", "create table t (unique (a))", "create table t (check (a))", "create table t (primary key (a))", "create table t (a int primary key)", "create table t (\"constraint\" c unique (a))", "create table t (constraint constraint unique (a))",
	"alter table t", "alter table t add", "alter table t add column", "alter table t add column a", "alter table t add a int", "alter table t add column int", "alter table t add column a int default", "alter table t add column a not null", "alter table t add column a default 1 int", "alter table t add column a int not null default",
	"alter table t add column (a int)", "alter table t add column constraint c unique (a)", "alter table t add constraint", "alter table t add constraint c", "alter table t add unique (a)", "alter table t add constraint unique (a)", "alter table t add constraint c unique", "alter table t add constraint c unique a",
	"alter table t add constraint c unique ()", "alter table t add constraint c unique (a", "alter table t add constraint c unique (a,)", "alter table t add constraint c unique (,a)", "alter table t add constraint c unique (a,,b)", "alter table t add constraint c unique (a b)", "alter table t add constraint c unique key (a)",
	"alter table t add constraint c unique ((a))", "alter table t add constraint c unique ('a')", "alter table t add constraint c unique (1)", "alter table t add constraint c unique (table)", "alter table t add constraint c primary (a)", "alter table t add constraint c key (a)", "alter table t add constraint c primary key",
	"alter table t add constraint c primary key ()", "alter table t add constraint c primary key a", "alter table t add constraint c primary key (a, b, c, d, e)", "alter table t add constraint c unique (a, b, c, d, e)", "alter table t add constraint c check", "alter table t add constraint c check a", "alter table t add constraint c check ()",
	"alter table t add constraint c check (a", "alter table t add constraint c check a)", "alter table t add constraint c check (a, b)", "alter table t add constraint c check (a b)", "alter table t add constraint c check ((a)", "alter table t add constraint c check (not)",
	"alter table t add constraint c foreign (a) references u (b)", "alter table t add constraint c foreign key references u (b)", "alter table t add constraint c foreign key (a) u (b)", "alter table t add constraint c foreign key (a) references (b)", "alter table t add constraint c foreign key (a) references u",
	"alter table t add constraint c foreign key (a) references u ()", "alter table t add constraint c foreign key () references u ()", "alter table t add constraint c foreign key () references u (b)", "alter table t add constraint c foreign key (a) references u (b", "alter table t add constraint c foreign key (a) references u b",
	"alter table t add constraint c foreign key (a) references u (b, c)", "alter table t add constraint c foreign key (a, b) references u (c)", "alter table t add constraint c foreign key (a, b, c, d) references u (a, b, c)", "alter table t add constraint c foreign key (a, b, c) references u (a, b, c, d)",
	"alter table t add constraint c foreign key (a, b, c, d, e) references u (a, b, c, d, e)", "alter table t add constraint c foreign key (a, b, c, d) references u (a, b, c, d, e)", "alter table t add constraint c foreign key (a) references 'u' (b)", "alter table t add constraint c foreign key a references u (b)",
	"alter table t drop", "alter table t drop column", "alter table t drop constraint", "alter table t drop a", "alter table t drop column column", "alter table t drop column (a)", "alter table t drop column 'a'", "alter table t drop not null", "alter table t drop default", "alter table t drop table a", "alter table drop column a",
	"alter table t alter", "alter table t alter column", "alter table t alter column a", "alter table t alter a type int", "alter table t alter column type int", "alter table t alter column a type", "alter table t alter column a type a", "alter table t alter column a int", "alter table t alter column a set", "alter table t alter column a drop",
	"alter table t alter column a set not", "alter table t alter column a set null", "alter table t alter column a set not default 1", "alter table t alter column a drop not", "alter table t alter column a drop null", "alter table t alter column a not null", "alter table t alter column a set default", "alter table t alter column a default 1",
	"alter table t alter column a set default )", "alter table t alter column a set default not", "alter table t alter column a set default (1", "alter table t alter column a set 1", "alter table t alter column a set type int", "alter table t alter column a drop type", "alter table t alter column a set default default 1", "alter table t set not null",
	"create index", "create index i", "create index i on", "create index i on t", "create index i on t a", "create index i on t ()", "create index i on t (a", "create index i on t (a,)", "create index i on t (,a)", "create index i on t (a,,b)", "create index i on t (a b)", "create index i (a)", "create index on t (a)", "create index i t (a)",
	"create index i on (a)", "create index i on t ((a))", "create index i on t ('a')", "create index i on t (a + b)", "create unique index", "create unique index i", "create unique index i on t ()", "create index i on table (a)", "create unique", "create index i on t (a, 1)",
	"create view", "create view v", "create view v as", "create view v as select", "create view v as select from t", "create view v as select a", "create view v as select a t", "create view v as select a from", "create view v as select a, from t", "create view v as select , a from t", "create view v as select a,, b from t", "create view v as select a b from t",
	"create view v as select (a) from t", "create view v as select * from t", "create view v as select 'a' from t", "create view v as select 1 from t", "create view v as a from t", "create view v select a from t", "create view as select a from t", "create view v as select a from table", "create view v as select a from (t)",
	"create view v as select a from t where", "create view v as select a from t where )", "create view v as select a from t where where", "create view v as select a from t where not", "create view v as select a from t where (a", "create view v as select a from t where select", "create view v as select a from t where ; a", "create view v as select a where b", "create view v as select a from where b",
}

func TestNoStatements(t *testing.T) {
	for _, s := range noStatements {
		list := tokensOf(t, s)
		checkNoStmt(t, list, 0, s)
		checkNoStmt(t, slices.Concat(tokensOf(t, "drop table t ;"), list), 4, s)
		checkNoStmt(t, slices.Concat(list, tokensOf(t, "; drop table t")), 0, s)
		checkAgainstTexts(t, list, 0)
	}
}

func TestTablesOfEveryForm(t *testing.T) {
	for _, x := range []struct {
		s    string
		want string
	}{
		{"()", "()"}, {"(a int)", "(a int)"}, {"(\"constraint\" int)", "(\"constraint\" int)"}, {"(a int, \"constraint\" int)", "(a int, \"constraint\" int)"},
		{"(a int, b int)", "(a int, b int)"}, {"(b int, a int, b int)", "(b int, a int, b int)"}, {"(constraint c unique (a))", "(constraint c unique (a))"},
		{"(constraint c unique (a), constraint c unique (b), constraint d check (a))", "(constraint c unique (a), constraint c unique (b), constraint d check (a))"},
		{"(a int, constraint c unique (a))", "(a int, constraint c unique (a))"}, {"(a int, b int, constraint c unique (a), constraint d unique (b))", "(a int, b int, constraint c unique (a), constraint d unique (b))"},
		{"(constraint c unique (a), b int)", ""}, {"(a int, constraint c unique (a), b int)", ""}, {"(constraint c unique (a), \"constraint\" int)", ""}, {"(constraint c unique (a), constraint d unique (a), b int, constraint e unique (a))", ""},
		{"(,)", ""}, {"(, a int)", ""}, {"(a int,)", ""}, {"(a int,, b int)", ""}, {"(, constraint c unique (a))", ""}, {"(constraint c unique (a),)", ""}, {"(constraint c unique (a),, constraint d unique (a))", ""}, {"(a int,, constraint c unique (a))", ""},
		{"(,,)", ""}, {"(a int, constraint c unique (a),)", ""}, {"(a int constraint c unique (a))", ""}, {"((a int))", ""}, {"(a int, ())", ""}, {"(a int", ""}, {"a int)", ""}, {"", ""}, {"(", ""}, {")", ""},
		{"(a int not null, b int default 1, c int not null default 2)", "(a int not null, b int default 1, c int not null default 2)"}, {"(a int default (1), b int)", "(a int default 1, b int)"}, {"(a int default 1, 2)", ""},
		{"(constraint c check ((a)))", "(constraint c check (a))"}, {"(constraint c check (((a) = (b))), constraint d check (not (a)))", "(constraint c check (a = b), constraint d check (not a))"},
	} {
		list := tokensOf(t, "create table t "+x.s)
		s, next := impl.ParseStmt(list, 0)
		if x.want == "" {
			checkNoStmt(t, list, 0, x.s)
		} else if next != len(list) || impl.PutStmt(s) != "create table t "+x.want {
			t.Errorf("%q is read as %q up to %d", x.s, impl.PutStmt(s), next)
		}
		checkAgainstTexts(t, list, 0)
	}
}

func TestNumbersOfColumnsAndRulesRead(t *testing.T) {
	for cols := range 16 {
		for rules := range 12 {
			s, parts := numberedTable(cols, rules)
			list := tokensOf(t, "create table t ("+strings.Join(parts, ", ")+")")
			if cols <= 12 && rules <= 8 {
				checkRead(t, list, 0, s, len(list), cols, rules)
			} else {
				checkNoStmt(t, list, 0, cols, rules)
			}
		}
	}
}

func TestLengthsOfListsRead(t *testing.T) {
	for n := range 20 {
		names := numbered(n)
		plain, labelled := strings.Join(names, ", "), ""
		if n > 0 {
			labelled = "'" + strings.Join(names, "', '") + "'"
		}
		for _, x := range []struct {
			s    impl.Stmt
			text string
		}{
			{impl.Stmt{Name: "e"}, "create type e as enum (" + labelled + ")"},
			{impl.Stmt{Kind: impl.StIndex, Name: "i", On: "t"}, "create index i on t (" + plain + ")"},
			{impl.Stmt{Kind: impl.StIndex, Name: "i", On: "t", Flag: true}, "create unique index i on t (" + plain + ")"},
			{impl.Stmt{Kind: impl.StView, Name: "v", On: "t"}, "create view v as select " + plain + " from t"},
			{impl.Stmt{Kind: impl.StView, Name: "v", On: "t", Exprs: []impl.Expr{col("a")}}, "create view v as select " + plain + " from t where a"},
		} {
			list := tokensOf(t, x.text)
			if x.s.List = names; n >= 1 && n <= 12 {
				checkRead(t, list, 0, x.s, len(list), n)
			} else {
				checkNoStmt(t, list, 0, n)
			}
		}
		for m := range 8 {
			to := strings.Join(numbered(m), ", ")
			want := []impl.Rule{key(impl.RuPrimary, "r", names...), key(impl.RuUnique, "r", names...), reference("r", names, "t", numbered(m)...)}
			for i, text := range []string{"constraint r primary key (" + plain + ")", "constraint r unique (" + plain + ")", "constraint r foreign key (" + plain + ") references t (" + to + ")"} {
				list := tokensOf(t, text)
				add, table := tokensOf(t, "alter table t add "+text), tokensOf(t, "create table t ("+text+")")
				if n >= 1 && n <= 4 && (i < 2 || n == m) {
					checkReadRule(t, list, 0, want[i], len(list), n, m)
					checkRead(t, add, 0, withRule(want[i]), len(add), n, m)
					checkRead(t, table, 0, impl.Stmt{Kind: impl.StTable, Name: "t", Rules: want[i : i+1]}, len(table), n, m)
				} else {
					checkReadRule(t, list, 0, impl.Rule{}, -1, n, m)
					checkNoStmt(t, add, 0, n, m)
					checkNoStmt(t, table, 0, n, m)
				}
			}
		}
	}
}

// putToken returns the tokens of a text with a question mark, where x stands for it.
func putToken(t *testing.T, text string, x impl.Token) []impl.Token {
	t.Helper()
	before, behind, found := strings.Cut(text, "?")
	if !found {
		t.Fatal(text)
	}
	return slices.Concat(tokensOf(t, before), []impl.Token{x}, tokensOf(t, behind))
}

func TestIdentifiersInEveryPlace(t *testing.T) {
	for i, x := range namePlaces() {
		inExpr := strings.Contains(x.text, "default ?") || strings.Contains(x.text, "? is null")
		for _, s := range sampleNames() {
			quoted := putToken(t, x.text, name(s, 0))
			checkRead(t, quoted, 0, x.put(s), len(quoted), i, s)
			plain := putToken(t, x.text, word(s, 0))
			if !slices.Contains(reservedWords, s) {
				checkRead(t, plain, 0, x.put(s), len(plain), i, s)
			} else if !inExpr {
				checkNoStmt(t, plain, 0, i, s)
			} else {
				checkAgainstTexts(t, plain, 0)
			}
			for _, kind := range []int{-1, impl.TkNum, impl.TkText, impl.TkSign, 5} {
				if !inExpr || kind < 2 || kind > 3 {
					checkNoStmt(t, putToken(t, x.text, impl.Token{Kind: kind, Text: s}), 0, i, s, kind)
				}
			}
			checkScript(t, strings.Replace(x.text, "?", impl.Quote(s, '"'), 1), []impl.Stmt{x.put(s)}, -1)
		}
		for _, s := range badNames() {
			checkNoStmt(t, putToken(t, x.text, name(s, 0)), 0, i, s)
			checkNoStmt(t, putToken(t, x.text, word(s, 0)), 0, i, s)
		}
		checkNoStmt(t, tokensOf(t, strings.ReplaceAll(x.text, "?", " ")), 0, i, "without it")
	}
}

func TestLabelsRead(t *testing.T) {
	for _, unit := range []string{"a", "'", "\"", " ", "\xff", "\n", "\x00"} {
		for _, n := range []int{0, 1, 2, 39, 40, 41, 42, 100, 101, 5000} {
			s := strings.Repeat(unit, n)
			for _, text := range []string{"(?)", "('a', ?)", "(?, 'a', 'b')", "('a', ?, 'b')"} {
				list := putToken(t, "create type e as enum "+text, str(s, 0))
				if n < 1 || n > 40 || unit == "\x00" {
					checkNoStmt(t, list, 0, n)
					continue
				}
				want := impl.Stmt{Name: "e"}
				for _, x := range strings.Split(strings.Trim(text, "()"), ", ") {
					want.List = append(want.List, strings.ReplaceAll(strings.Trim(x, "'"), "?", s))
				}
				checkRead(t, list, 0, want, len(list), n)
				checkScript(t, impl.Spell(list), []impl.Stmt{want}, -1)
				for _, kind := range []int{-1, impl.TkWord, impl.TkName, impl.TkNum, impl.TkSign, 5} {
					checkNoStmt(t, putToken(t, "create type e as enum "+text, impl.Token{Kind: kind, Text: s}), 0, n, kind)
				}
			}
		}
	}
	for _, s := range sampleNames() {
		checkRead(t, putToken(t, "create type e as enum (?, 'a')", str(s, 0)), 0, impl.Stmt{Name: "e", List: []string{s, "a"}}, 10, s)
		checkRead(t, putToken(t, "create type e as enum ('b', ?)", str(s, 0)), 0, impl.Stmt{Name: "e", List: []string{"b", s}}, 10, s)
	}
	for _, s := range badNames() {
		checkNoStmt(t, putToken(t, "create type e as enum (?)", str(s, 0)), 0, s)
		checkNoStmt(t, putToken(t, "create type e as enum ('a', ?)", str(s, 0)), 0, s)
	}
	checkScript(t, "create type e as enum ('a;b', ';', '--', 'it''s')", []impl.Stmt{{Name: "e", List: []string{"a;b", ";", "--", "it's"}}}, -1)
}

func TestNumbersRead(t *testing.T) {
	for _, s := range []string{"0", "1", "9", "10", "99999999", "100000000", "123456789", "999999998", "999999999"} {
		n, _ := strconv.Atoi(s)
		checkRead(t, putToken(t, "create sequence s start ?", num(s, 0)), 0, impl.Stmt{Kind: impl.StSeq, Name: "s", Num: n}, 5, s)
		checkScript(t, "create sequence s start "+s, []impl.Stmt{{Kind: impl.StSeq, Name: "s", Num: n}}, -1)
		for _, kind := range []int{-1, impl.TkWord, impl.TkName, impl.TkText, impl.TkSign, 5} {
			checkNoStmt(t, putToken(t, "create sequence s start ?", impl.Token{Kind: kind, Text: s}), 0, s, kind)
		}
	}
	for _, s := range []string{"", "-1", "-0", "+1", "00", "01", "007", "1000000000", "9999999999", "1234567890", "0000000001", "4294967297", "99999999999999999999", "1a", "a", "1.0", "1_0", "0x1", " 1", "1 ", "١"} {
		checkNoStmt(t, putToken(t, "create sequence s start ?", num(s, 0)), 0, s)
		checkNoStmt(t, putToken(t, "alter table t alter column a type char(?)", num(s, 0)), 0, s)
		checkReadType(t, putToken(t, "char(?)", num(s, 0)), 0, impl.Type{}, -1, s)
	}
	checkScript(t, "create sequence s start 1000000000", nil, 24)
	checkScript(t, "create sequence s start 01", nil, 24)
}

func TestTypesRead(t *testing.T) {
	for n := range 130 {
		want, next := impl.Type{}, -1
		if n >= 1 && n <= 100 {
			want, next = char(n), 4
		}
		text := "char(" + strconv.Itoa(n) + ")"
		checkReadType(t, tokensOf(t, text), 0, want, next, n)
		checkReadType(t, tokensOf(t, "CHAR ( "+strconv.Itoa(n)+" )"), 0, want, next, n)
		list := tokensOf(t, "create table t (a "+text+", b int)")
		if next < 0 {
			checkNoStmt(t, list, 0, n)
			checkReadCol(t, list, 4, impl.Col{}, -1, n)
			checkNoStmt(t, tokensOf(t, "alter table t alter column a type "+text), 0, n)
			continue
		}
		checkRead(t, list, 0, impl.Stmt{Kind: impl.StTable, Name: "t", Cols: []impl.Col{column("a", want), {Name: "b"}}}, len(list), n)
		checkReadCol(t, list, 4, column("a", want), 9, n)
		checkRead(t, tokensOf(t, "alter table t alter column a type "+text), 0, impl.Stmt{Kind: impl.StColType, Name: "t", On: "a", Type: want}, 11, n)
	}
	for _, s := range []string{
		"", "a", "integer", "ints", "in", "\"int\"", "'int'", "1", "(", "int_", "null", "type", "char", "char(", "char()", "char(5", "char 5", "char 5)", "char(a)", "char('5')", "char(\"5\")", "char(-5)", "char((5))", "char(5,)", "char(5 6)", "\"char\"(5)",
		"enum", "enum(", "enum table", "enum 'e'", "enum 5", "enum (e)", "enum int", "enum enum", "\"enum\" e", "varchar(5)", "float", "not null", ") int",
	} {
		checkReadType(t, tokensOf(t, s), 0, impl.Type{}, -1, s)
		checkNoStmt(t, tokensOf(t, "alter table t alter column a type "+s), 0, s)
		checkReadCol(t, tokensOf(t, "a "+s), 0, impl.Col{}, -1, s)
	}
	for _, x := range []struct {
		s    string
		want impl.Type
		next int
	}{
		{"int", impl.Type{}, 1}, {"INT", impl.Type{}, 1}, {"int(5)", impl.Type{}, 1}, {"int text", impl.Type{}, 1}, {"text(5)", kindOf(impl.TyText), 1}, {"bool", kindOf(impl.TyBool), 1}, {"Bool null", kindOf(impl.TyBool), 1},
		{"char(7)(8)", char(7), 4}, {"enum e", enum("e"), 2}, {"enum E", enum("e"), 2}, {"enum \"E\"", enum("E"), 2}, {"enum \"int\"", enum("int"), 2}, {"enum e f", enum("e"), 2}, {"enum e (5)", enum("e"), 2}, {"enum \"a \"\" b\"", enum("a \" b"), 2},
	} {
		checkReadType(t, tokensOf(t, x.s), 0, x.want, x.next, x.s)
	}
	for _, kind := range []int{-1, impl.TkName, impl.TkNum, impl.TkText, impl.TkSign, 5} {
		for _, s := range []string{"int", "text", "bool", "char", "enum"} {
			checkReadType(t, slices.Concat([]impl.Token{{Kind: kind, Text: s}}, tokensOf(t, "(5)")), 0, impl.Type{}, -1, kind, s)
			checkReadType(t, []impl.Token{{Kind: kind, Text: s}, word("e", 0)}, 0, impl.Type{}, -1, kind, s)
		}
	}
}

func TestColumnsRead(t *testing.T) {
	five := []impl.Expr{lit(5)}
	for _, x := range []struct {
		s    string
		want impl.Col
		next int
	}{
		{"a int", impl.Col{Name: "a"}, 2}, {"A Int Not NULL", impl.Col{Name: "a", NotNull: true}, 4}, {"a int default 5", impl.Col{Name: "a", Default: five}, 4}, {"a int not null default 5", impl.Col{Name: "a", NotNull: true, Default: five}, 6},
		{"\"A\" int NOT -- here\n null DEFAULT(5)", impl.Col{Name: "A", NotNull: true, Default: five}, 8}, {"a int default 5 not null", impl.Col{Name: "a", Default: five}, 4}, {"a int not null default 5 not null", impl.Col{Name: "a", NotNull: true, Default: five}, 6},
		{"a int not null not null", impl.Col{Name: "a", NotNull: true}, 4}, {"a int not null not null default 5", impl.Col{Name: "a", NotNull: true}, 4}, {"a int not", impl.Col{Name: "a"}, 2}, {"a int null", impl.Col{Name: "a"}, 2}, {"a int not default 5", impl.Col{Name: "a"}, 2},
		{"a int null default 5", impl.Col{Name: "a"}, 2}, {"a int default 5 default 6", impl.Col{Name: "a", Default: five}, 4}, {"a int default 5 default", impl.Col{Name: "a", Default: five}, 4}, {"a int default not null", impl.Col{Name: "a", Default: []impl.Expr{op(impl.EpNot, op(impl.EpNull))}}, 5},
		{"a int not null default not null", impl.Col{Name: "a", NotNull: true, Default: []impl.Expr{op(impl.EpNot, op(impl.EpNull))}}, 7}, {"a int default null not null", impl.Col{Name: "a", Default: []impl.Expr{op(impl.EpNull)}}, 4}, {"a int default b c", impl.Col{Name: "a", Default: []impl.Expr{col("b")}}, 4},
		{"a int default 5 +", impl.Col{Name: "a", Default: five}, 4}, {"a int default 5 is", impl.Col{Name: "a", Default: five}, 4}, {"a int default 5, b int", impl.Col{Name: "a", Default: five}, 4}, {"a enum e not null", impl.Col{Name: "a", Type: enum("e"), NotNull: true}, 5},
		{"\"default\" enum \"not\" default 'x'", impl.Col{Name: "default", Type: enum("not"), Default: []impl.Expr{quoted("x")}}, 5}, {"\"constraint\" bool", column("constraint", kindOf(impl.TyBool)), 2}, {"a char(3)(4)", column("a", char(3)), 5},
		{"a int \"not\" null", impl.Col{Name: "a"}, 2}, {"a int not \"null\"", impl.Col{Name: "a"}, 2}, {"a int 'not' null", impl.Col{Name: "a"}, 2}, {"a int \"default\" 5", impl.Col{Name: "a"}, 2},
		{"", impl.Col{}, -1}, {"a", impl.Col{}, -1}, {"int", impl.Col{}, -1}, {"int int", impl.Col{}, -1}, {"a a", impl.Col{}, -1}, {"a int default", impl.Col{}, -1}, {"a int not null default", impl.Col{}, -1}, {"a int default )", impl.Col{}, -1}, {"a int default default", impl.Col{}, -1},
		{"a int default not", impl.Col{}, -1}, {"a int default (5", impl.Col{}, -1}, {"a int default ;5", impl.Col{}, -1}, {"a not null", impl.Col{}, -1}, {"a default 5", impl.Col{}, -1}, {"constraint int", impl.Col{}, -1}, {"default int", impl.Col{}, -1}, {"'a' int", impl.Col{}, -1}, {"1 int", impl.Col{}, -1},
		{"(a int)", impl.Col{}, -1}, {", a int", impl.Col{}, -1}, {"a, int", impl.Col{}, -1}, {"column a int", impl.Col{}, -1}, {"a int default default 5", impl.Col{}, -1},
	} {
		checkReadCol(t, tokensOf(t, x.s), 0, x.want, x.next, x.s)
		add := tokensOf(t, "alter table t add column "+x.s)
		table := tokensOf(t, "create table t ("+x.s+")")
		if x.next < 0 {
			checkNoStmt(t, add, 0, x.s)
			if x.s != "" {
				checkNoStmt(t, table, 0, x.s)
			}
			continue
		}
		checkRead(t, add, 0, withCol(x.want), 5+x.next, x.s)
		if x.next == len(add)-5 {
			checkRead(t, table, 0, impl.Stmt{Kind: impl.StTable, Name: "t", Cols: []impl.Col{x.want}}, 5+x.next, x.s)
		} else if x.s != "a int default 5, b int" {
			checkNoStmt(t, table, 0, x.s)
		}
	}
}

func TestRulesRead(t *testing.T) {
	for _, x := range []struct {
		s    string
		want impl.Rule
		next int
	}{
		{"constraint k primary key (a)", key(impl.RuPrimary, "k", "a"), 7}, {"CONSTRAINT K Primary KEY (A, \"B\")", key(impl.RuPrimary, "k", "a", "B"), 9}, {"constraint \"unique\" unique(a,b,c,d)", key(impl.RuUnique, "unique", "a", "b", "c", "d"), 12},
		{"constraint k unique (a, a)", key(impl.RuUnique, "k", "a", "a"), 8}, {"constraint k unique (a) (b)", key(impl.RuUnique, "k", "a"), 6}, {"constraint k unique (a), b", key(impl.RuUnique, "k", "a"), 6},
		{"constraint c check (a)", condition("c", col("a")), 6}, {"constraint c check ((a))", condition("c", col("a")), 8}, {"constraint c check (a) and b", condition("c", col("a")), 6}, {"constraint c check ((a) and b)", condition("c", op(impl.EpAnd, col("a"), col("b"))), 10},
		{"constraint c check (1 = 'x')", condition("c", op(impl.EpEq, lit(1), quoted("x"))), 8}, {"constraint c check (a))", condition("c", col("a")), 6},
		{"constraint r foreign key (a) references t (b)", reference("r", []string{"a"}, "t", "b"), 12}, {"constraint r foreign key (a, \"from\") references \"table\" (c, c) references", reference("r", []string{"a", "from"}, "table", "c", "c"), 16},
		{"constraint r foreign key (a) references r (a)(a)", reference("r", []string{"a"}, "r", "a"), 12},
		{"", impl.Rule{}, -1}, {"constraint", impl.Rule{}, -1}, {"constraint c", impl.Rule{}, -1}, {"unique (a)", impl.Rule{}, -1}, {"c unique (a)", impl.Rule{}, -1}, {"constraint unique (a)", impl.Rule{}, -1}, {"\"constraint\" c unique (a)", impl.Rule{}, -1}, {"constraint 'c' unique (a)", impl.Rule{}, -1},
		{"constraint c \"unique\" (a)", impl.Rule{}, -1}, {"constraint c unique key (a)", impl.Rule{}, -1}, {"constraint c primary (a)", impl.Rule{}, -1}, {"constraint c foreign (a) references t (b)", impl.Rule{}, -1}, {"constraint c key (a)", impl.Rule{}, -1}, {"constraint c references t (b)", impl.Rule{}, -1},
		{"constraint c unique ()", impl.Rule{}, -1}, {"constraint c check ()", impl.Rule{}, -1}, {"constraint c check a", impl.Rule{}, -1}, {"constraint c check (a", impl.Rule{}, -1}, {"constraint c check (a, b)", impl.Rule{}, -1}, {"constraint c check (a b)", impl.Rule{}, -1}, {"constraint c check (check)", impl.Rule{}, -1},
		{"constraint r foreign key (a) references t (b, c)", impl.Rule{}, -1}, {"constraint r foreign key (a, b) references t (c)", impl.Rule{}, -1}, {"constraint r foreign key (a) references t", impl.Rule{}, -1}, {"constraint r foreign key (a) references t ()", impl.Rule{}, -1}, {"constraint r foreign key () references t (a)", impl.Rule{}, -1},
		{"constraint r foreign key (a) references (b)", impl.Rule{}, -1}, {"constraint r foreign key (a) t (b)", impl.Rule{}, -1}, {"constraint r foreign key references t (b)", impl.Rule{}, -1}, {"add constraint c unique (a)", impl.Rule{}, -1}, {", constraint c unique (a)", impl.Rule{}, -1}, {"(constraint c unique (a))", impl.Rule{}, -1},
	} {
		checkReadRule(t, tokensOf(t, x.s), 0, x.want, x.next, x.s)
		add := tokensOf(t, "alter table t add "+x.s)
		table := tokensOf(t, "create table t (a int, "+x.s+")")
		if x.next < 0 {
			checkNoStmt(t, add, 0, x.s)
			checkNoStmt(t, table, 0, x.s)
			continue
		}
		checkRead(t, add, 0, withRule(x.want), 4+x.next, x.s)
		if x.next == len(add)-4 {
			checkRead(t, table, 0, impl.Stmt{Kind: impl.StTable, Name: "t", Cols: []impl.Col{{Name: "a"}}, Rules: []impl.Rule{x.want}}, 8+x.next, x.s)
		}
	}
}

// At each place of an expression stand one, none, one that is too large, and one with something behind it.
func TestExpressionsRead(t *testing.T) {
	random := rand.New(rand.NewSource(90))
	for i, x := range exprPlaces {
		for n := range 400 {
			e := anyExpr(random, 1+n%40)
			text := x.before + written(e, 1, func() int { return random.Intn(5) / 4 }) + x.behind
			list := tokensOf(t, text)
			checkRead(t, list, 0, x.put(e), len(list), i)
			checkNoStmt(t, tokensOf(t, x.before+" "+x.behind), 0, i, "none")
			if x.behind != "" {
				checkNoStmt(t, tokensOf(t, x.before+written(e, 1, noMore)+" x"+x.behind), 0, i, "a name behind it")
				continue
			}
			for _, rest := range []string{" x", " )", " , 1", " ;", " not null", " default 1", " where a", " is", " and", " + *", " = )", " (1)"} {
				checkRead(t, tokensOf(t, x.before+"("+written(e, 1, noMore)+")"+rest), 0, x.put(e), len(tokensOf(t, x.before))+2+len(tokensOf(t, written(e, 1, noMore))), i, rest)
			}
		}
		for n := 38; n <= 43; n++ {
			for _, e := range []impl.Expr{chain(impl.EpNot, n, col("a")), chain(impl.EpIsNull, n, col("a")), tree(impl.EpAdd, n), tree(impl.EpOr, n)} {
				list := tokensOf(t, x.before+written(e, 1, noMore)+x.behind)
				if n <= 40 {
					checkRead(t, list, 0, x.put(e), len(list), i, n)
				} else {
					checkNoStmt(t, list, 0, i, n)
				}
			}
		}
		for _, bad := range []impl.Token{num("007", 0), num("1000000000", 0), name("", 0), name(letters(41), 0), word("a\x00", 0), str(letters(101), 0), word("select", 0), sign(";", 0), {Kind: 5, Text: "a"}} {
			checkNoStmt(t, slices.Concat(tokensOf(t, x.before), []impl.Token{bad}, tokensOf(t, x.behind)), 0, i, bad)
			if bad.Kind != 5 && bad.Kind != impl.TkSign && bad.Text != "select" {
				checkNoStmt(t, slices.Concat(tokensOf(t, x.before+"1 +"), []impl.Token{bad}, tokensOf(t, x.behind)), 0, i, bad)
			}
		}
		if x.optional != "" {
			list := tokensOf(t, x.optional)
			checkRead(t, list, 0, x.put(), len(list), i)
		}
	}
}

func TestReadAtEveryIndex(t *testing.T) {
	all := "drop table t; create table t (a int not null default 5, b char(8), constraint k unique (a), constraint r foreign key (a) references u (b)); alter table t alter column a type int; create view v as select a from t where a"
	list := tokensOf(t, all)
	found := map[int]int{}
	for at := range list {
		if checkAgainstTexts(t, list, at) {
			found[at]++
		}
	}
	if len(found) != 4 || found[0] != 1 || found[4] != 1 {
		t.Error(found)
	}
	for _, given := range [][]impl.Token{nil, {}, list, list[:1], list[:3], make([]impl.Token, 5), slices.Repeat(list, 200)} {
		for _, at := range []int{math.MinInt, math.MinInt + 1, -1 << 32, -1000, -len(list), -2, -1, len(given), len(given) + 1, len(given) + 1000, 1 << 32, math.MaxInt - 5, math.MaxInt - 1, math.MaxInt} {
			checkNoStmt(t, given, at)
			checkReadType(t, given, at, impl.Type{}, -1)
			checkReadCol(t, given, at, impl.Col{}, -1)
			checkReadRule(t, given, at, impl.Rule{}, -1)
		}
	}
	// Where a token begins in the text does not matter.
	for i := range list {
		list[i].At = math.MaxInt - i
	}
	for at := range list {
		if (found[at] == 1) != checkAgainstTexts(t, list, at) {
			t.Error(at)
		}
	}
}

func hasExpr(s impl.Stmt) bool {
	return len(s.Exprs) > 0 || slices.ContainsFunc(s.Cols, func(x impl.Col) bool { return len(x.Default) > 0 }) ||
		slices.ContainsFunc(s.Rules, func(r impl.Rule) bool { return len(r.Expr) > 0 })
}

// The document limits the tokens of a list only for expressions.
func TestLongListsOfTokens(t *testing.T) {
	fill := func(s string, n int) []impl.Token {
		list := tokensOf(t, s)
		return append(list, slices.Repeat([]impl.Token{sign(";", 0)}, n-len(list))...)
	}
	for _, n := range []int{19999, 20000, 20001, 40000} {
		for _, x := range sampleStmts() {
			list := fill(x.want, n)
			if hasExpr(x.s) && n > impl.MaxText {
				checkNoStmt(t, list, 0, n, x.want)
			} else {
				checkRead(t, list, 0, x.s, len(tokensOf(t, x.want)), n, x.want)
			}
		}
		checkReadType(t, fill("char(5)", n), 0, char(5), 4, n)
		checkReadCol(t, fill("a int not null", n), 0, impl.Col{Name: "a", NotNull: true}, 4, n)
		checkReadRule(t, fill("constraint k unique (a)", n), 0, key(impl.RuUnique, "k", "a"), 6, n)
		if n <= impl.MaxText {
			checkReadCol(t, fill("a int default 5", n), 0, impl.Col{Name: "a", Default: []impl.Expr{lit(5)}}, 4, n)
			checkReadRule(t, fill("constraint c check (a)", n), 0, condition("c", col("a")), 6, n)
		} else {
			checkReadCol(t, fill("a int default 5", n), 0, impl.Col{}, -1, n)
			checkReadRule(t, fill("constraint c check (a)", n), 0, impl.Rule{}, -1, n)
		}
	}
	last := append(slices.Repeat([]impl.Token{sign(";", 0)}, 19997), tokensOf(t, "drop view v")...)
	checkRead(t, last, 19997, impl.Stmt{Kind: impl.StDropView, Name: "v"}, 20000)
}

// Every call ends soon, however long what it refuses is.
func TestLongNonsense(t *testing.T) {
	for i, x := range []struct {
		before, again, behind string
	}{
		{"create table t (", "a int,", "b int)"}, {"create table t (", "constraint c unique (a),", "constraint d unique (a))"}, {"create type e as enum (", "'a',", "'b')"}, {"create index i on t (", "a,", "b)"}, {"create view v as select ", "a,", "b from t"},
		{"create table t (", "a int not null default 1,", "b int)"}, {"create ", "create ", "table t ()"}, {"alter table t add constraint c unique (", "a,", "b)"}, {"create table t (a int default ", "(", "1)"}, {"alter table t add constraint c check (", "not (", "a)"},
		{"create view v as select a from t where (", "a = 1 or (", "b)"}, {"create table t (a int default ", "1 +", "1)"}, {"alter table t add column a int ", "not ", "null"}, {"create table ", "(", ")"}, {"create table t (", "a int default (1), constraint (", ")"},
	} {
		list := slices.Concat(tokensOf(t, x.before), slices.Repeat(tokensOf(t, x.again), 200000), tokensOf(t, x.behind))
		if i == 12 {
			checkRead(t, list, 0, withCol(impl.Col{Name: "a"}), 7)
			continue
		}
		checkNoStmt(t, list, 0, i)
		checkNoStmt(t, list[:19999], 0, i)
		s := x.before
		for len(s)+len(x.again)+len(x.behind) <= impl.MaxText {
			s += x.again
		}
		checkScript(t, s+x.behind, nil, 0)
	}
	huge := strings.Repeat("a", 1<<20)
	for i, x := range namePlaces() {
		checkNoStmt(t, putToken(t, x.text, name(huge, 0)), 0, i)
		checkNoStmt(t, putToken(t, x.text, word(huge, 0)), 0, i)
	}
	checkNoStmt(t, putToken(t, "create type e as enum (?)", str(huge, 0)), 0)
	checkNoStmt(t, putToken(t, "create sequence s start ?", num(strings.Repeat("1", 1<<20), 0)), 0)
	checkNoStmt(t, []impl.Token{word(huge, 0), word(huge, 0)}, 0)
}

// dressed writes tokens with some letters of the words great, and with blanks and notes between the tokens.
func dressed(random *rand.Rand, list []impl.Token) string {
	gaps := []string{" ", " ", " ", "  ", "\n", "\t", "\r\n", " --\n", " -- drop ; ' \"\n", "\n--\n--;\n ", " ---\n"}
	gap := func() string { return gaps[random.Intn(len(gaps))] }
	var out strings.Builder
	for _, x := range list {
		out.WriteString(gap())
		text := impl.Spell([]impl.Token{x})
		if x.Kind == impl.TkWord {
			bytes := []byte(text)
			for i := range bytes {
				if random.Intn(3) == 0 {
					bytes[i] = strings.ToUpper(text)[i]
				}
			}
			text = string(bytes)
		}
		out.WriteString(text)
	}
	return out.String() + gap()
}

func TestWordsAndBlanksAndNotes(t *testing.T) {
	random := rand.New(rand.NewSource(91))
	for _, x := range sampleStmts() {
		want := []impl.Stmt{x.s}
		list := tokensOf(t, x.want)
		for range 50 {
			text := dressed(random, list)
			checkScript(t, text, want, -1)
			checkRead(t, tokensOf(t, text), 0, x.s, len(list))
		}
		for _, sep := range []string{" ", "\n", "\t", "\r\n", "  \n\t ", " -- ;\n", "\n-- '\n"} {
			checkScript(t, sep+strings.Join(words(list), sep)+sep, want, -1)
		}
		upper := words(list)
		for i, token := range list {
			if token.Kind == impl.TkWord {
				upper[i] = strings.ToUpper(upper[i])
			}
		}
		checkScript(t, strings.Join(upper, " "), want, -1)
	}
	checkScript(t, "CREATE TABLE T(A INT,\"A\" CHAR(5)NOT NULL DEFAULT'x',CONSTRAINT\"K\"UNIQUE(A,\"A\"))", []impl.Stmt{{
		Kind: impl.StTable, Name: "t", Cols: []impl.Col{{Name: "a"}, {Name: "A", Type: char(5), NotNull: true, Default: []impl.Expr{quoted("x")}}}, Rules: []impl.Rule{key(impl.RuUnique, "K", "a", "A")},
	}}, -1)
	checkScript(t, "drop--a\ntable--b\nt--c", []impl.Stmt{{Kind: impl.StDropTable, Name: "t"}}, -1)
	checkScript(t, "droptable t", nil, 0)
	checkScript(t, "drop tablet", nil, 0)
	checkScript(t, "drop -- table t", nil, 0)
}

func words(list []impl.Token) []string {
	var out []string
	for _, x := range list {
		out = append(out, impl.Spell([]impl.Token{x}))
	}
	return out
}

func TestScriptsRead(t *testing.T) {
	a, b, c := impl.Stmt{Kind: impl.StDropView, Name: "v"}, impl.Stmt{Kind: impl.StSeq, Name: "s", Num: 7}, impl.Stmt{Kind: impl.StTable, Name: ";"}
	const aText, bText, cText = "drop view v", "create sequence s start 7", "create table \";\" ()"
	for _, s := range []string{"", " ", "\n", " \t\r\n ", "-- nothing", "--\n--\n", ";", ";;", " ; ; ;\n", ";;;;;;;;;;", "-- ;\n;-- ;", "; -- drop view v\n;", strings.Repeat(";", 20000), strings.Repeat(" ", 20000)} {
		checkScript(t, s, nil, -1)
	}
	marks := []string{"", ";", ";;", " ; ;; ", "\n;-- x;\n;\n"}
	for _, first := range marks {
		for _, last := range marks {
			checkScript(t, first+aText+last, []impl.Stmt{a}, -1)
			for _, between := range marks[1:] {
				checkScript(t, first+aText+between+bText+last, []impl.Stmt{a, b}, -1)
				checkScript(t, first+cText+between+aText+last, []impl.Stmt{c, a}, -1)
				checkScript(t, first+aText+between+bText+between+cText+last, []impl.Stmt{a, b, c}, -1)
				checkScript(t, first+aText+between+aText+between+aText+";"+aText+last, []impl.Stmt{a, a, a, a}, -1)
				for _, junk := range []string{"junk", "1", "'text'", "\"name\"", "(", ",", "create", "drop view", "drop view v w", aText + " " + bText, aText + ",", "create table t (a int", "drop view view", "create view v as select a from t where"} {
					checkScript(t, first+junk+last, nil, len(first))
					checkScript(t, first+junk+between+aText+last, nil, len(first))
					checkScript(t, first+aText+between+junk+last, nil, len(first+aText+between))
					checkScript(t, first+aText+between+junk+between+bText+last, nil, len(first+aText+between))
					checkScript(t, first+aText+between+bText+between+junk+last, nil, len(first+aText+between+bText+between))
					checkScript(t, first+junk+between+junk+last, nil, len(first))
					checkScript(t, first+junk+between+"'open"+last, nil, len(first+junk+between))
				}
			}
		}
	}
}

// What is skipped ahead of a part, and the marks, do not belong to it.
func TestWherePartsBegin(t *testing.T) {
	for _, s := range []string{"?", " ?", "\n\t?", "-- note\n?", ";?", " ; ; ?", ";-- ;\n?", "drop view v;?", "drop view v ; ?", "drop view v;\n -- drop;\n\t?", "drop view v;;drop view w; ;?", "create type e as enum (';');?", "create table \";\" ();  ?"} {
		at := strings.Index(s, "?")
		for _, part := range []string{"junk", "drop", "drop view v w", "drop view v, w", "drop view v drop view v", "create table t (a int", "create table t (a int; b int)", "'text'", "1", "(", ")", ",", "drop view v -- ;\n w"} {
			for _, behind := range []string{"", ";", " ;", "; drop view x", ";;junk", "; create", " ; ; ;"} {
				checkScript(t, strings.Replace(s, "?", part, 1)+behind, nil, at)
			}
		}
	}
}

func TestScriptsThatLexRefuses(t *testing.T) {
	for _, x := range []struct {
		s  string
		at int
	}{
		{"!", 0}, {" !", 1}, {"drop view v; !", 13}, {"drop view v; 'open", 13}, {"drop view v; \"open", 13}, {"drop view v; \"\"", 13}, {"drop view v; \"a\x00\"", 13}, {"drop view v; 007", 13}, {"drop view v; 1a", 13}, {"drop view v!; drop view w", 11},
		{"junk; 'open", 6}, {"junk junk 'open", 10}, {"!; 'open", 0}, {"drop view \"" + letters(41) + "\"", 10}, {"drop view \"" + strings.Repeat("é", 21) + "\"", 10}, {"create type e as enum ('" + letters(101) + "')", 23}, {"create type e as enum ('a', 'b)", 28},
		{"create sequence s start 1234567890", 24}, {"create sequence s start 1000000000; !", 24}, {strings.Repeat(" ", 20001), 20000}, {strings.Repeat(";", 20001), 20000}, {"!" + strings.Repeat(" ", 20000), 20000}, {"junk" + strings.Repeat(" ", 20000), 20000},
		{"drop view v" + strings.Repeat(" ", 20000-10), 20000}, {"drop view v;" + strings.Repeat("!", 50000), 20000}, {strings.Repeat("é", 10001), 20000}, {"\x00", 0}, {"drop view v\x00", 11},
	} {
		checkScript(t, x.s, nil, x.at)
		if _, at := impl.Lex(x.s); at != x.at {
			t.Errorf("this test wants %d of %.100q, Lex returns %d", x.at, x.s, at)
		}
	}
	drop := impl.Stmt{Kind: impl.StDropView, Name: "v"}
	checkScript(t, "drop view v"+strings.Repeat(" ", 20000-11), []impl.Stmt{drop}, -1)
	checkScript(t, strings.Repeat(";", 20000-11)+"drop view v", []impl.Stmt{drop}, -1)
	checkScript(t, strings.Repeat(" ", 20000-5)+"drop;", nil, 19995)
	checkScript(t, strings.Repeat("drop view v;", 1666), slices.Repeat([]impl.Stmt{drop}, 1666), -1)
	checkScript(t, strings.Repeat("drop view v;", 1665)+"drop view", nil, 1665*12)
	// A label or an expression may be what Lex takes, but no part of a statement.
	checkScript(t, "drop view v; create type e as enum ('"+letters(41)+"'); drop", nil, 13)
	checkScript(t, "drop view v; alter table t alter column a set default "+strings.Repeat("not ", 40)+"a", nil, 13)
}

// A semicolon in quotes is no mark.
func TestQuotedMarks(t *testing.T) {
	a, b := impl.Stmt{Kind: impl.StDropView, Name: ";"}, impl.Stmt{Name: "e", List: []string{";"}}
	checkScript(t, "drop view \";\";create type e as enum (';');", []impl.Stmt{a, b}, -1)
	for _, mark := range []string{"\";\"", "';'", "\";;\"", "'; ;'"} {
		checkScript(t, mark, nil, 0)
		checkScript(t, mark+mark[:1]+" ;"+mark[:1], nil, 0)
		checkScript(t, mark+" drop view v", nil, 0)
		checkScript(t, "; "+mark+";", nil, 2)
		checkScript(t, "drop view v"+mark, nil, 0)
		checkScript(t, "drop view v "+mark+" drop view v", nil, 0)
		checkScript(t, "drop view v;"+mark, nil, 12)
		checkScript(t, "drop view v;"+mark+";drop view v", nil, 12)
	}
}

// wantScript cuts the tokens into parts first.
func wantScript(s string) ([]impl.Stmt, int) {
	list, at := impl.Lex(s)
	if at != -1 {
		return nil, at
	}
	var parts [][]impl.Token
	var out []impl.Stmt
	part := []impl.Token{}
	for _, x := range append(list, sign(";", 0)) {
		if x.Kind != impl.TkSign || x.Text != ";" {
			part = append(part, x)
		} else if parts, part = append(parts, part), nil; len(parts[len(parts)-1]) == 0 {
			parts = parts[:len(parts)-1]
		}
	}
	for _, part := range parts {
		x, next := textReader{part}.stmtAt(0)
		if next != len(part) {
			return nil, part[0].At
		}
		out = append(out, x)
	}
	return out, -1
}

func TestRandomScripts(t *testing.T) {
	random := stmtMaker{rand.New(rand.NewSource(92))}
	marks := []string{";", ";", ";", ";;", " ; ", ";\n", ";--;\n;", "", ",", "; drop", "; ;"}
	bytes := []string{";", "'", "\"", " ", "(", ")", ",", "a", "not", "-- ", "\n", "1", "!", "where ", "default "}
	read, refused, lexed := 0, 0, 0
	for i := range 20000 {
		var text strings.Builder
		text.WriteString(marks[random.Intn(7)])
		for range 1 + random.Intn(4) {
			s := random.stmt(random.Intn(17))
			if impl.PutStmt(s) == "" {
				t.Fatal(s)
			}
			text.WriteString(impl.PutStmt(s))
			n := 7
			if i%4 == 0 {
				n = len(marks)
			}
			text.WriteString(marks[random.Intn(n)])
		}
		s := text.String()
		if i%2 == 0 {
			at := random.Intn(len(s) + 1)
			switch random.Intn(3) {
			case 0:
				s = s[:at]
			case 1:
				s = s[:at] + s[min(at+1+random.Intn(4), len(s)):]
			default:
				s = s[:at] + bytes[random.Intn(len(bytes))] + s[at:]
			}
		}
		want, bad := wantScript(s)
		checkScript(t, s, want, bad)
		if t.Failed() {
			t.FailNow()
		}
		_, at := impl.Lex(s)
		switch {
		case bad == -1:
			read++
		case at == -1:
			refused++
		default:
			lexed++
		}
	}
	if read < 5000 || refused < 2000 || lexed < 500 {
		t.Error(read, refused, lexed)
	}
}

// A script is read back from its text, and so is what stands in it.
func TestRandomStatementsAreReadBack(t *testing.T) {
	random := stmtMaker{rand.New(rand.NewSource(93))}
	around := neighbours()
	tooLong := 0
	for i := range 12000 {
		s := random.stmt(i % 17)
		text := impl.PutStmt(s)
		if len(text) > impl.MaxText {
			tooLong++
			checkScript(t, text, nil, impl.MaxText)
			continue
		}
		list := tokensOf(t, text)
		before, behind := around[random.Intn(len(around))], around[random.Intn(len(around))]
		checkRead(t, slices.Concat(before, list, behind), len(before), s, len(before)+len(list), text)
		checkScript(t, impl.Script([]impl.Stmt{s}), []impl.Stmt{s}, -1)
		if rough := dressed(random.Rand, list); len(rough) <= impl.MaxText {
			checkScript(t, rough, []impl.Stmt{s}, -1)
		}
		for _, x := range s.Cols {
			list := tokensOf(t, impl.PutCol(x))
			checkReadCol(t, slices.Concat(before, list, behind), len(before), x, len(before)+len(list))
		}
		for _, r := range s.Rules {
			list := tokensOf(t, impl.PutRule(r))
			checkReadRule(t, slices.Concat(before, list, behind), len(before), r, len(before)+len(list))
		}
		if t.Failed() {
			t.FailNow()
		}
	}
	if tooLong > 3000 {
		t.Error(tooLong)
	}
}

func TestScriptsAreReadBack(t *testing.T) {
	scripts := 0
	for _, p := range somePlans(t, 500) {
		list := creating(p)
		s := impl.Script(list)
		if len(s) > impl.MaxText {
			continue
		}
		checkScript(t, s, list, -1)
		checkScript(t, s+"drop", nil, len(s))
		scripts++
	}
	if scripts < 400 {
		t.Error(scripts)
	}
	var all []impl.Stmt
	for _, x := range sampleStmts() {
		all = append(all, x.s)
		checkScript(t, impl.Script(all), all, -1)
	}
}

// tokenBreaker makes small changes in a list of tokens, in new memory.
type tokenBreaker struct {
	stmtMaker
	odd []impl.Token
}

func (r tokenBreaker) token(list []impl.Token) impl.Token {
	if len(list) > 0 && r.Intn(2) == 0 {
		return list[r.Intn(len(list))]
	}
	return r.odd[r.Intn(len(r.odd))]
}

func (r tokenBreaker) change(list []impl.Token, other []impl.Token) []impl.Token {
	out := slices.Clone(list)
	if len(out) == 0 {
		return other
	}
	at := r.Intn(len(out))
	switch r.Intn(9) {
	case 0:
		return slices.Delete(out, at, at+1)
	case 1:
		return slices.Insert(out, at, out[at])
	case 2:
		out[at] = r.token(other)
	case 3:
		return slices.Insert(out, at, r.token(out))
	case 4:
		next := (at + 1) % len(out)
		out[at], out[next] = out[next], out[at]
	case 5:
		out[at].Kind = r.Intn(7) - 1
	case 6:
		out[at].Text = r.token(other).Text
	case 7:
		return append(out[:at], other[r.Intn(len(other)):]...)
	default:
		from, to := r.Intn(len(out)+1), r.Intn(len(out)+1)
		return slices.Insert(out, at, out[min(from, to):max(from, to)]...)
	}
	return out
}

// What is read out of changed statements is what the texts of the chapter make of them; it is valid, and is read again
// from its text.
func TestRandomChangesOfTokens(t *testing.T) {
	random := tokenBreaker{stmtMaker{rand.New(rand.NewSource(94))}, oddTokens()}
	read, refused, kinds := 0, 0, map[int]int{}
	for i := range 60000 {
		list := tokensOf(t, shortText(random.stmtMaker, i))
		for range 1 + i%5/4 {
			list = random.change(list, tokensOf(t, shortText(random.stmtMaker, random.Intn(17))))
		}
		at := 0
		if i%5 == 0 && len(list) > 0 {
			at = random.Intn(len(list))
		}
		checkAgainstTexts(t, list, at)
		if s, next := impl.ParseStmt(list, at); next >= 0 {
			checkReadAgain(t, s, list[at:next])
			kinds[s.Kind]++
			read++
		} else {
			refused++
		}
		if t.Failed() {
			t.FailNow()
		}
	}
	if read < 5000 || refused < 20000 || len(kinds) != 17 {
		t.Error(read, refused, kinds)
	}
}

// shortText returns the text of a statement in which few things are large.
func shortText(r stmtMaker, i int) string {
	for {
		s := r.stmt(i % 17)
		if text := impl.PutStmt(s); len(text) < 600 {
			return text
		}
	}
}

// checkReadAgain asks whether a statement that was read is valid, and what its text is read as. The tokens that it was
// read from are those of its text, but for parentheses and for the form of a name.
func checkReadAgain(t *testing.T, s impl.Stmt, from []impl.Token) {
	t.Helper()
	text := impl.PutStmt(s)
	if !impl.StmtOk(s) || text == "" {
		t.Errorf("%+v is read but not valid", s)
		return
	}
	list := tokensOf(t, text)
	checkRead(t, list, 0, s, len(list))
	checkScript(t, text, []impl.Stmt{s}, -1)
	checkScript(t, impl.Script([]impl.Stmt{s, s}), []impl.Stmt{s, s}, -1)
	if a, b := bareTexts(list), bareTexts(from); a != b {
		t.Errorf("%q is read as %q", b, a)
	}
}

func bareTexts(list []impl.Token) string {
	var out []string
	for _, x := range list {
		if x.Kind != impl.TkSign || x.Text != "(" && x.Text != ")" {
			out = append(out, strconv.Quote(x.Text))
		}
	}
	return strings.Join(out, " ")
}

// Parts in any order make statements only by chance, but then they are read as such.
func TestRandomParts(t *testing.T) {
	random := rand.New(rand.NewSource(95))
	heads := []string{
		"create table t (", "create table t (a int,", "create view v as select a", "create view v as select a from t", "create index i on t (", "create unique index", "create type e as enum (", "create sequence s start", "create", "drop", "drop table", "alter table t",
		"alter table t add column a", "alter table t add column a int", "alter table t add constraint c", "alter table t alter column a", "alter table t add constraint c check (", "alter table t add constraint r foreign key (a)",
	}
	parts := strings.Split("table|type|index|view|unique|column|constraint|t|a|b|\"C\"|add|as|on|from|where|default|not null|not|null|set|drop|1|5|'x'|(|)|)|,|,|(a)|('x')|a int|b char(5)|int|text|check|unique (a)|primary key|key|references t (a)|=|is null|;|; drop table t|constraint c unique (a)|enum e", "|")
	read, refused := 0, 0
	for range 20000 {
		s := heads[random.Intn(len(heads))]
		for range random.Intn(6) {
			s += " " + parts[random.Intn(len(parts))]
		}
		list := tokensOf(t, s)
		for at := range list {
			if checkAgainstTexts(t, list, at) {
				x, next := impl.ParseStmt(list, at)
				checkReadAgain(t, x, list[at:next])
				read++
			} else if at == 0 {
				refused++
			}
		}
		want, bad := wantScript(s)
		checkScript(t, s, want, bad)
		if t.Failed() {
			t.FailNow()
		}
	}
	if read < 2000 || refused < 10000 {
		t.Error(read, refused)
	}
}

// What stands in the spare capacity of a list is no part of it, and stays as it is.
func TestParseArgumentsAreUnchanged(t *testing.T) {
	for _, x := range sampleStmts() {
		whole := slices.Concat(tokensOf(t, x.want), tokensOf(t, "not null default 1 where a , b ) ;"))
		before := slices.Clone(whole)
		for n := range len(whole) + 1 {
			exact := slices.Clip(slices.Clone(whole[:n]))
			for at := -1; at <= n+1; at++ {
				s, next := impl.ParseStmt(exact, at)
				checkRead(t, whole[:n], at, s, next)
				kind, next := impl.ParseType(exact, at)
				checkReadType(t, whole[:n], at, kind, next)
				c, next := impl.ParseCol(exact, at)
				checkReadCol(t, whole[:n], at, c, next)
				r, next := impl.ParseRule(exact, at)
				checkReadRule(t, whole[:n], at, r, next)
				if next > n || !slices.Equal(whole, before) {
					t.Fatalf("the argument became %s", shown(whole))
				}
			}
		}
	}
}

// grow appends to all the lists of a statement and throws the result away.
func grow(s impl.Stmt) {
	_, _, _, _ = append(s.List, "spare"), append(s.Cols, impl.Col{Name: "spare"}), append(s.Rules, impl.Rule{Name: "spare"}), append(s.Exprs, col("spare"))
	for _, x := range s.Cols {
		_ = append(x.Default, col("spare"))
	}
	for _, r := range s.Rules {
		_, _, _ = append(r.Cols, "spare"), append(r.To, "spare"), append(r.Expr, col("spare"))
	}
}

// spoil overwrites all the lists of a statement.
func spoil(s impl.Stmt) {
	for i := range s.Cols {
		overwrite(impl.Expr{Kids: s.Cols[i].Default})
		s.Cols[i] = impl.Col{Name: "spoilt"}
	}
	for i, r := range s.Rules {
		overwrite(impl.Expr{Kids: r.Expr})
		for _, list := range [][]string{r.Cols, r.To} {
			for j := range list[:cap(list)] {
				list[:cap(list)][j] = "spoilt"
			}
		}
		s.Rules[i] = impl.Rule{Name: "spoilt"}
	}
	overwrite(impl.Expr{Kids: s.Exprs})
	for i := range s.List[:cap(s.List)] {
		s.List[:cap(s.List)][i] = "spoilt"
	}
}

func TestParseResultsShareNoMemory(t *testing.T) {
	random := stmtMaker{rand.New(rand.NewSource(96))}
	var samples []impl.Stmt
	for _, x := range sampleStmts() {
		samples = append(samples, x.s)
	}
	for i := range 1500 {
		samples = append(samples, random.stmt(i%17))
	}
	for _, want := range samples {
		text := impl.PutStmt(want)
		if len(text) > impl.MaxText/2 {
			continue
		}
		list := tokensOf(t, text)
		first, _ := impl.ParseStmt(list, 0)
		second, _ := impl.ParseStmt(list, 0)
		script, _ := impl.ParseScript(text + ";" + text)
		if len(script) != 2 {
			t.Fatal(len(script), text)
		}
		results := []impl.Stmt{first, second, script[0], script[1]}
		var seen []string
		for i, s := range results {
			for _, x := range textsWithin(s) {
				if slices.ContainsFunc(list, func(y impl.Token) bool { return overlaps(x, y.Text) }) || overlaps(x, text) {
					t.Errorf("%q of %q shares memory with an argument", x, text)
				}
				if slices.ContainsFunc(seen, func(y string) bool { return overlaps(x, y) }) {
					t.Errorf("%q of %q shares memory with another text", x, text)
				}
				seen = append(seen, x)
			}
			grow(s)
			if !sameStmt(s, want) {
				t.Errorf("lists of %q share memory", text)
			}
			for _, other := range results[i:] {
				if !sameStmt(other, want) {
					t.Errorf("%q shares memory with another result", text)
				}
			}
			spoil(s)
		}
		checkRead(t, list, 0, want, len(list))
	}
}

func TestParsedTypesColumnsAndRulesShareNoMemory(t *testing.T) {
	list := tokensOf(t, "enum some_name x enum some_name default 'text' constraint r foreign key (first, second) references t (third, fourth) constraint c check (name = 'text')")
	given := func(s string) bool {
		return slices.ContainsFunc(list, func(x impl.Token) bool { return overlaps(s, x.Text) })
	}
	x, next := impl.ParseType(list, 0)
	if next != 2 || given(x.Name) {
		t.Error(x, next)
	}
	for range 2 {
		c, next := impl.ParseCol(list, 2)
		if next != 7 || slices.ContainsFunc(textsWithin(withCol(c)), given) {
			t.Error(c, next)
		}
		r, next := impl.ParseRule(list, 7)
		if next != 23 || slices.ContainsFunc(textsWithin(withRule(r)), given) {
			t.Error(r, next)
		}
		grow(withRule(r))
		checkReadRule(t, list, 7, r, 23)
		checkReadRule(t, list, 7, reference("r", []string{"first", "second"}, "t", "third", "fourth"), 23)
		e, next := impl.ParseRule(list, 23)
		if next != len(list) || len(e.Expr) != 1 || slices.ContainsFunc([]string{e.Name, e.Expr[0].Kids[0].Text, e.Expr[0].Kids[1].Text}, given) {
			t.Error(e, next)
		}
		spoil(withCol(c))
		spoil(withRule(r))
		spoil(withRule(e))
	}
}
