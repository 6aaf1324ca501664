package tests

import (
	"fmt"
	"math"
	"math/rand"
	"slices"
	"strings"
	"testing"

	"loop.example/g00751/impl"
)

func TestBtCodes(t *testing.T) {
	if got := []int{impl.BtOk, impl.BtPlan, impl.BtWords, impl.BtStmt}; !slices.Equal(got, []int{0, 1, 2, 3}) {
		t.Error(got)
	}
}

// checkRunAll holds what RunAll answers, the whole of it, against what is wanted.
func checkRunAll(t *testing.T, p impl.Plan, list []impl.Stmt, want impl.Plan, code int, at int, what ...any) {
	t.Helper()
	got, gotCode, gotAt := impl.RunAll(p, list)
	if gotCode != code || gotAt != at {
		t.Errorf("RunAll of %d statements: code %d at %d, want %d at %d: %.600s", len(list), gotCode, gotAt, code, at, fmt.Sprint(what...))
	}
	if !samePlan(got, want) {
		t.Errorf("RunAll of %.900s on %.2000s = %.2000s, want %.2000s: %.600s", fmt.Sprintf("%+v", list), fmt.Sprintf("%+v", p), fmt.Sprintf("%+v", got), fmt.Sprintf("%+v", want), fmt.Sprint(what...))
	}
}

func checkRun(t *testing.T, p impl.Plan, s string, want impl.Plan, code int, at int, what ...any) {
	t.Helper()
	got, gotCode, gotAt := impl.Run(p, s)
	if gotCode != code || gotAt != at {
		t.Errorf("Run of %.900q: code %d at %d, want %d at %d: %.600s", s, gotCode, gotAt, code, at, fmt.Sprint(what...))
	}
	if !samePlan(got, want) {
		t.Errorf("Run of %.900q on %.2000s = %.2000s, want %.2000s: %.600s", s, fmt.Sprintf("%+v", p), fmt.Sprintf("%+v", got), fmt.Sprintf("%+v", want), fmt.Sprint(what...))
	}
}

// batchByHand returns the plan, code and index as they are to be answered.
func batchByHand(p impl.Plan, list []impl.Stmt) (impl.Plan, int, int) {
	if len(planFaults(p)) > 0 {
		return impl.Plan{}, impl.ExArgs, -1
	}
	out := p
	for i, s := range list {
		next, word := execByHand(out, s)
		if word != "ok" {
			return p, slices.Index(exWords, word), i
		}
		out = next
	}
	return out, impl.ExOk, -1
}

func runByHand(p impl.Plan, s string) (impl.Plan, int, int) {
	if len(planFaults(p)) > 0 {
		return impl.Plan{}, impl.BtPlan, -1
	}
	list, bad := wantScript(s)
	if bad != -1 {
		return p, impl.BtWords, bad
	}
	out, code, at := batchByHand(p, list)
	if code != impl.ExOk {
		return p, impl.BtStmt, at*10 + code
	}
	return out, impl.BtOk, -1
}

func stmtsOf(t *testing.T, text string) []impl.Stmt {
	t.Helper()
	list, bad := impl.ParseScript(text)
	if bad != -1 {
		t.Fatalf("%q is no script: %d", text, bad)
	}
	return list
}

// checkBatch asks for a list, for its script, and for its script in other words; only valid statements have a script.
func checkBatch(t *testing.T, p impl.Plan, list []impl.Stmt, want impl.Plan, code int, at int, what ...any) {
	t.Helper()
	checkRunAll(t, p, list, want, code, at, what...)
	for i, s := range list {
		if len(stmtFaults(s)) > 0 {
			t.Errorf("statement %d is invalid: %.600s", i, fmt.Sprint(what...))
			return
		}
	}
	script := impl.Script(list)
	btCode, btAt := impl.BtOk, -1
	if code != impl.ExOk {
		btCode, btAt = impl.BtStmt, at*10+code
	}
	for _, text := range []string{script, strings.TrimSuffix(script, ";\n"), " ;-- ;\n" + script + "; ;", strings.ReplaceAll(script, ";\n", " ;; ;")} {
		checkRun(t, p, text, want, btCode, btAt, what...)
	}
}

func TestNoStatement(t *testing.T) {
	for _, p := range []impl.Plan{execPlan(), fullPlan(), {Next: 1}, {Next: 1000000000}} {
		checkRunAll(t, p, nil, p, impl.ExOk, -1)
		checkRunAll(t, p, []impl.Stmt{}, p, impl.ExOk, -1)
		for _, s := range []string{"", " ", "\n", " \t\r\n ", "-- nothing", "--\n--\n", ";", ";;", " ; ; ;\n", "-- ;\n;-- ;", "; -- drop view look\n;", "-- 'open", strings.Repeat(";", 20000), strings.Repeat(" ", 20000), "--" + strings.Repeat("!", 19998)} {
			checkRun(t, p, s, p, impl.BtOk, -1)
		}
	}
}

func TestBatchesOfTheStatementsThatAreExecuted(t *testing.T) {
	most := 0
	for _, x := range doneCases {
		want := execPlan()
		x.change(&want)
		list := stmtsOf(t, x.text)
		checkBatch(t, execPlan(), list, want, impl.ExOk, -1, x.text)
		most = max(most, len(list))
	}
	if most < 2 {
		t.Error(most)
	}
}

// padding makes enumerations and drops them again, so that it changes nothing.
func padding(n int) []impl.Stmt {
	var out []impl.Stmt
	for i := range n {
		e := labels("pad", "x")
		out = append(out, impl.Stmt{Kind: impl.StEnum, Name: e.Name, List: e.List}, impl.Stmt{Kind: impl.StDropEnum, Name: e.Name})
		if i%2 == 1 {
			out[2*i].Name, out[2*i+1].Name = "table", "table"
		}
	}
	return out
}

// Each refused statement stands first, in the middle, last and alone.
func TestEveryRefusalInBatches(t *testing.T) {
	met := map[string]int{}
	for _, x := range refusedCases {
		p, s := ahead(t, execPlan(), x.text)
		code := slices.Index(exWords, strings.Fields(x.codes)[0])
		for _, n := range []int{0, 1, 6} {
			for _, behind := range []int{0, 1, 5} {
				list := slices.Concat(padding(n), []impl.Stmt{s}, padding(behind))
				checkBatch(t, p, list, p, code, 2*n, x.text)
				met[fmt.Sprint(exWords[code], min(n, 1), min(behind, 1))]++
			}
		}
		// What stands ahead in the text is a part of the batch, and is not executed either.
		list := stmtsOf(t, x.text)
		checkBatch(t, execPlan(), list, execPlan(), code, len(list)-1, x.text)
	}
	if len(met) != 6*4 {
		t.Error(met)
	}
}

func invalidStmts(t *testing.T) []impl.Stmt {
	t.Helper()
	s := onlyStmt(t, "drop view look")
	s.Flag = true
	return []impl.Stmt{
		{}, s, {Kind: 17, Name: "look"}, {Kind: -1, Name: "look"}, {Kind: math.MaxInt, Name: "look"}, {Kind: math.MinInt, Name: "look"}, {Kind: impl.StDropView}, {Kind: impl.StDropView, Name: letters(41)},
		{Kind: impl.StEnum, Name: "e"}, {Kind: impl.StEnum, Name: "e", List: numbered(13)}, {Kind: impl.StAddCol, Name: "zone"}, {Kind: impl.StAddRule, Name: "zone"},
		{Kind: impl.StColDefault, Name: "zone", On: "x", Exprs: []impl.Expr{lit(1), lit(1)}}, withCol(impl.Col{Name: "c", Default: []impl.Expr{lit(-1)}}), {Kind: impl.StSeq, Name: "s", Num: 1000000000},
	}
}

func TestInvalidStatementsInBatches(t *testing.T) {
	for i, s := range invalidStmts(t) {
		for _, n := range []int{0, 1, 7} {
			for _, behind := range []int{0, 1, 7} {
				list := slices.Concat(padding(n), []impl.Stmt{s}, padding(behind))
				checkRunAll(t, execPlan(), list, execPlan(), impl.ExArgs, 2*n, i)
				checkRunAll(t, impl.Plan{Next: 1}, list, impl.Plan{Next: 1}, impl.ExArgs, 2*n, i)
			}
		}
		changes := stmtsOf(t, "drop view look; create table new (); drop sequence last")
		checkRunAll(t, execPlan(), append(changes, s), execPlan(), impl.ExArgs, 3, i)
	}
}

// oneOfEach has a statement for each code that a script can be answered with, for execPlan.
var oneOfEach = map[int]string{
	impl.ExThere: "create table item ()", impl.ExNone: "drop view none", impl.ExPart: "alter table zone drop column none",
	impl.ExUse: "drop type mood", impl.ExTurn: "alter table zone alter column x type bool", impl.ExBad: "alter table zone alter column x type text",
}

func TestFirstRefusedStatementTells(t *testing.T) {
	texts := map[int]impl.Stmt{impl.ExArgs: {}}
	for code, text := range oneOfEach {
		texts[code] = onlyStmt(t, text)
	}
	if len(texts) != 7 {
		t.Error(texts)
	}
	for first, a := range texts {
		for second, b := range texts {
			for _, n := range []int{0, 3} {
				for _, between := range []int{0, 2} {
					list := slices.Concat(padding(n), []impl.Stmt{a}, padding(between), []impl.Stmt{b}, padding(1))
					if first == impl.ExArgs || second == impl.ExArgs {
						checkRunAll(t, execPlan(), list, execPlan(), first, 2*n, first, second)
					} else {
						checkBatch(t, execPlan(), list, execPlan(), first, 2*n, first, second)
					}
				}
			}
		}
	}
}

// oneAfterTheOther has pairs of statements for execPlan: the codes of the second by itself, and behind the first.
var oneAfterTheOther = []struct {
	first, second string
	alone, behind int
}{
	{"create type e as enum ('x')", "create table new (a enum e)", impl.ExBad, impl.ExOk},
	{"create type e as enum ('x')", "drop type e", impl.ExNone, impl.ExOk},
	{"create sequence s start 1", "drop sequence s", impl.ExNone, impl.ExOk},
	{"create table new (a int)", "create index i on new (a)", impl.ExNone, impl.ExOk},
	{"create table new (a int)", "create view v as select a from new", impl.ExNone, impl.ExOk},
	{"create table new (a int)", "alter table new add column b int", impl.ExNone, impl.ExOk},
	{"create table new (a int)", "drop table new", impl.ExNone, impl.ExOk},
	{"create table new (a int, constraint k unique (a))", "create table other (a int, constraint r foreign key (a) references new (a))", impl.ExBad, impl.ExOk},
	{"alter table void add column a int", "alter table void add constraint k check (a > 1)", impl.ExBad, impl.ExOk},
	{"alter table void add column a int", "alter table void alter column a type text", impl.ExPart, impl.ExOk},
	{"alter table void add column a int", "alter table void drop column a", impl.ExPart, impl.ExOk},
	{"alter table zone alter column x set not null", "alter table zone add constraint k primary key (x)", impl.ExBad, impl.ExOk},
	{"alter table zone alter column both type text", "alter table zone alter column both type enum mood", impl.ExTurn, impl.ExOk},
	{"alter table zone add constraint twin unique (x)", "alter table zone drop constraint both", impl.ExUse, impl.ExOk},
	{"alter table zone drop constraint up", "alter table zone drop column y", impl.ExUse, impl.ExOk},
	{"drop view zoom", "drop table zone", impl.ExUse, impl.ExOk},
	{"drop view zoom", "alter table zone drop column rev", impl.ExUse, impl.ExOk},
	{"drop view look", "create table look ()", impl.ExThere, impl.ExOk},
	{"drop index one", "create sequence one start 1", impl.ExThere, impl.ExOk},
	{"drop type void", "create type void as enum ('y')", impl.ExThere, impl.ExOk},
	{"drop type void", "alter table zone add column v enum void", impl.ExOk, impl.ExBad},
	{"drop type void", "drop type void", impl.ExOk, impl.ExNone},
	{"drop sequence last", "drop sequence last", impl.ExOk, impl.ExNone},
	{"drop table void", "alter table void add column a int", impl.ExOk, impl.ExNone},
	{"drop table void", "drop table void", impl.ExOk, impl.ExNone},
	{"create table new ()", "create table new ()", impl.ExOk, impl.ExThere},
	{"create table new ()", "create view new as select x from zone", impl.ExOk, impl.ExThere},
	{"alter table void add column a int", "alter table void add column a text", impl.ExOk, impl.ExThere},
	{"alter table zone drop column both", "alter table zone alter column both type text", impl.ExOk, impl.ExPart},
	{"alter table zone drop constraint rev", "alter table zone drop constraint rev", impl.ExOk, impl.ExPart},
	{"create table new (a enum void)", "drop type void", impl.ExOk, impl.ExUse},
	{"create view v as select both from zone", "alter table zone drop column both", impl.ExOk, impl.ExUse},
	{"alter table zone alter column both drop not null", "alter table zone add constraint k primary key (both)", impl.ExOk, impl.ExBad},
	{"alter table zone alter column both type text", "alter table zone alter column both type int", impl.ExOk, impl.ExTurn},
	{"alter table zone alter column rev type text", "alter table zone alter column rev set default 'huge'", impl.ExBad, impl.ExOk},
	{"drop view zoom", "drop view zoom", impl.ExOk, impl.ExNone},
}

func TestStatementsThatAnEarlierOneDecidesAbout(t *testing.T) {
	made, spoilt := map[int]int{}, map[int]int{}
	for _, x := range oneAfterTheOther {
		p := execPlan()
		first, second := onlyStmt(t, x.first), onlyStmt(t, x.second)
		want, word := execByHand(p, first)
		if word != "ok" {
			t.Fatalf("%q is answered with %s", x.first, word)
		}
		both, _ := execByHand(want, second)
		alone, _ := execByHand(p, second)
		checkBatch(t, p, []impl.Stmt{first}, want, impl.ExOk, -1, x.first)
		if x.alone == impl.ExOk {
			checkBatch(t, p, []impl.Stmt{second}, alone, impl.ExOk, -1, x.second)
			checkBatch(t, p, []impl.Stmt{first, second}, p, x.behind, 1, x.first, x.second)
			checkBatch(t, p, slices.Concat(padding(5), []impl.Stmt{first}, padding(2), []impl.Stmt{second}), p, x.behind, 15, x.first, x.second)
			spoilt[x.behind]++
		} else {
			checkBatch(t, p, []impl.Stmt{second}, p, x.alone, 0, x.second)
			checkBatch(t, p, []impl.Stmt{second, first}, p, x.alone, 0, x.second, x.first)
			checkBatch(t, p, []impl.Stmt{first, second}, both, impl.ExOk, -1, x.first, x.second)
			checkBatch(t, p, slices.Concat(padding(5), []impl.Stmt{first}, padding(2), []impl.Stmt{second}, padding(1)), both, impl.ExOk, -1, x.first, x.second)
			made[x.alone]++
		}
		if (x.alone == impl.ExOk) == (x.behind == impl.ExOk) {
			t.Error("one of both is wanted:", x)
		}
	}
	if len(made) != 6 || len(spoilt) != 6 {
		t.Error(made, spoilt)
	}
}

func TestInvalidPlansInBatches(t *testing.T) {
	lists := [][]impl.Stmt{nil, {}, {{}}, stmtsOf(t, "drop view peek"), stmtsOf(t, "create table new (); drop table new"), stmtsOf(t, "drop view none"), append(stmtsOf(t, "drop view peek"), impl.Stmt{})}
	texts := []string{"", " ", ";", "drop view peek", "drop view none", "create table new (); drop table new;", "junk", "'", "drop view peek; junk", "drop view peek; '", strings.Repeat(" ", 20001), "drop view peek; drop view peek"}
	check := func(p impl.Plan, what ...any) {
		for _, list := range lists {
			checkRunAll(t, p, list, impl.Plan{}, impl.ExArgs, -1, what...)
		}
		for _, s := range texts {
			checkRun(t, p, s, impl.Plan{}, impl.BtPlan, -1, what...)
		}
	}
	check(impl.Plan{}, "the zero Plan")
	check(impl.Plan{Next: -1})
	check(impl.Plan{Next: 1000000001})
	for i, x := range brokenPlans {
		check(edited(x.change), "invalid plan ", i)
	}
	// What would repair a plan is not executed.
	broken := edited(func(p *impl.Plan) { p.Views[1].Cols = []string{"none"} })
	checkRunAll(t, broken, stmtsOf(t, "drop view peek"), impl.Plan{}, impl.ExArgs, -1)
	checkRun(t, broken, "drop view peek", impl.Plan{}, impl.BtPlan, -1)
}

// longBatch changes every list of execPlan, several of them in more than one element, and Next.
const longBatch = `
	create type e as enum ('x'); create type a as enum ('y', 'z'); drop type void; create sequence a start 1; drop sequence last; drop sequence counter; create sequence zz start 2;
	create table new (a int not null, b enum e, constraint k primary key (a)); create table z (a int, constraint r foreign key (a) references new (a)); create table gone (); drop table gone; drop table void;
	alter table new add column c char(4) default 'abcd'; alter table new alter column b set not null; alter table new alter column b type text; alter table new alter column b set default 'b';
	alter table item add constraint zz check (a > 0); alter table zone drop constraint rev; alter table zone drop column both; drop index by; drop index one; create index by on new (c, a); create unique index z1 on z (a);
	drop view zoom; alter table zone drop column rev; drop view look; create view a1 as select a, b from new where b <> 'x'; drop view peek`

func TestLongBatches(t *testing.T) {
	list := stmtsOf(t, longBatch)
	p := execPlan()
	want, code, at := batchByHand(p, list)
	if code != impl.ExOk || len(list) < 25 {
		t.Fatalf("%d statements, code %d at %d", len(list), code, at)
	}
	checkBatch(t, p, list, want, impl.ExOk, -1)
	checkRun(t, p, longBatch, want, impl.BtOk, -1)
	if want.Next != p.Next+3 || samePlan(p, want) {
		t.Error(want.Next)
	}
	for i, names := range namesIn(p) {
		if slices.Equal(names, namesIn(want)[i]) {
			t.Errorf("list %d is the same: %q", i, names)
		}
	}
	for code, last := range oneOfEach {
		batch := append(slices.Clone(list), onlyStmt(t, last))
		checkBatch(t, p, batch, p, code, len(list), last)
		checkRun(t, p, longBatch+";"+last, p, impl.BtStmt, len(list)*10+code, last)
		checkBatch(t, p, append(batch, list...), p, code, len(list), last)
	}
	checkRunAll(t, p, append(slices.Clone(list), impl.Stmt{}), p, impl.ExArgs, len(list))
	checkRun(t, p, longBatch+"; junk", p, impl.BtWords, len(longBatch)+2)
	// Executed a second time, it does not get beyond its first statement.
	checkBatch(t, want, list, want, impl.ExThere, 0)
	checkBatch(t, p, slices.Concat(list, list), p, impl.ExThere, len(list))
}

func TestTokensOfBatches(t *testing.T) {
	three := stmtsOf(t, "create table b (); create table a (); create table c ()")
	for _, next := range []int{1, 7, 999999997} {
		want := impl.Plan{Tables: []impl.Table{{Name: "a", Token: next + 1}, {Name: "b", Token: next}, {Name: "c", Token: next + 2}}, Next: next + 3}
		checkBatch(t, impl.Plan{Next: next}, three, want, impl.ExOk, -1, next)
	}
	for i, next := range []int{1000000000, 999999999, 999999998} {
		checkBatch(t, impl.Plan{Next: next}, three, impl.Plan{Next: next}, impl.ExBad, i, next)
	}
	checkBatch(t, impl.Plan{Next: 5}, stmtsOf(t, "create table a (); drop table a; create table a (); drop table a"), impl.Plan{Next: 7}, impl.ExOk, -1)
	checkBatch(t, impl.Plan{Next: 5}, stmtsOf(t, "create table a (); drop table a; create table a (); drop table a; drop table a"), impl.Plan{Next: 5}, impl.ExNone, 4)
}

func TestCombinedNumbers(t *testing.T) {
	for code, text := range oneOfEach {
		for _, n := range []int{0, 1, 9, 10, 11, 99, 100, 101, 900} {
			for _, behind := range []string{"", ";", "; drop view none", "; create sequence new start 1; drop sequence last"} {
				ahead := strings.Repeat("create type e as enum ('x');drop type e;", n/2)
				if n%2 == 1 {
					ahead = "drop sequence last;" + ahead
				}
				checkRun(t, execPlan(), ahead+text+behind, execPlan(), impl.BtStmt, n*10+code, n)
				list := stmtsOf(t, ahead+text+behind)
				checkRunAll(t, execPlan(), list, execPlan(), code, n)
				if _, got, at := impl.RunAll(execPlan(), list); got != code || at != n || at*10+got != n*10+code {
					t.Error(code, n, got, at)
				}
			}
		}
	}
}

func TestTextsThatCannotBeParsed(t *testing.T) {
	const good = "drop view look; create table new (); drop sequence last;"
	for _, x := range []struct {
		s  string
		at int
	}{
		{"'", 0}, {"!", 0}, {" \"open", 1}, {"drop view look'", 14}, {"007", 0}, {"create sequence a start 1a", 24}, {"\"\"", 0}, {"drop \x00", 5},
		{"junk", 0}, {" junk", 1}, {"drop", 0}, {"drop view", 0}, {"drop view look look", 0}, {"drop view look,", 0}, {"; drop view table;", 2}, {"create table new (", 0}, {"create table new () drop view look", 0},
		{"create sequence a start 1000000000", 24}, {"create type e as enum ()", 0}, {"drop view none; junk", 16}, {"junk; drop view none", 0}, {"drop view none; 'open", 16}, {"junk; 'open", 6}, {"-- note\n junk", 9},
		{strings.Repeat(" ", 20001), 20000}, {"drop view none" + strings.Repeat(" ", 20000), 20000}, {"'" + strings.Repeat(" ", 20000), 20000}, {"junk" + strings.Repeat(";", 19997), 20000}, {"junk" + strings.Repeat(";", 19996), 0},
	} {
		for _, p := range []impl.Plan{execPlan(), {Next: 1}} {
			checkRun(t, p, x.s, p, impl.BtWords, x.at)
			if _, at := impl.ParseScript(x.s); at != x.at {
				t.Errorf("ParseScript(%.100q) returns %d, not %d", x.s, at, x.at)
			}
		}
		// The first statements of the text could be executed, or the last ones.
		if x.at < 20000 && len(x.s) < 20000 {
			checkRun(t, execPlan(), good+x.s, execPlan(), impl.BtWords, len(good)+x.at)
			if !strings.Contains(x.s, "'") && !strings.Contains(x.s, "\"open") {
				checkRun(t, execPlan(), x.s+";"+good, execPlan(), impl.BtWords, x.at)
				checkRun(t, execPlan(), good+x.s+";"+good, execPlan(), impl.BtWords, len(good)+x.at)
			}
		}
	}
	long := good + strings.Repeat(" ", 20000-len(good))
	want, _, _ := runByHand(execPlan(), good)
	checkRun(t, execPlan(), long, want, impl.BtOk, -1)
	checkRun(t, execPlan(), long+" ", execPlan(), impl.BtWords, 20000)
	checkRun(t, execPlan(), long+";", execPlan(), impl.BtWords, 20000)
}

// checkInTwo holds a script of two texts against the one and then the other. The first one ends with a mark.
func checkInTwo(t *testing.T, p impl.Plan, first string, second string) string {
	t.Helper()
	both, code, at := impl.Run(p, first+second)
	_, bad := impl.ParseScript(first + second)
	q, code1, at1 := impl.Run(p, first)
	r, code2, at2 := impl.Run(q, second)
	length := len(stmtsOf(t, first))
	switch {
	case bad != -1:
		if code != impl.BtWords || at != bad || !samePlan(both, p) {
			t.Errorf("%q and %q: code %d at %d", first, second, code, at)
		}
		return "words"
	case code1 == impl.BtStmt:
		if code != impl.BtStmt || at != at1 || !samePlan(both, p) || !samePlan(q, p) {
			t.Errorf("%q and %q: code %d at %d, and %d at %d", first, second, code, at, code1, at1)
		}
		return "first"
	case code2 == impl.BtStmt:
		if code != impl.BtStmt || at != at2+10*length || !samePlan(both, p) || !samePlan(r, q) {
			t.Errorf("%q and %q: code %d at %d, and %d at %d", first, second, code, at, code2, at2)
		}
		return "second"
	}
	if code != impl.BtOk || at != -1 || code1 != impl.BtOk || code2 != impl.BtOk || !samePlan(both, r) {
		t.Errorf("%q and %q: codes %d, %d, %d: %.2000s, not %.2000s", first, second, code, code1, code2, fmt.Sprintf("%+v", both), fmt.Sprintf("%+v", r))
	}
	return "ok"
}

func TestTwoScriptsAndTheirConcatenation(t *testing.T) {
	met := map[string]int{}
	list := stmtsOf(t, longBatch)
	for i := range len(list) + 1 {
		met[checkInTwo(t, execPlan(), impl.Script(list[:i]), impl.Script(list[i:]))+"long"]++
	}
	for _, x := range oneAfterTheOther {
		for _, second := range []string{x.second, x.second + "; " + x.first, x.first, "junk", "'", ""} {
			met[checkInTwo(t, execPlan(), x.first+";", second)]++
			met[checkInTwo(t, execPlan(), x.second+";", second)]++
		}
	}
	if len(met) != 5 || met["oklong"] != len(list)+1 {
		t.Error(met)
	}
}

// scriptMaker makes lists of statements that follow what the ones ahead of them have done.
type scriptMaker struct {
	execMaker
}

// list ends with a statement that is refused, if the given number is reached by chance before the end.
func (r scriptMaker) list(p impl.Plan, n int) []impl.Stmt {
	var out []impl.Stmt
	for len(out) < n {
		s := r.stmtOn(p, r.Intn(17))
		next, word := execByHand(p, s)
		if word == "ok" || r.Intn(12) == 0 {
			out = append(out, s)
			p = next
		}
	}
	return out
}

func TestRandomBatches(t *testing.T) {
	met := map[string]int{}
	random := scriptMaker{execMaker{stmtMaker{rand.New(rand.NewSource(110))}}}
	breaker := stmtBreaker{random.stmtMaker}
	for i, p := range somePlans(t, 400) {
		list := random.list(p, random.Intn(9))
		want, code, at := batchByHand(p, list)
		checkBatch(t, p, list, want, code, at, "plan ", i)
		checkPlan(t, want, true, "plan ", i)
		for n := range len(list) + 1 {
			part := checkInTwo(t, p, impl.Script(list[:n]), impl.Script(list[n:]))
			met[part]++
		}
		met[exWords[code]]++
		met[fmt.Sprint("at", min(at, 3))]++
		if len(list) > 0 {
			breaker.change(&list[random.Intn(len(list))])
			want, code, at = batchByHand(p, list)
			checkRunAll(t, p, list, want, code, at, "plan ", i)
			met["broken"+exWords[code]]++
			planBreaker{random.Rand}.change(&p)
			want, code, at = batchByHand(p, list)
			checkRunAll(t, p, list, want, code, at, "plan ", i)
			met["plan"+exWords[code]]++
		}
		if t.Failed() {
			t.FailNow()
		}
	}
	for what, least := range map[string]int{
		"ok": 200, "there": 5, "none": 20, "part": 5, "use": 5, "bad": 5, "at0": 10, "at1": 10, "at2": 5, "at3": 5, "at-1": 200, "first": 200, "second": 100, "brokenargs": 100, "brokenok": 5, "planargs": 100,
	} {
		if met[what] < least {
			t.Errorf("%s %d times", what, met[what])
		}
	}
}

// A list is executed up to its last statement if and only if RunAll answers ExOk.
func TestBatchesAndExec(t *testing.T) {
	random := scriptMaker{execMaker{stmtMaker{rand.New(rand.NewSource(111))}}}
	met := map[int]int{}
	for i, p := range somePlans(t, 300) {
		list := random.list(p, 2+random.Intn(12))
		out, code, at := impl.RunAll(p, list)
		met[code]++
		done := len(list)
		if code != impl.ExOk {
			done = at
		}
		q := p
		for _, s := range list[:done] {
			next, got := impl.Exec(q, s)
			if got != impl.ExOk {
				t.Errorf("plan %d: %d ahead of %d: %s", i, got, done, impl.PutStmt(s))
			}
			q = next
		}
		checkRunAll(t, p, list[:done], q, impl.ExOk, -1, i)
		if code != impl.ExOk {
			if _, got := impl.Exec(q, list[at]); got != code {
				t.Errorf("plan %d: %d, not %d", i, got, code)
			}
			q = p
		}
		if !samePlan(out, q) {
			t.Errorf("plan %d: %.2000s, not %.2000s", i, fmt.Sprintf("%+v", out), fmt.Sprintf("%+v", q))
		}
	}
	if len(met) < 6 {
		t.Error(met)
	}
}

func TestRandomTextsRun(t *testing.T) {
	met := map[int]int{}
	random := scriptMaker{execMaker{stmtMaker{rand.New(rand.NewSource(112))}}}
	tokens := tokenBreaker{random.stmtMaker, oddTokens()}
	for i, p := range somePlans(t, 300) {
		list := tokensOf(t, impl.Script(random.list(p, 1+random.Intn(5))))
		for n := range 4 {
			text := dressed(random.Rand, list)
			want, code, at := runByHand(p, text)
			checkRun(t, p, text, want, code, at, "plan ", i)
			met[code]++
			if n == 0 {
				text = text[:random.Intn(len(text))]
				want, code, at = runByHand(p, text)
				checkRun(t, p, text, want, code, at, "plan ", i)
			}
			list = tokens.change(list, list)
		}
		if t.Failed() {
			t.FailNow()
		}
	}
	if met[impl.BtOk] < 100 || met[impl.BtWords] < 200 || met[impl.BtStmt] < 50 {
		t.Error(met)
	}
}

func TestEmpty(t *testing.T) {
	for _, x := range []struct{ next, want int }{
		{1, 1}, {2, 2}, {9, 9}, {10, 10}, {1000, 1000}, {123456789, 123456789}, {999999999, 999999999}, {1000000000, 1000000000},
		{0, 0}, {-1, 0}, {-2, 0}, {-1000000000, 0}, {1000000001, 0}, {1000000002, 0}, {2000000000, 0}, {math.MaxInt, 0}, {math.MinInt, 0}, {math.MaxInt32, 0}, {math.MinInt32, 0}, {1 << 32, 0}, {1<<32 + 1, 0}, {math.MinInt + 1, 0},
	} {
		if got := impl.Empty(x.next); !samePlan(got, impl.Plan{Next: x.want}) {
			t.Errorf("Empty(%d) = %+v", x.next, got)
		} else {
			checkPlan(t, got, x.want > 0, x.next)
		}
	}
	for i := range 3000 {
		next := rand.New(rand.NewSource(int64(i))).Intn(3000000000) - 1000000000
		want := impl.Plan{}
		if next > 0 && next <= 1000000000 {
			want.Next = next
		}
		if got := impl.Empty(next); !samePlan(got, want) {
			t.Errorf("Empty(%d) = %+v", next, got)
		}
	}
}

// batchInputs returns plans with lists that are executed and refused, by every code.
func batchInputs(t *testing.T) (plans []impl.Plan, lists [][]impl.Stmt) {
	t.Helper()
	add := func(p impl.Plan, list []impl.Stmt) { plans, lists = append(plans, p), append(lists, list) }
	add(execPlan(), nil)
	add(execPlan(), stmtsOf(t, longBatch))
	for _, x := range doneCases {
		add(execPlan(), stmtsOf(t, x.text))
	}
	for _, x := range refusedCases {
		add(execPlan(), append(padding(1), stmtsOf(t, x.text)...))
	}
	for code := range oneOfEach {
		add(execPlan(), append(stmtsOf(t, longBatch), onlyStmt(t, oneOfEach[code])))
	}
	random := scriptMaker{execMaker{stmtMaker{rand.New(rand.NewSource(113))}}}
	for _, p := range somePlans(t, 60) {
		list := random.list(p, random.Intn(9))
		add(p, list)
		add(p, append(slices.Clone(list), random.stmt(random.Intn(17))))
	}
	for _, s := range invalidStmts(t) {
		add(execPlan(), []impl.Stmt{s})
	}
	for _, x := range brokenPlans {
		add(edited(x.change), stmtsOf(t, "drop view peek"))
	}
	return plans, lists
}

var batchTexts = []string{"", "create table new (a int default 1); drop view peek; drop view look", "create table new (a int); drop view none", "drop view look; junk"}

func roomyStmts(list []impl.Stmt) []impl.Stmt {
	out := roomyList(list, impl.Stmt{Kind: impl.StDropView, Name: "none"})
	for i, s := range out {
		out[i] = roomyStmt(s)
	}
	return out
}

func wholeBatch(p impl.Plan, list []impl.Stmt) string {
	text := wholeExec(p, impl.Stmt{})
	for _, s := range list[:cap(list)] {
		text += wholeStmt(s)
	}
	return text
}

// The spare capacity of a list is no part of it, and nothing is written there.
func TestBatchArgumentsAreUnchanged(t *testing.T) {
	plans, lists := batchInputs(t)
	met := map[int]int{}
	for i := range plans {
		p, list := roomyPlan(plans[i]), roomyStmts(lists[i])
		want, code, at := batchByHand(plans[i], lists[i])
		before := wholeBatch(p, list)
		checkRunAll(t, p, list, want, code, at, "with spare capacity")
		for _, text := range batchTexts {
			want, code, at := runByHand(plans[i], text)
			checkRun(t, p, text, want, code, at, "with spare capacity")
		}
		if after := wholeBatch(p, list); after != before {
			t.Fatalf("%s became %s", before, after)
		}
		met[code]++
	}
	if len(met) != 8 {
		t.Error(met)
	}
}

func TestBatchesWithNilAndEmptyLists(t *testing.T) {
	plans, lists := batchInputs(t)
	for i, p := range plans {
		want, code, at := batchByHand(p, lists[i])
		for _, empty := range []bool{false, true} {
			list := slices.Clone(lists[i])
			for j, s := range list {
				list[j] = filledStmt(s, empty)
			}
			checkRunAll(t, filledIn(p, empty), list, want, code, at, empty)
			checkRunAll(t, filledIn(p, !empty), list, want, code, at, empty)
		}
	}
}

func TestBatchResultsShareNoMemory(t *testing.T) {
	plans, lists := batchInputs(t)
	for i := range plans {
		p, list := roomyPlan(plans[i]), roomyStmts(lists[i])
		want, code, at := batchByHand(plans[i], lists[i])
		first, _, _ := impl.RunAll(p, list)
		second, _, _ := impl.RunAll(p, list)
		args, results := []any{p, list}, []any{first, second}
		wants := []impl.Plan{want, want}
		for _, text := range batchTexts {
			text = strings.Clone(text)
			out, _, _ := impl.Run(p, text)
			want, _, _ := runByHand(plans[i], text)
			args, results, wants = append(args, text), append(results, out), append(wants, want)
		}
		checkApart(t, args, results...)
		before := wholeBatch(p, list)
		spoilPlan(first)
		if after := wholeBatch(p, list); after != before {
			t.Fatalf("%s became %s", before, after)
		}
		checkRunAll(t, p, list, want, code, at, "a second time")
		spoilPlan(p)
		for _, s := range list {
			spoil(s)
		}
		clear(list[:cap(list)])
		for j, x := range results[1:] {
			if got := x.(impl.Plan); !samePlan(got, wants[j+1]) {
				t.Fatalf("result %d: %+v became %+v", j+1, wants[j+1], got)
			}
		}
		if t.Failed() {
			t.FailNow()
		}
	}
	one, two := impl.Empty(5), impl.Empty(5)
	checkApart(t, nil, one, two)
}

// Every call ends, also for expressions that contain themselves.
func TestBatchesOfEndlessArguments(t *testing.T) {
	valid := stmtsOf(t, "drop view look")
	for i, e := range endlessExprs() {
		endless := []impl.Stmt{
			{Kind: impl.StColDefault, Name: "item", On: "a", Exprs: []impl.Expr{e}}, withCol(impl.Col{Name: "c", Default: []impl.Expr{e}}), withRule(condition("c", e)),
			{Kind: impl.StView, Name: "v", On: "item", List: []string{"a"}, Exprs: []impl.Expr{e}},
		}
		for j, change := range []func(p *impl.Plan){
			func(p *impl.Plan) { p.Tables[0].Cols[3].Default[0] = e },
			func(p *impl.Plan) { p.Tables[0].Rules[0].Expr[0] = e },
			func(p *impl.Plan) { p.Views[0].Where[0] = e },
		} {
			for _, list := range [][]impl.Stmt{nil, valid, endless} {
				if got, code, at := impl.RunAll(edited(change), list); code != impl.ExArgs || at != -1 || !samePlan(got, impl.Plan{}) {
					t.Error("plan", i, j, code, at)
				}
			}
			if got, code, at := impl.Run(edited(change), "drop view look"); code != impl.BtPlan || at != -1 || !samePlan(got, impl.Plan{}) {
				t.Error("plan", i, j, code, at)
			}
		}
		for j, s := range endless {
			if got, code, at := impl.RunAll(execPlan(), []impl.Stmt{valid[0], s, valid[0]}); code != impl.ExArgs || at != 1 || !samePlan(got, execPlan()) {
				t.Error("statement", i, j, code, at)
			}
		}
	}
}

func TestBatchesOfLargeArguments(t *testing.T) {
	list := slices.Repeat(padding(1), 2000)
	checkRunAll(t, impl.Plan{Next: 1}, list, impl.Plan{Next: 1}, impl.ExOk, -1)
	checkRunAll(t, impl.Plan{Next: 1}, append(list, impl.Stmt{}), impl.Plan{Next: 1}, impl.ExArgs, 4000)
	checkRunAll(t, impl.Plan{Next: 1}, make([]impl.Stmt, 1<<20), impl.Plan{Next: 1}, impl.ExArgs, 0)
	checkRunAll(t, impl.Plan{}, make([]impl.Stmt, 1<<20), impl.Plan{}, impl.ExArgs, -1)
	many := numbered(200000)
	for i, change := range []func(p *impl.Plan){
		func(p *impl.Plan) { namedLists[0].fill(p, many) },
		func(p *impl.Plan) { p.Indexes[0].Cols = many },
	} {
		checkRunAll(t, edited(change), list, impl.Plan{}, impl.ExArgs, -1, i)
		checkRun(t, edited(change), "", impl.Plan{}, impl.BtPlan, -1, i)
	}
	checkRunAll(t, execPlan(), append(padding(1), impl.Stmt{Kind: impl.StEnum, Name: "e", List: many}), execPlan(), impl.ExArgs, 2)
	for _, s := range []string{strings.Repeat("drop view look;", 100000), strings.Repeat("'", 1<<20), strings.Repeat("\x00", 1<<20)} {
		_, at := impl.Lex(s)
		checkRun(t, execPlan(), s, execPlan(), impl.BtWords, at)
	}
}
