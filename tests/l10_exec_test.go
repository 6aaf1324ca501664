package tests

import (
	"cmp"
	"fmt"
	"math/rand"
	"reflect"
	"slices"
	"strings"
	"testing"
	"unsafe"

	"loop.example/g00751/impl"
)

// exWords has a word for each code, in order.
var exWords = strings.Fields("ok args there none part use turn bad")

func TestExCodes(t *testing.T) {
	got := []int{impl.ExOk, impl.ExArgs, impl.ExThere, impl.ExNone, impl.ExPart, impl.ExUse, impl.ExTurn, impl.ExBad}
	if !slices.Equal(got, []int{0, 1, 2, 3, 4, 5, 6, 7}) || len(exWords) != 8 {
		t.Error(got, exWords)
	}
}

func sameLabels(a, b impl.Labels) bool {
	return a.Name == b.Name && slices.Equal(a.List, b.List)
}

func sameTable(a, b impl.Table) bool {
	return a.Name == b.Name && a.Token == b.Token && slices.EqualFunc(a.Cols, b.Cols, sameCol) && slices.EqualFunc(a.Rules, b.Rules, sameRule)
}

func sameIndex(a, b impl.Index) bool {
	return a.Name == b.Name && a.Table == b.Table && a.Unique == b.Unique && slices.Equal(a.Cols, b.Cols)
}

func sameView(a, b impl.View) bool {
	return a.Name == b.Name && a.Table == b.Table && slices.Equal(a.Cols, b.Cols) && slices.EqualFunc(a.Where, b.Where, sameExpr)
}

// samePlan asks for the Tokens and Next as well.
func samePlan(a, b impl.Plan) bool {
	return slices.EqualFunc(a.Enums, b.Enums, sameLabels) && slices.Equal(a.Seqs, b.Seqs) && slices.EqualFunc(a.Tables, b.Tables, sameTable) &&
		slices.EqualFunc(a.Indexes, b.Indexes, sameIndex) && slices.EqualFunc(a.Views, b.Views, sameView) && a.Next == b.Next
}

func TestSamePlanSeesEveryField(t *testing.T) {
	for i, x := range brokenPlans {
		if p := edited(x.change); samePlan(p, fullPlan()) || !samePlan(p, filledIn(p, true)) {
			t.Error(i, x.word)
		}
	}
	if samePlan(fullPlan(), edited(func(p *impl.Plan) { p.Indexes[0].Unique = true })) {
		t.Error("unique")
	}
}

// checkExec holds what Exec answers, the whole of it, against what is wanted.
func checkExec(t *testing.T, p impl.Plan, s impl.Stmt, want impl.Plan, code int, what ...any) {
	t.Helper()
	got, gotCode := impl.Exec(p, s)
	if gotCode != code {
		t.Errorf("Exec of %.600s: code %d, want %d: %.600s", fmt.Sprintf("%+v", s), gotCode, code, fmt.Sprint(what...))
	}
	if !samePlan(got, want) {
		t.Errorf("Exec of %.600s on %.2000s = %.2000s, want %.2000s: %.600s", fmt.Sprintf("%+v", s), fmt.Sprintf("%+v", p), fmt.Sprintf("%+v", got), fmt.Sprintf("%+v", want), fmt.Sprint(what...))
	}
}

// execPlan is fullPlan with a table whose columns and rules have names in common: of both, the rule is used, of rev the
// column. Its reference to itself is its only one. The enumeration void, which has the name of a table, is not used.
func execPlan() impl.Plan {
	return edited(func(p *impl.Plan) {
		p.Enums = append(p.Enums, labels("void", "sad"))
		p.Tables = append(p.Tables, impl.Table{Name: "zone", Token: 3, Cols: []impl.Col{
			{Name: "both", NotNull: true}, {Name: "rev", Type: enum("size"), Default: []impl.Expr{quoted("big")}}, {Name: "x"}, {Name: "y"},
		}, Rules: []impl.Rule{
			key(impl.RuUnique, "both", "x"), condition("rev", op(impl.EpTrue)), reference("up", []string{"y"}, "zone", "x"),
		}})
		p.Views = append(p.Views, impl.View{Name: "zoom", Table: "zone", Cols: []string{"x"}, Where: []impl.Expr{op(impl.EpEq, col("rev"), quoted("big"))}})
	})
}

// ahead executes all the statements of a text but the last one, which it returns.
func ahead(t *testing.T, p impl.Plan, text string) (impl.Plan, impl.Stmt) {
	t.Helper()
	list, bad := impl.ParseScript(text)
	if bad != -1 || len(list) == 0 {
		t.Fatalf("%q is no script: %d", text, bad)
	}
	last := len(list) - 1
	for _, s := range list[:last] {
		next, code := impl.Exec(p, s)
		if code != impl.ExOk {
			t.Fatalf("%q is refused with code %d: %s", text, code, impl.PutStmt(s))
		}
		p = next
	}
	return p, list[last]
}

// doneCases change execPlan. A place is where a list got its new element: first, middle or last.
var doneCases = []struct {
	text   string
	place  string
	change func(p *impl.Plan)
}{
	{`create type "Mood" as enum ('x')`, "first", func(p *impl.Plan) { p.Enums = slices.Insert(p.Enums, 0, labels("Mood", "x")) }},
	{`create type n as enum ('b', 'a', 'it''s')`, "middle", func(p *impl.Plan) { p.Enums = slices.Insert(p.Enums, 1, labels("n", "b", "a", "it's")) }},
	{`create type voids as enum ('happy', 'sad')`, "last", func(p *impl.Plan) { p.Enums = append(p.Enums, labels("voids", "happy", "sad")) }},
	{`create type counter as enum ('x')`, "first", func(p *impl.Plan) { p.Enums = slices.Insert(p.Enums, 0, labels("counter", "x")) }},
	{`create type item as enum ('x')`, "first", func(p *impl.Plan) { p.Enums = slices.Insert(p.Enums, 0, labels("item", "x")) }},
	{`create type one as enum ('x')`, "middle", func(p *impl.Plan) { p.Enums = slices.Insert(p.Enums, 1, labels("one", "x")) }},
	{`create type peek as enum ('x')`, "middle", func(p *impl.Plan) { p.Enums = slices.Insert(p.Enums, 1, labels("peek", "x")) }},
	{`drop type void`, "", func(p *impl.Plan) { p.Enums = p.Enums[:2] }},
	{`drop view zoom; alter table zone drop column rev; drop type size`, "", func(p *impl.Plan) {
		p.Views, p.Tables[3].Cols, p.Enums = p.Views[:2], slices.Delete(p.Tables[3].Cols, 1, 2), slices.Delete(p.Enums, 1, 2)
	}},
	{`create sequence a start 0`, "first", func(p *impl.Plan) { p.Seqs = slices.Insert(p.Seqs, 0, impl.Seq{Name: "a"}) }},
	{`create sequence counters start 999999999`, "middle", func(p *impl.Plan) { p.Seqs = slices.Insert(p.Seqs, 1, impl.Seq{Name: "counters", Start: 999999999}) }},
	{`create sequence mood start 7`, "last", func(p *impl.Plan) { p.Seqs = append(p.Seqs, impl.Seq{Name: "mood", Start: 7}) }},
	{`drop sequence counter`, "", func(p *impl.Plan) { p.Seqs = p.Seqs[1:] }},
	{`drop sequence last`, "", func(p *impl.Plan) { p.Seqs = p.Seqs[:1] }},
	{`create table a ()`, "first", func(p *impl.Plan) {
		p.Tables, p.Next = slices.Insert(p.Tables, 0, impl.Table{Name: "a", Token: 5}), 6
	}},
	{`create table items (z int, "B" text not null default 'it', m enum mood, constraint z unique (m), constraint a primary key ("B"), constraint "M" check (z < 5), ` +
		`constraint s foreign key (z, "B") references item (a, b))`, "middle", func(p *impl.Plan) {
		cols := []impl.Col{{Name: "B", Type: kindOf(impl.TyText), NotNull: true, Default: []impl.Expr{quoted("it")}}, column("m", enum("mood")), {Name: "z"}}
		rules := []impl.Rule{condition("M", op(impl.EpLt, col("z"), lit(5))), key(impl.RuPrimary, "a", "B"), reference("s", []string{"z", "B"}, "item", "a", "b"), key(impl.RuUnique, "z", "m")}
		p.Tables, p.Next = slices.Insert(p.Tables, 1, impl.Table{Name: "items", Token: 5, Cols: cols, Rules: rules}), 6
	}},
	{`create table zones (up int, id int, constraint k unique (id), constraint a foreign key (up) references zones (id))`, "last", func(p *impl.Plan) {
		rules := []impl.Rule{reference("a", []string{"up"}, "zones", "id"), key(impl.RuUnique, "k", "id")}
		p.Tables, p.Next = append(p.Tables, impl.Table{Name: "zones", Token: 5, Cols: []impl.Col{{Name: "id"}, {Name: "up"}}, Rules: rules}), 6
	}},
	{`drop table void; create table void (a int)`, "middle", func(p *impl.Plan) {
		p.Tables[2], p.Next = impl.Table{Name: "void", Token: 5, Cols: []impl.Col{{Name: "a"}}}, 6
	}},
	{`create table mood (); create table size ()`, "middle", func(p *impl.Plan) {
		p.Tables = slices.Insert(slices.Insert(p.Tables, 2, impl.Table{Name: "size", Token: 6}), 1, impl.Table{Name: "mood", Token: 5})
		p.Next = 7
	}},
	{`drop table void`, "", func(p *impl.Plan) { p.Tables = slices.Delete(p.Tables, 2, 3) }},
	{`drop view zoom; drop table zone`, "", func(p *impl.Plan) { p.Views, p.Tables = p.Views[:2], p.Tables[:3] }},
	{`alter table zone add column a int not null`, "first", func(p *impl.Plan) {
		p.Tables[3].Cols = slices.Insert(p.Tables[3].Cols, 0, impl.Col{Name: "a", NotNull: true})
	}},
	{`alter table zone add column up char(3) default 'abc'`, "middle", func(p *impl.Plan) {
		p.Tables[3].Cols = slices.Insert(p.Tables[3].Cols, 2, impl.Col{Name: "up", Type: char(3), Default: []impl.Expr{quoted("abc")}})
	}},
	{`alter table zone add column z enum mood default 'sad'`, "last", func(p *impl.Plan) {
		p.Tables[3].Cols = append(p.Tables[3].Cols, impl.Col{Name: "z", Type: enum("mood"), Default: []impl.Expr{quoted("sad")}})
	}},
	{`alter table void add column void bool`, "first", func(p *impl.Plan) { p.Tables[2].Cols = []impl.Col{column("void", kindOf(impl.TyBool))} }},
	{`alter table zone drop column both`, "", func(p *impl.Plan) { p.Tables[3].Cols = p.Tables[3].Cols[1:] }},
	{`drop view zoom; alter table zone drop column rev`, "", func(p *impl.Plan) {
		p.Views, p.Tables[3].Cols = p.Views[:2], slices.Delete(p.Tables[3].Cols, 1, 2)
	}},
	{`alter table zone alter column both type text`, "", func(p *impl.Plan) { p.Tables[3].Cols[0].Type = kindOf(impl.TyText) }},
	{`alter table zone alter column rev type text`, "", func(p *impl.Plan) { p.Tables[3].Cols[1].Type = kindOf(impl.TyText) }},
	{`alter table zone alter column rev type text; alter table zone alter column rev type char(3)`, "", func(p *impl.Plan) { p.Tables[3].Cols[1].Type = char(3) }},
	{`alter table zone alter column rev type text; alter table zone alter column rev type enum size`, "", func(p *impl.Plan) {}},
	{`alter table zone alter column x type int`, "", func(p *impl.Plan) {}},
	{`alter table item alter column m type text`, "", func(p *impl.Plan) { p.Tables[0].Cols[4].Type = kindOf(impl.TyText) }},
	{`alter table zone alter column x set not null`, "", func(p *impl.Plan) { p.Tables[3].Cols[2].NotNull = true }},
	{`alter table zone alter column both set not null`, "", func(p *impl.Plan) {}},
	{`alter table zone alter column both drop not null`, "", func(p *impl.Plan) { p.Tables[3].Cols[0].NotNull = false }},
	{`alter table zone alter column x drop not null`, "", func(p *impl.Plan) {}},
	{`alter table zone alter column rev set default 'small'`, "", func(p *impl.Plan) { p.Tables[3].Cols[1].Default = []impl.Expr{quoted("small")} }},
	{`alter table zone alter column y set default 1 + 2 * 3`, "", func(p *impl.Plan) {
		p.Tables[3].Cols[3].Default = []impl.Expr{op(impl.EpAdd, lit(1), op(impl.EpMul, lit(2), lit(3)))}
	}},
	{`alter table item alter column b set default null`, "", func(p *impl.Plan) { p.Tables[0].Cols[1].Default = []impl.Expr{op(impl.EpNull)} }},
	{`alter table zone alter column rev drop default`, "", func(p *impl.Plan) { p.Tables[3].Cols[1].Default = nil }},
	{`alter table zone alter column x drop default`, "", func(p *impl.Plan) {}},
	{`alter table zone add constraint a primary key (both)`, "first", func(p *impl.Plan) {
		p.Tables[3].Rules = slices.Insert(p.Tables[3].Rules, 0, key(impl.RuPrimary, "a", "both"))
	}},
	{`alter table zone add constraint s check (x > both)`, "middle", func(p *impl.Plan) {
		p.Tables[3].Rules = slices.Insert(p.Tables[3].Rules, 2, condition("s", op(impl.EpGt, col("x"), col("both"))))
	}},
	{`alter table zone add constraint x unique (both, rev)`, "last", func(p *impl.Plan) {
		p.Tables[3].Rules = append(p.Tables[3].Rules, key(impl.RuUnique, "x", "both", "rev"))
	}},
	{`alter table zone add constraint f foreign key (both) references part (id)`, "middle", func(p *impl.Plan) {
		p.Tables[3].Rules = slices.Insert(p.Tables[3].Rules, 1, reference("f", []string{"both"}, "part", "id"))
	}},
	{`alter table void add constraint void check (null)`, "first", func(p *impl.Plan) { p.Tables[2].Rules = []impl.Rule{condition("void", op(impl.EpNull))} }},
	{`alter table zone drop constraint rev`, "", func(p *impl.Plan) { p.Tables[3].Rules = slices.Delete(p.Tables[3].Rules, 1, 2) }},
	{`alter table zone drop constraint up`, "", func(p *impl.Plan) { p.Tables[3].Rules = p.Tables[3].Rules[:2] }},
	{`alter table zone drop constraint up; alter table zone drop constraint both`, "", func(p *impl.Plan) { p.Tables[3].Rules = p.Tables[3].Rules[1:2] }},
	{`alter table zone add constraint twin unique (x); alter table zone drop constraint both`, "", func(p *impl.Plan) {
		p.Tables[3].Rules = []impl.Rule{condition("rev", op(impl.EpTrue)), key(impl.RuUnique, "twin", "x"), reference("up", []string{"y"}, "zone", "x")}
	}},
	{`alter table item drop constraint ck`, "", func(p *impl.Plan) { p.Tables[0].Rules = p.Tables[0].Rules[1:] }},
	{`create index a on zone (y, x)`, "first", func(p *impl.Plan) {
		p.Indexes = slices.Insert(p.Indexes, 0, impl.Index{Name: "a", Table: "zone", Cols: []string{"y", "x"}})
	}},
	{`create unique index mood on zone (x)`, "middle", func(p *impl.Plan) {
		p.Indexes = slices.Insert(p.Indexes, 1, impl.Index{Name: "mood", Table: "zone", Cols: []string{"x"}, Unique: true})
	}},
	{`create index z on item (t, d, m, a)`, "last", func(p *impl.Plan) {
		p.Indexes = append(p.Indexes, impl.Index{Name: "z", Table: "item", Cols: []string{"t", "d", "m", "a"}})
	}},
	{`drop index by`, "", func(p *impl.Plan) { p.Indexes = p.Indexes[1:] }},
	{`drop index one`, "", func(p *impl.Plan) { p.Indexes = p.Indexes[:1] }},
	{`create view a as select x from zone`, "first", func(p *impl.Plan) {
		p.Views = slices.Insert(p.Views, 0, impl.View{Name: "a", Table: "zone", Cols: []string{"x"}})
	}},
	{`create view mood as select both, rev, x, y from zone where x <> y`, "middle", func(p *impl.Plan) {
		where := []impl.Expr{op(impl.EpNe, col("x"), col("y"))}
		p.Views = slices.Insert(p.Views, 1, impl.View{Name: "mood", Table: "zone", Cols: []string{"both", "rev", "x", "y"}, Where: where})
	}},
	{`create view zooms as select a, b, c, d, m, n, t from item where null`, "last", func(p *impl.Plan) {
		p.Views = append(p.Views, impl.View{Name: "zooms", Table: "item", Cols: strings.Fields("a b c d m n t"), Where: []impl.Expr{op(impl.EpNull)}})
	}},
	{`drop view look`, "", func(p *impl.Plan) { p.Views = p.Views[1:] }},
	{`drop view zoom`, "", func(p *impl.Plan) { p.Views = p.Views[:2] }},
}

// listGrowing is the list that a statement puts an element into, by the Names in it.
func listGrowing(p impl.Plan, s impl.Stmt) (names []string, name string) {
	lists := namesIn(p)
	on, _ := tableByHand(p, s.Name)
	switch s.Kind {
	case impl.StEnum:
		return lists[0], s.Name
	case impl.StSeq:
		return lists[1], s.Name
	case impl.StTable:
		return lists[2], s.Name
	case impl.StIndex:
		return lists[3], s.Name
	case impl.StView:
		return lists[4], s.Name
	case impl.StAddCol:
		return colNames(on), s.Cols[0].Name
	case impl.StAddRule:
		return ruleNames(on), s.Rules[0].Name
	}
	return nil, ""
}

func placeIn(names []string, name string) string {
	switch slices.Index(names, name) {
	case -1:
		return ""
	case 0:
		return "first"
	case len(names) - 1:
		return "last"
	}
	return "middle"
}

func TestEveryKindIsExecuted(t *testing.T) {
	kinds, places := map[int]int{}, map[string]int{}
	for _, x := range doneCases {
		p, s := ahead(t, execPlan(), x.text)
		want := execPlan()
		x.change(&want)
		checkPlan(t, want, true, x.text)
		checkExec(t, p, s, want, impl.ExOk, x.text)
		if got := placeIn(listGrowing(want, s)); got != x.place {
			t.Errorf("%q puts something in %q", x.text, got)
		}
		kinds[s.Kind]++
		places[fmt.Sprint(s.Kind, x.place)]++
	}
	if len(kinds) != 17 || len(places) != 7*3+10 {
		t.Error(kinds, places)
	}
}

// refusedCases have all the conditions that hold; the first one is to be answered. A thing that is missing counts as
// made first where it is asked whether the result would be invalid.
var refusedCases = []struct {
	text  string
	codes string
}{
	{`create type mood as enum ('x')`, "there bad"},
	{`create type void as enum ('x', 'x')`, "there bad"},
	{`create type "new" as enum ('x', 'y', 'x')`, "bad"},
	{`drop type none`, "none"}, {`drop type counter`, "none"}, {`drop type item`, "none"}, {`drop type one`, "none"}, {`drop type look`, "none"}, {`drop type "Mood"`, "none"},
	{`drop type mood`, "use bad"}, {`drop type size`, "use bad"},
	{`create sequence counter start 5`, "there bad"}, {`create sequence item start 5`, "there bad"}, {`create sequence one start 5`, "there bad"}, {`create sequence look start 5`, "there bad"},
	{`create sequence a start 1; create sequence b start 1; create sequence c start 1; create sequence d start 1; create sequence e start 1; create sequence f start 1; ` +
		`create sequence g start 1; create sequence h start 1; create sequence i start 1`, "bad"},
	{`drop sequence none`, "none"}, {`drop sequence item`, "none"}, {`drop sequence one`, "none"}, {`drop sequence look`, "none"}, {`drop sequence mood`, "none"},
	{`create table item ()`, "there bad"}, {`create table counter ()`, "there bad"}, {`create table one ()`, "there bad"}, {`create table look ()`, "there bad"},
	{`create table void (a enum none)`, "there bad"}, {`create table void (constraint r foreign key (a) references none (a))`, "there bad"},
	{`create table new (a int, a int)`, "bad"},
	{`drop table none`, "none"}, {`drop table counter`, "none"}, {`drop table one`, "none"}, {`drop table look`, "none"}, {`drop table mood`, "none"},
	{`drop table item`, "use bad"}, {`drop table part`, "use bad"}, {`drop table zone`, "use bad"},
	{`create index i on zone (x); drop view zoom; drop table zone`, "use bad"},
	{`create table new (a int, constraint r foreign key (a) references zone (x)); drop view zoom; drop table zone`, "use bad"},
	{`alter table zone add column both int`, "there bad"}, {`alter table zone add column x enum none`, "there bad"}, {`alter table item add column d bool default 1`, "there bad"},
	{`alter table none add column x int`, "none"}, {`alter table none add column x enum none`, "none bad"}, {`alter table mood add column x int`, "none"},
	{`alter table counter add column x int`, "none bad"}, {`alter table one add column x int`, "none bad"}, {`alter table look add column x int`, "none bad"},
	{`alter table zone add column a int default 'x'`, "bad"}, {`alter table zone add column a enum none`, "bad"},
	{`alter table none drop column x`, "none"}, {`alter table look drop column a`, "none"}, {`alter table mood drop column a`, "none"},
	{`alter table zone drop column none`, "part"}, {`alter table zone drop column up`, "part"}, {`alter table zone drop column a`, "part"}, {`alter table zone drop column zone`, "part"},
	{`alter table zone drop column rev`, "use bad"}, {`alter table zone drop column x`, "use bad"}, {`alter table zone drop column y`, "use bad"},
	{`drop view zoom; alter table zone drop constraint up; alter table zone drop column x`, "use bad"},
	{`alter table item drop column c`, "use bad"}, {`alter table item drop column d`, "use bad"}, {`alter table item drop column m`, "use bad"}, {`alter table item drop column t`, "use bad"},
	{`alter table void add column c int; create index i on void (c); alter table void drop column c`, "use bad"},
	{`alter table void add column c int; create view v as select c from void; alter table void drop column c`, "use bad"},
	{`alter table void add column c int; alter table void add column d int; create view v as select d from void where c is null; alter table void drop column c`, "use bad"},
	{`alter table void add column c int; alter table void add constraint k check (c is null); alter table void drop column c`, "use bad"},
	{`alter table void add column c int not null; alter table void add constraint k primary key (c); alter table void drop column c`, "use bad"},
	{`alter table void add column c int; alter table void add constraint k unique (c); alter table void drop column c`, "use bad"},
	{`alter table void add column c int; alter table void add constraint k foreign key (c) references zone (x); alter table void drop column c`, "use bad"},
	{`alter table none alter column x type int`, "none"}, {`alter table none alter column x type enum none`, "none bad"}, {`alter table look alter column a type int`, "none bad"},
	{`alter table zone alter column none type int`, "part"}, {`alter table zone alter column up type text`, "part"}, {`alter table zone alter column up type enum none`, "part bad"},
	{`alter table zone alter column both type bool`, "turn"}, {`alter table zone alter column both type enum mood`, "turn"}, {`alter table zone alter column both type enum none`, "turn bad"},
	{`alter table zone alter column rev type enum mood`, "turn bad"}, {`alter table zone alter column x type char(1)`, "turn bad"}, {`alter table zone alter column x type bool`, "turn bad"},
	{`alter table zone alter column x type text`, "bad"}, {`alter table zone alter column y type text`, "bad"}, {`alter table item alter column c type text`, "bad"},
	{`alter table item alter column n type text`, "bad"}, {`alter table item alter column d type text`, "bad"}, {`alter table item alter column b type char(5)`, "bad"},
	{`alter table none alter column x set not null`, "none"}, {`alter table look alter column a drop not null`, "none bad"}, {`alter table mood alter column a set not null`, "none"},
	{`alter table zone alter column none set not null`, "part"}, {`alter table zone alter column up drop not null`, "part"},
	{`alter table item alter column a drop not null`, "bad"}, {`alter table item alter column b drop not null`, "bad"},
	{`alter table none alter column x drop default`, "none"}, {`alter table none alter column x set default 'x'`, "none bad"}, {`alter table by alter column a set default 1`, "none bad"},
	{`alter table zone alter column none drop default`, "part"}, {`alter table zone alter column up set default 1`, "part"}, {`alter table zone alter column up set default true`, "part bad"},
	{`alter table zone alter column x set default 'x'`, "bad"}, {`alter table zone alter column x set default y`, "bad"}, {`alter table zone alter column rev set default 'sad'`, "bad"},
	{`alter table zone add constraint both check (true)`, "there bad"}, {`alter table zone add constraint up unique (none)`, "there bad"}, {`alter table item add constraint pk primary key (a, b)`, "there bad"},
	{`alter table none add constraint k check (true)`, "none"}, {`alter table none add constraint k unique (a)`, "none bad"}, {`alter table look add constraint k check (true)`, "none bad"},
	{`alter table mood add constraint k check (true)`, "none"}, {`alter table none add constraint k check (1)`, "none bad"},
	{`alter table zone add constraint k check (x)`, "bad"}, {`alter table item add constraint k primary key (a, b)`, "bad"}, {`alter table zone add constraint k foreign key (x) references none (x)`, "bad"},
	{`alter table none drop constraint x`, "none"}, {`alter table look drop constraint a`, "none"}, {`alter table mood drop constraint a`, "none"},
	{`alter table zone drop constraint none`, "part"}, {`alter table zone drop constraint x`, "part"}, {`alter table item drop constraint up`, "part"}, {`alter table zone drop constraint zone`, "part"},
	{`alter table zone drop constraint both`, "use bad"}, {`alter table part drop constraint u`, "use bad"}, {`alter table item drop constraint uq`, "use bad"}, {`alter table item drop constraint pk`, "use bad"},
	{`create index by on zone (x)`, "there bad"}, {`create index counter on zone (x)`, "there bad"}, {`create index item on item (a)`, "there bad"}, {`create index look on item (none)`, "there bad"},
	{`create index by on none (x)`, "there none bad"}, {`create unique index look on by (n)`, "there none bad"}, {`create index counter on counter (x)`, "there none bad"},
	{`create index new on none (x)`, "none bad"}, {`create index new on by (n)`, "none bad"}, {`create index new on look (a)`, "none bad"}, {`create index new on mood (a)`, "none bad"}, {`create index new on new (a)`, "none bad"},
	{`create index new on item (none)`, "bad"}, {`create index new on void (void)`, "bad"}, {`create index new on zone (x, y, x)`, "bad"}, {`create unique index new on item (a, b, c, d, m)`, "bad"},
	{`drop index none`, "none"}, {`drop index counter`, "none"}, {`drop index item`, "none"}, {`drop index look`, "none"}, {`drop index mood`, "none"},
	{`create view look as select x from zone`, "there bad"}, {`create view counter as select x from zone`, "there bad"}, {`create view item as select a from item`, "there bad"}, {`create view one as select x from zone where x`, "there bad"},
	{`create view look as select a from none`, "there none bad"}, {`create view by as select n from by`, "there none bad"}, {`create view counter as select x from counter where true`, "there none bad"},
	{`create view new as select x from none`, "none bad"}, {`create view new as select n from by`, "none bad"}, {`create view new as select a from look`, "none bad"}, {`create view new as select a from mood`, "none bad"},
	{`create view new as select none from item`, "bad"}, {`create view new as select y, x from zone`, "bad"}, {`create view new as select x, x from zone`, "bad"}, {`create view new as select x from zone where x`, "bad"},
	{`drop view none`, "none"}, {`drop view counter`, "none"}, {`drop view item`, "none"}, {`drop view one`, "none"}, {`drop view mood`, "none"},
}

// refusedPairs has the pairs of conditions that can hold at once for each kind, beside those with ExArgs.
var refusedPairs = []string{
	"there+bad", "use+bad", "there+bad", "", "there+bad", "use+bad", "there+bad none+bad", "use+bad", "none+bad part+bad turn+bad",
	"none+bad", "none+bad part+bad", "there+bad none+bad", "use+bad", "there+none there+bad none+bad", "", "there+none there+bad none+bad", "",
}

// refusedWords has the codes that statements of each kind can be answered with, beside ExOk and ExArgs.
var refusedWords = []string{
	"there bad", "none use", "there bad", "none", "there bad", "none use", "there none bad", "none part use", "none part turn bad",
	"none part bad", "none part bad", "there none bad", "none part use", "there none bad", "none", "there none bad", "none",
}

func TestEveryRefusal(t *testing.T) {
	pairs, words := make([]map[string]int, 17), make([]map[string]int, 17)
	for kind := range 17 {
		pairs[kind], words[kind] = map[string]int{}, map[string]int{}
	}
	for _, x := range refusedCases {
		p, s := ahead(t, execPlan(), x.text)
		codes := strings.Fields(x.codes)
		checkExec(t, p, s, p, slices.Index(exWords, codes[0]), x.text)
		if got := reasonsByHand(p, s); !slices.Equal(got, codes) {
			t.Errorf("for %q hold %v, not %v", x.text, got, codes)
		}
		words[s.Kind][codes[0]]++
		for i, a := range codes {
			for _, b := range codes[i+1:] {
				pairs[s.Kind][a+"+"+b]++
			}
		}
	}
	for kind := range 17 {
		for _, x := range []struct {
			met  map[string]int
			want string
		}{{pairs[kind], refusedPairs[kind]}, {words[kind], refusedWords[kind]}} {
			if len(x.met) != len(strings.Fields(x.want)) {
				t.Errorf("kind %d: %v, want %s", kind, x.met, x.want)
			}
			for _, word := range strings.Fields(x.want) {
				if x.met[word] == 0 {
					t.Errorf("kind %d: no %s", kind, word)
				}
			}
		}
	}
}

// doneByHand carries a statement out whatever refuses it, and makes first what a statement needs that changes or adds
// something. Everything is added at the end, and sorted.
func doneByHand(p impl.Plan, s impl.Stmt) impl.Plan {
	p = filledIn(p, false)
	switch s.Kind {
	case impl.StEnum:
		p.Enums = append(p.Enums, labels(s.Name, s.List...))
	case impl.StDropEnum:
		p.Enums = slices.DeleteFunc(p.Enums, func(x impl.Labels) bool { return x.Name == s.Name })
	case impl.StSeq:
		p.Seqs = append(p.Seqs, impl.Seq{Name: s.Name, Start: s.Num})
	case impl.StDropSeq:
		p.Seqs = slices.DeleteFunc(p.Seqs, func(x impl.Seq) bool { return x.Name == s.Name })
	case impl.StTable:
		p.Tables = append(p.Tables, impl.Table{Name: s.Name, Cols: slices.Clone(s.Cols), Rules: slices.Clone(s.Rules), Token: p.Next})
		p.Next++
	case impl.StDropTable:
		p.Tables = slices.DeleteFunc(p.Tables, func(x impl.Table) bool { return x.Name == s.Name })
	case impl.StIndex:
		p.Indexes = append(p.Indexes, impl.Index{Name: s.Name, Table: s.On, Cols: s.List, Unique: s.Flag})
	case impl.StDropIndex:
		p.Indexes = slices.DeleteFunc(p.Indexes, func(x impl.Index) bool { return x.Name == s.Name })
	case impl.StView:
		p.Views = append(p.Views, impl.View{Name: s.Name, Table: s.On, Cols: s.List, Where: s.Exprs})
	case impl.StDropView:
		p.Views = slices.DeleteFunc(p.Views, func(x impl.View) bool { return x.Name == s.Name })
	default:
		p = alteredByHand(p, s)
	}
	sortLists(p)
	return p
}

func alteredByHand(p impl.Plan, s impl.Stmt) impl.Plan {
	at := slices.Index(namesIn(p)[2], s.Name)
	if at < 0 && (s.Kind == impl.StDropCol || s.Kind == impl.StDropRule) {
		return p
	}
	if at < 0 {
		at = len(p.Tables)
		p.Tables = append(p.Tables, impl.Table{Name: s.Name, Token: p.Next})
		p.Next++
	}
	x := &p.Tables[at]
	x.Cols, x.Rules = append(x.Cols, s.Cols...), append(x.Rules, s.Rules...)
	change := func(c *impl.Col) {}
	switch s.Kind {
	case impl.StDropCol:
		x.Cols = slices.DeleteFunc(x.Cols, func(c impl.Col) bool { return c.Name == s.On })
	case impl.StDropRule:
		x.Rules = slices.DeleteFunc(x.Rules, func(r impl.Rule) bool { return r.Name == s.On })
	case impl.StColType:
		change = func(c *impl.Col) { c.Type = s.Type }
	case impl.StColNull:
		change = func(c *impl.Col) { c.NotNull = s.Flag }
	case impl.StColDefault:
		change = func(c *impl.Col) { c.Default = s.Exprs }
	}
	if strings.Contains("8 9 10", impl.DecText(s.Kind)) {
		if _, there := colByHand(*x, s.On); !there {
			x.Cols = append(x.Cols, impl.Col{Name: s.On})
		}
		for i, c := range x.Cols {
			if c.Name == s.On {
				change(&x.Cols[i])
			}
		}
	}
	return p
}

func sortLists(p impl.Plan) {
	slices.SortStableFunc(p.Enums, func(a, b impl.Labels) int { return strings.Compare(a.Name, b.Name) })
	slices.SortStableFunc(p.Seqs, func(a, b impl.Seq) int { return strings.Compare(a.Name, b.Name) })
	slices.SortStableFunc(p.Tables, func(a, b impl.Table) int { return strings.Compare(a.Name, b.Name) })
	slices.SortStableFunc(p.Indexes, func(a, b impl.Index) int { return strings.Compare(a.Name, b.Name) })
	slices.SortStableFunc(p.Views, func(a, b impl.View) int { return strings.Compare(a.Name, b.Name) })
	for _, x := range p.Tables {
		slices.SortStableFunc(x.Cols, func(a, b impl.Col) int { return strings.Compare(a.Name, b.Name) })
		slices.SortStableFunc(x.Rules, func(a, b impl.Rule) int { return strings.Compare(a.Name, b.Name) })
	}
}

// turnsByHand restates the table of the types that turn to each other.
func turnsByHand(from, to impl.Type) bool {
	return wantType(from) == wantType(to) || wantType(to) == "text" || wantType(from) == "text" && strings.ContainsAny(wantType(to)[:1], "ce")
}

// reasonsByHand returns the words of all conditions that hold. Of an invalid plan or statement nothing else is asked.
func reasonsByHand(p impl.Plan, s impl.Stmt) []string {
	if len(planFaults(p)) > 0 || len(stmtFaults(s)) > 0 {
		return []string{"args"}
	}
	holds := map[string]bool{"bad": len(planFaults(doneByHand(p, s))) > 0}
	lists := namesIn(p)
	named := slices.Concat(lists[1:]...)
	on, altered := tableByHand(p, s.Name)
	c, colThere := colByHand(on, s.On)
	ruleThere := slices.Contains(ruleNames(on), s.On)
	used := func(kind string) bool { return len(query{kind, s.Name, s.On}.byHand(p)) > 0 }
	switch s.Kind {
	case impl.StEnum:
		holds["there"] = slices.Contains(lists[0], s.Name)
	case impl.StDropEnum:
		holds["none"], holds["use"] = !slices.Contains(lists[0], s.Name), used("enum")
	case impl.StSeq, impl.StTable:
		holds["there"] = slices.Contains(named, s.Name)
	case impl.StDropSeq:
		holds["none"] = !slices.Contains(lists[1], s.Name)
	case impl.StDropTable:
		holds["none"], holds["use"] = !altered, used("table")
	case impl.StAddCol:
		holds["there"], holds["none"] = slices.Contains(colNames(on), s.Cols[0].Name), !altered
	case impl.StAddRule:
		holds["there"], holds["none"] = slices.Contains(ruleNames(on), s.Rules[0].Name), !altered
	case impl.StDropCol:
		holds["none"], holds["part"], holds["use"] = !altered, altered && !colThere, used("col")
	case impl.StDropRule:
		holds["none"], holds["part"], holds["use"] = !altered, altered && !ruleThere, used("key")
	case impl.StColType, impl.StColNull, impl.StColDefault:
		holds["none"], holds["part"] = !altered, altered && !colThere
		holds["turn"] = s.Kind == impl.StColType && colThere && !turnsByHand(c.Type, s.Type)
	case impl.StIndex, impl.StView:
		holds["there"], holds["none"] = slices.Contains(named, s.Name), !slices.Contains(lists[2], s.On)
	case impl.StDropIndex:
		holds["none"] = !slices.Contains(lists[3], s.Name)
	case impl.StDropView:
		holds["none"] = !slices.Contains(lists[4], s.Name)
	}
	var out []string
	for _, word := range exWords {
		if holds[word] {
			out = append(out, word)
		}
	}
	return out
}

// execByHand returns the plan as it is to be answered, and the word of the code.
func execByHand(p impl.Plan, s impl.Stmt) (impl.Plan, string) {
	reasons := reasonsByHand(p, s)
	switch {
	case len(reasons) == 0:
		return doneByHand(p, s), "ok"
	case reasons[0] == "args" && len(planFaults(p)) > 0:
		return impl.Plan{}, "args"
	}
	return p, reasons[0]
}

// checkExecByHand returns what Exec answers as well.
func checkExecByHand(t *testing.T, p impl.Plan, s impl.Stmt, what ...any) (impl.Plan, string) {
	t.Helper()
	want, word := execByHand(p, s)
	checkExec(t, p, s, want, slices.Index(exWords, word), what...)
	return want, word
}

// badCases break one condition of PlanOk each, and no other.
var badCases = []struct {
	text string
	word string
}{
	{`create type "new" as enum ('a', 'b', 'a')`, "label-twice"},
	{`create table new (a int, a text)`, "column-order"},
	{`create table new (b int, a text, b int)`, "column-order"},
	{`create table new (a int, constraint k unique (a), constraint k check (true))`, "rule-order"},
	{`create table new (constraint b check (true), constraint a check (true), constraint b check (null))`, "rule-order"},
	{`create table new (a enum none)`, "enum"},
	{`create table new (a enum item)`, "enum"},
	{`alter table zone add column a enum none`, "enum"},
	{`alter table void add column a text; alter table void alter column a type enum none`, "enum"},
	{`create table new (a int default 'x')`, "default"},
	{`create table new (a int, b int default a)`, "default"},
	{`alter table zone add column a enum mood default 'big'`, "default"},
	{`alter table zone alter column both set default true`, "default"},
	{`alter table zone alter column both set default x`, "default"},
	{`alter table zone alter column rev set default 'huge'`, "default"},
	{`alter table void add column a int default 1; alter table void alter column a type text`, "default"},
	{`alter table void add column a text default 'abcd'; alter table void alter column a type char(3)`, "default"},
	{`alter table void add column a text default 'big'; alter table void alter column a type enum mood`, "default"},
	{`create table new (a int not null, constraint j primary key (a), constraint k primary key (a))`, "primaries"},
	{`alter table item add constraint k primary key (a)`, "primaries"},
	{`create table new (constraint k unique (a))`, "key-selection"},
	{`alter table zone add constraint k unique (none)`, "key-selection"},
	{`alter table zone add constraint k unique (x, x)`, "key-selection"},
	{`alter table zone add constraint k unique (y, x)`, "key-order"},
	{`create table new (a int, b int, constraint k unique (b, a))`, "key-order"},
	{`alter table zone add constraint k primary key (x)`, "key-null"},
	{`create table new (a int, constraint k primary key (a))`, "key-null"},
	{`alter table item alter column b drop not null`, "key-null"},
	{`alter table zone add constraint k check (none)`, "check-sort"},
	{`alter table zone add constraint k check (x + y)`, "check-sort"},
	{`alter table zone add constraint k check (rev = 'sad')`, "check-sort"},
	{`create table new (a text, constraint k check (a < 1))`, "check-sort"},
	{`alter table zone add constraint k check (both > 2); alter table zone alter column both type text`, "check-sort"},
	{`alter table zone add constraint k foreign key (none) references zone (x)`, "ref-selection"},
	{`create table new (a int, b int, constraint k unique (a, b), constraint r foreign key (a, a) references new (a, b))`, "ref-selection"},
	{`alter table zone add constraint k foreign key (x) references none (x)`, "ref-table"},
	{`alter table zone add constraint k foreign key (x) references look (a)`, "ref-table"},
	{`create table new (a int, constraint r foreign key (a) references none (a))`, "ref-table"},
	{`alter table zone add constraint k foreign key (x) references zone (y)`, "ref-key"},
	{`alter table zone add constraint k foreign key (x, rev) references item (b, a)`, "ref-key ref-types"},
	{`create table new (a int, constraint r foreign key (a) references new (a))`, "ref-key"},
	{`alter table zone add constraint k foreign key (rev) references zone (x)`, "ref-types"},
	{`alter table zone alter column x type text`, "ref-types"},
	{`alter table zone alter column y type text`, "ref-types"},
	{`alter table part alter column k type text`, "ref-types"},
	{`create index i on zone (none)`, "index-selection"},
	{`create index i on zone (x, y, x)`, "index-selection"},
	{`create unique index i on item (a, b, c, d, m)`, "index-selection"},
	{`create view v as select none from zone`, "view-names"},
	{`create view v as select x, z from zone`, "view-names"},
	{`create view v as select y, x from zone`, "view-order"},
	{`create view v as select x, x from zone`, "view-order"},
	{`create view v as select x from zone where x`, "view-sort"},
	{`create view v as select x from zone where none`, "view-sort"},
	{`create view v as select x from zone where rev = 'huge'`, "view-sort"},
	{`alter table void add column a bool; create view v as select a from void where a; alter table void alter column a type text`, "view-sort"},
}

// stmtNeverBreaks has the conditions of PlanOk that the result of a valid statement cannot break without another reason
// to refuse it, and those for which tests of their own have full lists and a last Next.
var stmtNeverBreaks = strings.Fields(`object-order object-name taken label-number label-bytes start token token-twice column-name rule-name type defaults kind
	check-cols check-number unused index-table view-table view-number view-wheres objects columns rules next`)

func TestResultsThatWouldBeInvalid(t *testing.T) {
	met := map[string]int{}
	for _, x := range badCases {
		p, s := ahead(t, execPlan(), x.text)
		if got := planFaults(doneByHand(p, s)).words(); strings.Join(got, " ") != x.word {
			t.Errorf("%q breaks %v, not %s", x.text, got, x.word)
		}
		checkExec(t, p, s, p, impl.ExBad, x.text)
		met[x.word]++
	}
	for _, word := range faultWords {
		if (met[word] == 0) != slices.Contains(stmtNeverBreaks, word) {
			t.Errorf("%d statements break %s", met[word], word)
		}
	}
}

// fillers put one more element into the lists that namedLists fills.
var fillers = []string{
	`create type zz as enum ('x')`, `create sequence zz start 1`, `create table zz ()`, `alter table TABLE add column zz int`,
	`alter table TABLE add constraint zz check (true)`, `create index zz on TABLE (COLUMN)`, `create view zz as select COLUMN from TABLE`,
}

func TestFullLists(t *testing.T) {
	for i, x := range namedLists {
		for _, name := range []string{"zz", "a", "n000004x"} {
			for n := range x.most + 1 {
				p := filled(i, numbered(n)...)
				at := max(len(p.Tables)-1, 0)
				table, column := "none", "none"
				if len(p.Tables) > 0 {
					table = p.Tables[at].Name
					if len(p.Tables[at].Cols) > 0 {
						column = p.Tables[at].Cols[0].Name
					}
				}
				text := strings.NewReplacer("TABLE", impl.PutName(table), "COLUMN", impl.PutName(column), "zz", name).Replace(fillers[i])
				got, word := checkExecByHand(t, p, onlyStmt(t, text), text, " with ", n)
				if want := []string{"ok", "bad"}[n/x.most]; word != want {
					t.Errorf("%s with %d elements is answered with %s", text, n, word)
				}
				if list, _ := listGrowing(got, onlyStmt(t, text)); word == "ok" && len(list) != n+1 {
					t.Errorf("%s with %d elements makes %d", text, n, len(list))
				}
			}
		}
	}
}

func onlyStmt(t *testing.T, text string) impl.Stmt {
	t.Helper()
	_, s := ahead(t, impl.Plan{Next: 1}, text)
	return s
}

// The names of columns and rules are given from the last one to the first.
func TestGreatestTable(t *testing.T) {
	s := impl.Stmt{Kind: impl.StTable, Name: "t"}
	for i := range 12 {
		s.Cols = append(s.Cols, impl.Col{Name: numbered(12)[11-i], NotNull: i%2 == 0})
	}
	for i := range 8 {
		s.Rules = append(s.Rules, key(impl.RuUnique, numbered(8)[7-i], numbered(12)[i]))
	}
	p, word := checkExecByHand(t, impl.Plan{Next: 1}, s)
	if word != "ok" || !slices.Equal(colNames(p.Tables[0]), numbered(12)) || !slices.Equal(ruleNames(p.Tables[0]), numbered(8)) {
		t.Error(word, p)
	}
}

func TestTokensOfNewTables(t *testing.T) {
	create := onlyStmt(t, "create table t (a int)")
	for _, next := range []int{1, 2, 3, 9, 10, 999999998, 999999999} {
		want := impl.Plan{Tables: []impl.Table{{Name: "t", Token: next, Cols: []impl.Col{{Name: "a"}}}}, Next: next + 1}
		checkExec(t, impl.Plan{Next: next}, create, want, impl.ExOk, next)
	}
	last := impl.Plan{Next: 1000000000}
	checkExec(t, last, create, last, impl.ExBad, "there is no Next behind the last one")
	full := execPlan()
	full.Next = 1000000000
	checkExec(t, full, create, full, impl.ExBad, "there is no Next behind the last one")
	checkExec(t, full, onlyStmt(t, "create table item ()"), full, impl.ExThere)
	for _, x := range doneCases {
		if !strings.Contains(x.text, "create table") {
			p, s := ahead(t, full, x.text)
			if _, word := checkExecByHand(t, p, s, "at the last Next"); word != "ok" {
				t.Errorf("%q is answered with %s", x.text, word)
			}
		}
	}
	p := impl.Plan{Next: 1}
	for i, name := range []string{"m", "z", "a", "n"} {
		q, code := impl.Exec(p, impl.Stmt{Kind: impl.StTable, Name: name})
		x, _ := tableByHand(q, name)
		if code != impl.ExOk || x.Token != i+1 || q.Next != i+2 {
			t.Error(name, code, q)
		}
		q, code = impl.Exec(q, impl.Stmt{Kind: impl.StDropTable, Name: "m"})
		if i == 0 && (code != impl.ExOk || q.Next != 2) {
			t.Error("a token is not given twice", q)
		}
		p = q
	}
	if got := impl.DecText(p.Tables[0].Token) + impl.DecText(p.Tables[1].Token) + impl.DecText(p.Tables[2].Token); got != "342" {
		t.Error(got, p)
	}
}

// givenTypes stand above the columns of givenTable, which tells the types that a default fits.
var givenTypes = []impl.Type{kindOf(impl.TyInt), kindOf(impl.TyText), kindOf(impl.TyBool), char(1), char(3), char(100), enum("mood"), enum("size"), enum("none")}

var givenTable = []struct {
	text string
	fits string
}{
	{"", "++++++++-"}, {"null", "++++++++-"}, {"1", "+--------"}, {"null + 1", "+--------"}, {"true", "--+------"}, {"1 < 2", "--+------"},
	{"''", "-+-+++---"}, {"'a'", "-+-+++---"}, {"'abc'", "-+--++---"}, {"'four'", "-+---+---"}, {"'sad'", "-+--+++--"}, {"'big'", "-+--++-+-"}, {"'both'", "-+---+++-"},
}

func TestEveryTypeToEveryType(t *testing.T) {
	met := map[string]int{}
	for _, x := range givenTable {
		for i, from := range givenTypes {
			if x.fits[i] != '+' {
				continue
			}
			c := impl.Col{Name: "c", Type: from, NotNull: i%2 == 0}
			if x.text != "" {
				c.Default = []impl.Expr{parsed(t, x.text)}
			}
			p := impl.Plan{
				Enums:  []impl.Labels{labels("mood", "sad", "both", "happy"), labels("size", "big", "both")},
				Tables: []impl.Table{{Name: "t", Token: 1, Cols: []impl.Col{{Name: "b"}, c, {Name: "d"}}}}, Next: 2,
			}
			for j, to := range givenTypes {
				want, code := p, impl.ExOk
				switch {
				case !turnsByHand(from, to):
					code = impl.ExTurn
				case x.fits[j] != '+':
					code = impl.ExBad
				default:
					want = filledIn(p, false)
					want.Tables[0].Cols[1].Type = to
				}
				checkExec(t, p, impl.Stmt{Kind: impl.StColType, Name: "t", On: "c", Type: to}, want, code, x.text, " from ", from)
				met[exWords[code]]++
			}
		}
	}
	if met["ok"] < 50 || met["turn"] < 50 || met["bad"] < 20 {
		t.Error(met)
	}
}

func TestDefaultsOfEveryType(t *testing.T) {
	for _, x := range givenTable {
		for i, kind := range givenTypes[:8] {
			for _, old := range [][]impl.Expr{nil, {op(impl.EpNull)}} {
				p := impl.Plan{
					Enums:  []impl.Labels{labels("mood", "sad", "both", "happy"), labels("size", "big", "both")},
					Tables: []impl.Table{{Name: "t", Token: 1, Cols: []impl.Col{{Name: "b"}, {Name: "c", Type: kind, Default: old}}}}, Next: 2,
				}
				s := impl.Stmt{Kind: impl.StColDefault, Name: "t", On: "c"}
				if x.text != "" {
					s.Exprs = []impl.Expr{parsed(t, x.text)}
				}
				want, code := p, impl.ExBad
				if x.fits[i] == '+' {
					want, code = filledIn(p, false), impl.ExOk
					want.Tables[0].Cols[1].Default = s.Exprs
				}
				checkExec(t, p, s, want, code, x.text, " for ", kind)
			}
		}
	}
}

// An invalid plan counts before an invalid statement, and both before everything else.
func TestExecOfInvalidArguments(t *testing.T) {
	stmts := []impl.Stmt{{}, {Kind: 17, Name: "x"}, {Kind: -1, Name: "x"}, {Kind: impl.StDropTable}}
	for _, x := range doneCases {
		_, s := ahead(t, execPlan(), x.text)
		stmts = append(stmts, s)
	}
	for _, x := range refusedCases {
		_, s := ahead(t, execPlan(), x.text)
		stmts = append(stmts, s)
	}
	for _, s := range stmts {
		checkExec(t, impl.Plan{}, s, impl.Plan{}, impl.ExArgs, "the zero Plan")
		for i, x := range brokenPlans {
			checkExec(t, edited(x.change), s, impl.Plan{}, impl.ExArgs, "invalid plan ", i)
		}
		for letter, list := range fillings {
			for i, fill := range list {
				bad := s
				fill(&bad)
				if len(stmtFaults(bad)) > 0 {
					checkExec(t, execPlan(), bad, execPlan(), impl.ExArgs, "invalid by ", letter, i)
					checkExec(t, impl.Plan{Next: 1}, bad, impl.Plan{Next: 1}, impl.ExArgs, "invalid by ", letter, i)
				}
			}
		}
		for _, name := range badNames() {
			s.Name = name
			checkExec(t, execPlan(), s, execPlan(), impl.ExArgs, "without a name")
		}
	}
	for _, x := range refusedCases {
		p, s := ahead(t, execPlan(), x.text)
		s.Kind += 17
		checkExec(t, p, s, p, impl.ExArgs, x.text)
	}
}

// Whatever would repair a plan, an invalid one is not changed.
func TestInvalidPlansAreNotRepaired(t *testing.T) {
	broken := edited(func(p *impl.Plan) { p.Views[1].Cols = []string{"none"} })
	checkExec(t, broken, onlyStmt(t, "drop view peek"), impl.Plan{}, impl.ExArgs)
	broken = edited(func(p *impl.Plan) { p.Tables[2].Cols = []impl.Col{column("x", enum("none"))} })
	checkExec(t, broken, onlyStmt(t, "create type none as enum ('x')"), impl.Plan{}, impl.ExArgs)
	checkExec(t, broken, onlyStmt(t, "drop table void"), impl.Plan{}, impl.ExArgs)
}

// execMaker makes valid statements about what a plan has, so that many of them are executed.
type execMaker struct {
	stmtMaker
}

// oneOf takes a name of the list, but sometimes any other one.
func (r execMaker) oneOf(list []string) string {
	if len(list) == 0 || r.Intn(8) == 0 {
		return planNames[r.Intn(len(planNames))]
	}
	return list[r.Intn(len(list))]
}

func (r execMaker) dataTypeOf(p impl.Plan) impl.Type {
	if n := r.Intn(8); n < len(p.Enums) {
		return enum(p.Enums[n].Name)
	}
	return []impl.Type{{}, kindOf(impl.TyText), kindOf(impl.TyText), kindOf(impl.TyBool), char(1 + r.Intn(4)), enum("mood")}[r.Intn(6)]
}

func (r execMaker) newRules(p impl.Plan, x impl.Table) []impl.Rule {
	x.Rules = nil
	planMaker{r.Rand}.rules(&x)
	if len(p.Tables) > 0 {
		planMaker{r.Rand}.references(p, &x)
	}
	names := planMaker{r.Rand}.names(len(x.Rules))
	for i := range x.Rules {
		x.Rules[i].Name = names[i]
	}
	r.Shuffle(len(x.Rules), func(i, j int) { x.Rules[i], x.Rules[j] = x.Rules[j], x.Rules[i] })
	return x.Rules
}

// selected takes at most the given number of columns of a table, or a name that may be none.
func (r execMaker) selected(x impl.Table, most int) []string {
	if len(x.Cols) == 0 || r.Intn(10) == 0 {
		return []string{r.oneOf(nil)}
	}
	return planMaker{r.Rand}.some(colNames(x), 1+r.Intn(min(most, len(x.Cols))))
}

func (r execMaker) stmtOn(p impl.Plan, kind int) impl.Stmt {
	m := planMaker{r.Rand}
	lists := namesIn(p)
	s := impl.Stmt{Kind: kind, Name: r.oneOf(nil)}
	on, _ := tableByHand(p, r.oneOf(lists[2]))
	if strings.Contains(stmtKinds[kind].text, "alter table") && on.Name != "" {
		s.Name = on.Name
	}
	switch kind {
	case impl.StEnum:
		s.List = m.some(numbered(12), 1+r.Intn(12))
		if r.Intn(8) == 0 {
			s.List[0] = s.List[len(s.List)-1]
		}
	case impl.StDropEnum:
		s.Name = r.oneOf(lists[0])
	case impl.StSeq:
		s.Num = r.Intn(1000000000)
	case impl.StDropSeq:
		s.Name = r.oneOf(lists[1])
	case impl.StTable:
		s.Cols = m.cols(p)
		s.Rules = r.newRules(p, impl.Table{Name: s.Name, Cols: s.Cols})
		r.Shuffle(len(s.Cols), func(i, j int) { s.Cols[i], s.Cols[j] = s.Cols[j], s.Cols[i] })
	case impl.StDropTable:
		s.Name = r.oneOf(lists[2])
	case impl.StDropIndex:
		s.Name = r.oneOf(lists[3])
	case impl.StDropView:
		s.Name = r.oneOf(lists[4])
	case impl.StIndex:
		s.On, s.List, s.Flag = on.Name, r.selected(on, 5), r.Intn(2) == 0
	case impl.StView:
		s.On, s.List = on.Name, r.selected(on, 12)
		if r.Intn(6) > 0 {
			slices.Sort(s.List)
		}
		if r.Intn(2) == 0 {
			s.Exprs = []impl.Expr{m.condition(on)}
		}
	default:
		r.alter(p, on, &s)
	}
	if s.On == "" && strings.Contains(stmtKinds[kind].uses, "o") {
		s.On = r.oneOf(nil)
	}
	return s
}

func (r execMaker) alter(p impl.Plan, on impl.Table, s *impl.Stmt) {
	switch s.Kind {
	case impl.StAddCol:
		s.Cols = []impl.Col{{Name: r.oneOf(nil), Type: r.dataTypeOf(p)}}
		if cols := (planMaker{r.Rand}).cols(p); len(cols) > 0 && r.Intn(4) > 0 {
			s.Cols = cols[:1]
		}
	case impl.StAddRule:
		s.Rules = []impl.Rule{condition(r.oneOf(nil), op(impl.EpTrue))}
		if rules := r.newRules(p, on); len(rules) > 0 {
			s.Rules = rules[:1]
		}
	case impl.StDropRule:
		s.On = r.oneOf(ruleNames(on))
	default:
		s.On = r.oneOf(colNames(on))
	}
	switch c, _ := colByHand(on, s.On); {
	case s.Kind == impl.StColType:
		s.Type = []impl.Type{r.dataTypeOf(p), r.dataTypeOf(p), c.Type}[r.Intn(3)]
	case s.Kind == impl.StColNull:
		s.Flag = r.Intn(2) == 0
	case s.Kind == impl.StColDefault && r.Intn(3) > 0:
		s.Exprs = []impl.Expr{[]impl.Expr{lit(r.Intn(9)), quoted("x"), op(impl.EpTrue), op(impl.EpNull), quoted("n000001"), col("a")}[r.Intn(6)]}
	}
}

// checkMet asks for each answer that the statements of a kind can have, and for no other.
func checkMet(t *testing.T, met map[string]int, least int) {
	t.Helper()
	for kind, words := range refusedWords {
		for _, word := range append(strings.Fields(words), "ok", "args") {
			what := fmt.Sprint(kind, word)
			if met[what] < least {
				t.Errorf("kind %d is answered with %s %d times", kind, word, met[what])
			}
			delete(met, what)
		}
	}
	if len(met) > 0 {
		t.Error(met)
	}
}

func TestRandomStatementsOnRandomPlans(t *testing.T) {
	met := map[string]int{}
	random := execMaker{stmtMaker{rand.New(rand.NewSource(100))}}
	breaker := stmtBreaker{random.stmtMaker}
	for i, p := range somePlans(t, 900) {
		for kind := range 17 {
			for n := range 3 {
				s := random.stmtOn(p, kind)
				if n == 0 && i%2 == 0 {
					breaker.change(&s)
				}
				_, word := checkExecByHand(t, p, s, "plan ", i)
				met[fmt.Sprint(s.Kind, word)]++
			}
		}
		if t.Failed() {
			t.FailNow()
		}
	}
	for _, kind := range []int{-2, -1, 17, 18} {
		delete(met, fmt.Sprint(kind, "args"))
	}
	checkMet(t, met, 10)
}

func TestRandomStatementsOnBrokenPlans(t *testing.T) {
	met := map[string]int{}
	for i := range 1500 {
		random := execMaker{stmtMaker{rand.New(rand.NewSource(int64(i)))}}
		p := planMaker{random.Rand}.plan()
		var list []impl.Stmt
		for kind := range 17 {
			list = append(list, random.stmtOn(p, kind))
		}
		planBreaker{random.Rand}.change(&p)
		for _, s := range list {
			_, word := checkExecByHand(t, p, s, "plan ", i)
			met[word]++
		}
	}
	if met["ok"] < 500 || met["args"] < 10000 {
		t.Error(met)
	}
}

// A plan that grows and shrinks by many statements is valid all the time.
func TestLongWalks(t *testing.T) {
	met := map[string]int{}
	most := map[string]int{}
	for walk := range 15 {
		random := execMaker{stmtMaker{rand.New(rand.NewSource(int64(1000 + walk)))}}
		p := impl.Plan{Next: 1}
		for step := range 400 {
			kind := random.Intn(17)
			if random.Intn(2) == 0 {
				kind = []int{impl.StEnum, impl.StTable, impl.StTable, impl.StAddCol, impl.StAddRule, impl.StAddRule, impl.StIndex, impl.StView}[random.Intn(8)]
			}
			s := random.stmtOn(p, kind)
			if len(stmtFaults(s)) > 0 {
				t.Fatalf("%+v breaks %v", s, stmtFaults(s).words())
			}
			want, word := checkExecByHand(t, p, s, "walk ", walk, " step ", step)
			got, _ := impl.Exec(p, s)
			checkPlan(t, got, true, "walk ", walk, " step ", step)
			if t.Failed() || len(planFaults(want)) > 0 {
				t.FailNow()
			}
			p = got
			met[fmt.Sprint(kind, word)]++
			for i, list := range namesIn(p) {
				most[fmt.Sprint(i)] = max(most[fmt.Sprint(i)], len(list))
			}
		}
	}
	for kind := range 17 {
		if met[fmt.Sprint(kind, "ok")] < 20 {
			t.Errorf("kind %d is executed %d times", kind, met[fmt.Sprint(kind, "ok")])
		}
	}
	if most["0"] < 8 || most["1"] < 5 || most["2"] < 8 || most["3"] < 8 || most["4"] < 8 {
		t.Error(most)
	}
}

// dropping returns the statement that drops what a statement makes.
func dropping(s impl.Stmt) (impl.Stmt, bool) {
	switch s.Kind {
	case impl.StEnum, impl.StSeq, impl.StTable, impl.StIndex, impl.StView:
		return impl.Stmt{Kind: s.Kind + 1, Name: s.Name}, true
	case impl.StAddCol:
		return impl.Stmt{Kind: impl.StDropCol, Name: s.Name, On: s.Cols[0].Name}, true
	case impl.StAddRule:
		return impl.Stmt{Kind: impl.StDropRule, Name: s.Name, On: s.Rules[0].Name}, true
	}
	return impl.Stmt{}, false
}

// checkBack executes a statement that makes something and drops it again, and tells whether it could be made.
func checkBack(t *testing.T, p impl.Plan, s impl.Stmt) bool {
	t.Helper()
	drop, ok := dropping(s)
	made, code := impl.Exec(p, s)
	if !ok || code != impl.ExOk {
		return false
	}
	if samePlan(made, p) {
		t.Errorf("%+v makes nothing", s)
	}
	want := p
	if s.Kind == impl.StTable {
		want.Next++
	}
	checkExec(t, made, drop, want, impl.ExOk, "dropping again what ", impl.PutStmt(s))
	return true
}

func TestMadeAndDroppedAgain(t *testing.T) {
	met := map[int]int{}
	for _, x := range doneCases {
		p, s := ahead(t, execPlan(), x.text)
		if checkBack(t, p, s) {
			met[s.Kind]++
		}
	}
	random := execMaker{stmtMaker{rand.New(rand.NewSource(101))}}
	for _, p := range somePlans(t, 800) {
		for kind := range 17 {
			if s := random.stmtOn(p, kind); checkBack(t, p, s) {
				met[kind]++
			}
		}
	}
	if len(met) != 7 {
		t.Error(met)
	}
	for kind, n := range met {
		if n < 100 {
			t.Errorf("kind %d is made %d times", kind, n)
		}
	}
}

// What is not used may be dropped, and made again as it was; a table has another Token then.
func TestDroppedAndMadeAgain(t *testing.T) {
	met := map[string]int{}
	for _, p := range append(somePlans(t, 800), execPlan()) {
		for _, s := range creating(p) {
			drop, ok := dropping(s)
			if !ok {
				continue
			}
			rest, code := impl.Exec(p, drop)
			met[fmt.Sprint(drop.Kind, exWords[code])]++
			if code != impl.ExOk {
				continue
			}
			want := filledIn(p, false)
			if s.Kind == impl.StTable {
				want.Tables[slices.Index(namesIn(p)[2], s.Name)].Token = p.Next
				want.Next++
			}
			checkExec(t, rest, s, want, impl.ExOk, "making again what ", impl.PutStmt(drop))
		}
	}
	for _, what := range []string{"1ok", "1use", "3ok", "5ok", "5use", "7ok", "7use", "12ok", "12use", "14ok", "16ok"} {
		if met[what] < 50 {
			t.Errorf("%s %d times", what, met[what])
		}
		delete(met, what)
	}
	if len(met) > 0 {
		t.Error(met)
	}
}

func TestExecWithNilAndEmptyLists(t *testing.T) {
	check := func(p impl.Plan, s impl.Stmt) {
		want, word := execByHand(p, s)
		for _, empty := range []bool{false, true} {
			checkExec(t, filledIn(p, empty), filledStmt(s, !empty), want, slices.Index(exWords, word), empty)
			checkExec(t, filledIn(p, empty), filledStmt(s, empty), want, slices.Index(exWords, word), empty)
		}
	}
	for _, x := range doneCases {
		check(ahead(t, execPlan(), x.text))
	}
	for _, x := range refusedCases {
		check(ahead(t, execPlan(), x.text))
	}
	check(impl.Plan{Next: 1}, impl.Stmt{Kind: impl.StTable, Name: "t"})
	check(impl.Plan{}, impl.Stmt{Kind: impl.StTable, Name: "t"})
}

// region is a part of memory; a text may not be written to, but a list may.
type region struct {
	from uintptr
	to   uintptr
	text bool
}

// regionsOf finds all the strings and lists in a value, and in the spare capacity of its lists.
func regionsOf(x any) []region {
	var out []region
	var walk func(v reflect.Value)
	walk = func(v reflect.Value) {
		switch v.Kind() {
		case reflect.String:
			if s := v.String(); s != "" {
				from := uintptr(unsafe.Pointer(unsafe.StringData(s)))
				out = append(out, region{from, from + uintptr(len(s)), true})
			}
		case reflect.Struct:
			for i := range v.NumField() {
				walk(v.Field(i))
			}
		case reflect.Slice:
			if v.Cap() > 0 {
				out = append(out, region{v.Pointer(), v.Pointer() + uintptr(v.Cap())*v.Type().Elem().Size(), false})
			}
			whole := v.Slice(0, v.Cap())
			for i := range whole.Len() {
				walk(whole.Index(i))
			}
		}
	}
	walk(reflect.ValueOf(x))
	return out
}

// sharedMemory looks for memory of a result in the arguments, in another result or in another list of the same one.
func sharedMemory(args []any, results []any) string {
	type owned struct {
		region
		owner int
	}
	var all []owned
	for i, x := range slices.Concat(results, args) {
		for _, y := range regionsOf(x) {
			all = append(all, owned{y, i})
		}
	}
	slices.SortFunc(all, func(a, b owned) int { return cmp.Compare(a.from, b.from) })
	for i, a := range all {
		for _, b := range all[i+1:] {
			if b.from >= a.to {
				break
			}
			if min(a.owner, b.owner) < len(results) && (a.owner != b.owner || !a.text || !b.text) {
				return fmt.Sprintf("%d and %d share memory, of %d results and %d arguments", a.owner, b.owner, len(results), len(args))
			}
		}
	}
	return ""
}

func checkApart(t *testing.T, args []any, results ...any) {
	t.Helper()
	if got := sharedMemory(args, results); got != "" {
		t.Error(got)
	}
}

func TestSharedMemoryIsFound(t *testing.T) {
	list := []string{"one", "two"}
	clone := func(list []string) []string {
		out := make([]string, len(list), len(list)+1)
		for i, s := range list {
			out[i] = strings.Clone(s)
		}
		return out
	}
	one, two := labels("", clone(list)...), labels("", clone(list)...)
	twice := impl.Plan{Indexes: []impl.Index{{Cols: one.List}, {Table: strings.Clone("t"), Cols: one.List}}}
	for i, x := range []struct {
		args    []any
		results []any
		shared  bool
	}{
		{[]any{one}, []any{two}, false}, {nil, []any{one, two}, false}, {[]any{one, one}, []any{two}, false}, {[]any{twice}, []any{two}, false},
		{[]any{one}, []any{one}, true}, {nil, []any{one, one}, true}, {nil, []any{twice}, true}, {[]any{two}, []any{two, one}, true},
		{[]any{one}, []any{labels(one.List[1][1:])}, true}, {nil, []any{labels(one.List[1][1:]), labels(one.List[1][:2])}, true}, {nil, []any{labels(one.List[1], one.List[1])}, false},
		{[]any{labels("", one.List[:1]...)}, []any{labels("", one.List[1:]...)}, true}, {[]any{labels("", one.List[:1:1]...)}, []any{labels("", one.List[1:]...)}, false},
	} {
		if got := sharedMemory(x.args, x.results); (got != "") != x.shared {
			t.Errorf("case %d: %q", i, got)
		}
	}
}

// spoilPlan overwrites all the lists of a plan, with their spare capacity.
func spoilPlan(p impl.Plan) {
	texts := func(list []string) {
		for i := range list[:cap(list)] {
			list[:cap(list)][i] = "spoilt"
		}
	}
	for _, x := range p.Enums {
		texts(x.List)
	}
	for _, x := range p.Tables {
		spoil(impl.Stmt{Cols: x.Cols, Rules: x.Rules})
	}
	for _, x := range p.Indexes {
		texts(x.Cols)
	}
	for _, x := range p.Views {
		texts(x.Cols)
		overwrite(impl.Expr{Kids: x.Where})
	}
	clear(p.Enums[:cap(p.Enums)])
	clear(p.Seqs[:cap(p.Seqs)])
	clear(p.Tables[:cap(p.Tables)])
	clear(p.Indexes[:cap(p.Indexes)])
	clear(p.Views[:cap(p.Views)])
}

// execInputs returns plans with statements that are executed and refused, by every code.
func execInputs(t *testing.T) (plans []impl.Plan, stmts []impl.Stmt) {
	t.Helper()
	add := func(p impl.Plan, s impl.Stmt) { plans, stmts = append(plans, p), append(stmts, s) }
	for _, x := range doneCases {
		add(ahead(t, execPlan(), x.text))
	}
	for _, x := range refusedCases {
		add(ahead(t, execPlan(), x.text))
	}
	random := stmtBreaker{stmtMaker{rand.New(rand.NewSource(102))}}
	for _, p := range somePlans(t, 60) {
		for kind := range 17 {
			s := execMaker{random.stmtMaker}.stmtOn(p, kind)
			add(p, s)
			random.change(&s)
			add(p, s)
		}
	}
	for _, x := range brokenPlans {
		add(edited(x.change), onlyStmt(t, "drop view peek"))
	}
	return plans, stmts
}

// wholeExec writes both arguments with all the spare capacity of their lists.
func wholeExec(p impl.Plan, s impl.Stmt) string {
	text := wholePlan(p) + wholeStmt(s) + fmt.Sprint(p.Next)
	for _, x := range p.Enums[:cap(p.Enums)] {
		text += fmt.Sprintf("%q %q\n", x.Name, x.List[:cap(x.List)])
	}
	return text
}

// The spare capacity of a list is no part of it, and nothing is written there.
func TestExecArgumentsAreUnchanged(t *testing.T) {
	plans, stmts := execInputs(t)
	for i := range plans {
		p, s := roomyPlan(plans[i]), roomyStmt(stmts[i])
		want, word := execByHand(plans[i], stmts[i])
		before := wholeExec(p, s)
		checkExec(t, p, s, want, slices.Index(exWords, word), "with spare capacity")
		if after := wholeExec(p, s); after != before {
			t.Fatalf("%s became %s", before, after)
		}
	}
}

func TestExecResultsShareNoMemory(t *testing.T) {
	plans, stmts := execInputs(t)
	for i := range plans {
		p, s := roomyPlan(plans[i]), roomyStmt(stmts[i])
		want, word := execByHand(plans[i], stmts[i])
		first, _ := impl.Exec(p, s)
		second, _ := impl.Exec(p, s)
		checkApart(t, []any{p, s}, first, second)
		before := wholeExec(p, s)
		spoilPlan(first)
		if after := wholeExec(p, s); after != before {
			t.Fatalf("%s became %s", before, after)
		}
		if !samePlan(second, want) {
			t.Fatalf("%+v became %+v", want, second)
		}
		checkExec(t, p, s, want, slices.Index(exWords, word), "a second time")
		spoilPlan(p)
		spoil(s)
		if !samePlan(second, want) {
			t.Fatalf("%+v became %+v", want, second)
		}
		if t.Failed() {
			t.Fatalf("%+v on %+v", stmts[i], plans[i])
		}
	}
}

// Every call ends, also for expressions that contain themselves.
func TestExecOfEndlessArguments(t *testing.T) {
	valid := onlyStmt(t, "drop view peek")
	for i, e := range endlessExprs() {
		for j, change := range []func(p *impl.Plan){
			func(p *impl.Plan) { p.Tables[0].Cols[3].Default[0] = e },
			func(p *impl.Plan) { p.Tables[0].Rules[0].Expr[0] = e },
			func(p *impl.Plan) { p.Views[0].Where[0] = e },
		} {
			for _, s := range []impl.Stmt{valid, {}, {Kind: impl.StColDefault, Name: "item", On: "a", Exprs: []impl.Expr{e}}} {
				if got, code := impl.Exec(edited(change), s); code != impl.ExArgs || !samePlan(got, impl.Plan{}) {
					t.Error("plan", i, j, code)
				}
			}
		}
		for j, s := range []impl.Stmt{
			{Kind: impl.StColDefault, Name: "item", On: "a", Exprs: []impl.Expr{e}},
			{Kind: impl.StView, Name: "v", On: "item", List: []string{"a"}, Exprs: []impl.Expr{e}},
			withCol(impl.Col{Name: "c", Default: []impl.Expr{e}}), withRule(condition("c", e)), withRule(impl.Rule{Name: "k", Cols: []string{"a"}, Expr: []impl.Expr{e}}),
			{Kind: impl.StTable, Name: "new", Cols: []impl.Col{{Name: "c", Default: []impl.Expr{e}}}}, {Kind: impl.StTable, Name: "new", Rules: []impl.Rule{condition("c", e)}},
		} {
			if got, code := impl.Exec(execPlan(), s); code != impl.ExArgs || !samePlan(got, execPlan()) {
				t.Error("statement", i, j, code)
			}
		}
	}
}

func TestExecOfLargeArguments(t *testing.T) {
	many := numbered(200000)
	for i, change := range []func(p *impl.Plan){
		func(p *impl.Plan) { namedLists[0].fill(p, many) },
		func(p *impl.Plan) { namedLists[2].fill(p, many) },
		func(p *impl.Plan) { namedLists[3].fill(p, many) },
		func(p *impl.Plan) { p.Indexes[0].Cols = many },
		func(p *impl.Plan) { p.Enums[0].List[0] = strings.Repeat("a", 1<<20) },
	} {
		if got, code := impl.Exec(edited(change), onlyStmt(t, "drop view peek")); code != impl.ExArgs || !samePlan(got, impl.Plan{}) {
			t.Error(i, code)
		}
	}
	for i, s := range []impl.Stmt{
		{Kind: impl.StEnum, Name: "e", List: many}, {Kind: impl.StIndex, Name: "i", On: "item", List: many}, {Kind: impl.StDropView, Name: strings.Repeat("a", 1<<20)},
		{Kind: impl.StTable, Name: "new", Cols: make([]impl.Col, 200000)}, {Kind: impl.StDropView, Name: "peek", Rules: make([]impl.Rule, 200000)},
	} {
		checkExec(t, execPlan(), s, execPlan(), impl.ExArgs, i)
	}
}
