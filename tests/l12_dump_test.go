package tests

import (
	"fmt"
	"math/rand"
	"reflect"
	"runtime"
	"slices"
	"strings"
	"sync"
	"testing"
	"time"

	"loop.example/g00751/impl"
)

// untold returns the plan with all that Same does not look at set to zero.
func untold(p impl.Plan) impl.Plan {
	p.Next = 0
	p.Tables = slices.Clone(p.Tables)
	for i := range p.Tables {
		p.Tables[i].Token = 0
	}
	return p
}

func sameUntold(a, b impl.Plan) bool {
	return samePlan(untold(a), untold(b))
}

// dumpByHand goes through the statements for a plan once for each kind.
func dumpByHand(p impl.Plan) []impl.Stmt {
	if len(planFaults(p)) > 0 {
		return nil
	}
	var out []impl.Stmt
	for _, kind := range []int{impl.StEnum, impl.StSeq, impl.StTable, impl.StAddRule, impl.StIndex, impl.StView} {
		for _, s := range creating(p) {
			points := kind == impl.StAddRule && s.Rules != nil && s.Rules[0].Kind == impl.RuRef
			if s.Kind != kind || kind == impl.StAddRule && !points {
				continue
			}
			if kind == impl.StTable {
				s.Rules = slices.DeleteFunc(slices.Clone(s.Rules), func(r impl.Rule) bool { return r.Kind == impl.RuRef })
			}
			out = append(out, s)
		}
	}
	return out
}

// numberedFrom returns the plan as it is when its tables are made in their order from that Next on.
func numberedFrom(p impl.Plan, next int) impl.Plan {
	p = untold(p)
	for i := range p.Tables {
		p.Tables[i].Token = next + i
	}
	p.Next = next + len(p.Tables)
	return p
}

// checkSame asks in both orders.
func checkSame(t *testing.T, a, b impl.Plan, want bool, what ...any) {
	t.Helper()
	if impl.Same(a, b) != want || impl.Same(b, a) != want {
		t.Errorf("Same is not %v of %.1500s and %.1500s: %.300s", want, fmt.Sprintf("%+v", a), fmt.Sprintf("%+v", b), fmt.Sprint(what...))
	}
}

// checkDump holds the dump of a plan against what is wanted, and recovers the plan from it.
func checkDump(t *testing.T, p impl.Plan, want []impl.Stmt, what ...any) {
	t.Helper()
	got := impl.Dump(p)
	if !slices.EqualFunc(got, want, sameStmt) {
		t.Errorf("Dump of %.1500s = %.1500s, want %.1500s: %.300s", fmt.Sprintf("%+v", p), fmt.Sprintf("%+v", got), fmt.Sprintf("%+v", want), fmt.Sprint(what...))
	}
	var text strings.Builder
	for _, s := range want {
		text.WriteString(wantStmt(s) + ";\n")
	}
	if got := impl.DumpText(p); got != text.String() {
		t.Errorf("DumpText = %.1500q, want %.1500q: %.300s", got, text.String(), fmt.Sprint(what...))
	}
	for _, next := range []int{1, 1000000000 - len(p.Tables)} {
		made := impl.Plan{Next: next}
		for i, s := range got {
			var code int
			if made, code = impl.Exec(made, s); code != impl.ExOk {
				t.Errorf("statement %d of a dump is refused with code %d: %.300s", i, code, fmt.Sprint(what...))
			}
		}
		if !samePlan(made, numberedFrom(p, next)) {
			t.Errorf("the dump of %.1500s makes %.1500s: %.300s", fmt.Sprintf("%+v", p), fmt.Sprintf("%+v", made), fmt.Sprint(what...))
		}
		checkSame(t, made, p, true, what...)
	}
	if text.Len() <= impl.MaxText {
		checkLoad(t, text.String(), numberedFrom(p, 1), true, what...)
	}
}

func checkLoad(t *testing.T, s string, want impl.Plan, ok bool, what ...any) {
	t.Helper()
	got, gotOk := impl.Load(s)
	if gotOk != ok || !samePlan(got, want) {
		t.Errorf("Load of %.1500q = %.1500s and %v, want %.1500s: %.300s", s, fmt.Sprintf("%+v", got), gotOk, fmt.Sprintf("%+v", want), fmt.Sprint(what...))
	}
}

// checkNoDump is for invalid plans.
func checkNoDump(t *testing.T, p impl.Plan, what ...any) {
	t.Helper()
	if got := impl.Dump(p); len(got) != 0 {
		t.Errorf("Dump = %.1500s: %.300s", fmt.Sprintf("%+v", got), fmt.Sprint(what...))
	}
	if got := impl.DumpText(p); got != "" {
		t.Errorf("DumpText = %.1500q: %.300s", got, fmt.Sprint(what...))
	}
}

// fullLines is the dump of fullPlan but for what is behind its references.
var fullLines = []string{
	`create type mood as enum ('happy', 'sad')`,
	`create type size as enum ('small', 'big', 'item')`,
	`create sequence counter start 5`,
	`create sequence last start 0`,
	`create table item (a int not null, b text not null default 'x', c char(3), d bool default true, m enum mood default 'sad', n int, t text, ` +
		`constraint ck check (a < n or m = 'happy'), constraint pk primary key (a, b), constraint uq unique (c))`,
	`create table part (id int, k char(3), constraint u unique (id))`,
	`create table void ()`,
	`alter table item add constraint rf foreign key (n) references part (id)`,
	`alter table item add constraint self foreign key (n, t) references item (a, b)`,
	`alter table part add constraint own foreign key (k) references item (c)`,
}

// treeTable has a column for a reference beside its key.
func treeTable(name string, token int, rules ...impl.Rule) impl.Table {
	return impl.Table{Name: name, Token: token, Cols: []impl.Col{{Name: "id"}, {Name: "up"}}, Rules: append([]impl.Rule{key(impl.RuUnique, "k", "id")}, rules...)}
}

func upTo(table string) impl.Rule {
	return reference("r", []string{"up"}, table, "id")
}

// dumpedPlans are plans with the lines of their dumps, written by hand.
var dumpedPlans = []struct {
	plan  impl.Plan
	lines []string
}{
	{impl.Plan{Next: 1}, nil},
	{impl.Plan{Next: 1000000000}, nil},
	{impl.Plan{Enums: []impl.Labels{labels("mood", "happy", "sad")}, Next: 3}, []string{`create type mood as enum ('happy', 'sad')`}},
	{impl.Plan{Enums: []impl.Labels{labels("a", "y", "x"), labels("b", "x")}, Next: 1}, []string{`create type a as enum ('y', 'x')`, `create type b as enum ('x')`}},
	{impl.Plan{Seqs: []impl.Seq{{Name: "s"}}, Next: 1}, []string{`create sequence s start 0`}},
	{impl.Plan{Seqs: []impl.Seq{{Name: "B", Start: 7}, {Name: "a", Start: 999999999}}, Next: 1}, []string{`create sequence "B" start 7`, `create sequence a start 999999999`}},
	{impl.Plan{Tables: []impl.Table{{Name: "t", Token: 4}}, Next: 5}, []string{`create table t ()`}},
	{impl.Plan{Tables: []impl.Table{{Name: "a", Token: 2}, {Name: "b", Token: 1}}, Next: 3}, []string{`create table a ()`, `create table b ()`}},
	{impl.Plan{
		Tables:  []impl.Table{{Name: "t", Token: 1, Cols: []impl.Col{{Name: "a"}, {Name: "b"}}}},
		Indexes: []impl.Index{{Name: "i", Table: "t", Cols: []string{"b", "a"}, Unique: true}, {Name: "j", Table: "t", Cols: []string{"b"}}}, Next: 2,
	}, []string{`create table t (a int, b int)`, `create unique index i on t (b, a)`, `create index j on t (b)`}},
	{impl.Plan{
		Tables: []impl.Table{{Name: "t", Token: 1, Cols: []impl.Col{{Name: "a"}, {Name: "b"}}}},
		Views:  []impl.View{{Name: "u", Table: "t", Cols: []string{"a", "b"}}, {Name: "v", Table: "t", Cols: []string{"b"}, Where: []impl.Expr{op(impl.EpIsNull, col("a"))}}}, Next: 2,
	}, []string{`create table t (a int, b int)`, `create view u as select a, b from t`, `create view v as select b from t where a is null`}},
	{impl.Plan{Tables: []impl.Table{{Name: "t", Token: 1, Rules: []impl.Rule{condition("a", op(impl.EpTrue)), condition("b", op(impl.EpNull))}}}, Next: 2}, []string{`create table t (constraint a check (true), constraint b check (null))`}},
	{fullPlan(), append(slices.Clone(fullLines),
		`create index by on item (n, a)`, `create unique index one on part (id)`, `create view look as select a, d, m from item where d`, `create view peek as select k from part`,
	)},
	{execPlan(), slices.Concat(fullLines[:2], []string{`create type void as enum ('sad')`}, fullLines[2:7],
		[]string{`create table zone (both int not null, rev enum size default 'big', x int, y int, constraint both unique (x), constraint rev check (true))`}, fullLines[7:], []string{
			`alter table zone add constraint up foreign key (y) references zone (x)`, `create index by on item (n, a)`, `create unique index one on part (id)`,
			`create view look as select a, d, m from item where d`, `create view peek as select k from part`, `create view zoom as select x from zone where rev = 'big'`,
		},
	)},
	{impl.Plan{Tables: []impl.Table{treeTable("t", 1, upTo("t"))}, Next: 2}, []string{
		`create table t (id int, up int, constraint k unique (id))`, `alter table t add constraint r foreign key (up) references t (id)`,
	}},
	{impl.Plan{Tables: []impl.Table{treeTable("a", 1, upTo("z")), treeTable("z", 2)}, Next: 3}, []string{
		`create table a (id int, up int, constraint k unique (id))`, `create table z (id int, up int, constraint k unique (id))`, `alter table a add constraint r foreign key (up) references z (id)`,
	}},
	{impl.Plan{Tables: []impl.Table{treeTable("a", 2), treeTable("z", 1, upTo("a"))}, Next: 3}, []string{
		`create table a (id int, up int, constraint k unique (id))`, `create table z (id int, up int, constraint k unique (id))`, `alter table z add constraint r foreign key (up) references a (id)`,
	}},
	{impl.Plan{Tables: []impl.Table{treeTable("a", 1, upTo("b")), treeTable("b", 2, upTo("a"))}, Next: 3}, []string{
		`create table a (id int, up int, constraint k unique (id))`, `create table b (id int, up int, constraint k unique (id))`,
		`alter table a add constraint r foreign key (up) references b (id)`, `alter table b add constraint r foreign key (up) references a (id)`,
	}},
	{impl.Plan{Tables: []impl.Table{treeTable("a", 7, upTo("c")), treeTable("b", 8, upTo("a")), treeTable("c", 9, upTo("b"))}, Next: 10}, []string{
		`create table a (id int, up int, constraint k unique (id))`, `create table b (id int, up int, constraint k unique (id))`, `create table c (id int, up int, constraint k unique (id))`,
		`alter table a add constraint r foreign key (up) references c (id)`, `alter table b add constraint r foreign key (up) references a (id)`, `alter table c add constraint r foreign key (up) references b (id)`,
	}},
	{impl.Plan{Tables: []impl.Table{
		{Name: "m", Token: 1, Cols: []impl.Col{{Name: "a", NotNull: true}, {Name: "b", NotNull: true}, {Name: "c"}}, Rules: []impl.Rule{
			reference("a", []string{"c", "a"}, "m", "a", "b"), key(impl.RuPrimary, "b", "a", "b"), reference("c", []string{"b"}, "n", "x"), condition("d", op(impl.EpLt, col("a"), col("c"))),
			reference("e", []string{"c"}, "m", "c"), key(impl.RuUnique, "f", "c"), condition("g", op(impl.EpNull)), reference("h", []string{"a", "b"}, "m", "a", "b"),
		}},
		{Name: "n", Token: 2, Cols: []impl.Col{{Name: "x"}}, Rules: []impl.Rule{reference("a", []string{"x"}, "n", "x"), reference("b", []string{"x"}, "m", "c"), key(impl.RuUnique, "c", "x")}},
		{Name: "o", Token: 3, Cols: []impl.Col{{Name: "x"}}, Rules: []impl.Rule{reference("a", []string{"x"}, "m", "c"), reference("b", []string{"x"}, "n", "x")}},
	}, Next: 4}, []string{
		`create table m (a int not null, b int not null, c int, constraint b primary key (a, b), constraint d check (a < c), constraint f unique (c), constraint g check (null))`,
		`create table n (x int, constraint c unique (x))`, `create table o (x int)`,
		`alter table m add constraint a foreign key (c, a) references m (a, b)`, `alter table m add constraint c foreign key (b) references n (x)`,
		`alter table m add constraint e foreign key (c) references m (c)`, `alter table m add constraint h foreign key (a, b) references m (a, b)`,
		`alter table n add constraint a foreign key (x) references n (x)`, `alter table n add constraint b foreign key (x) references m (c)`,
		`alter table o add constraint a foreign key (x) references m (c)`, `alter table o add constraint b foreign key (x) references n (x)`,
	}},
	{impl.Plan{
		Enums: []impl.Labels{labels("Two words", "it's", "\"", "''", " ", ";"), labels("table", "A")}, Seqs: []impl.Seq{{Name: "\"", Start: 1}},
		Tables: []impl.Table{{Name: "Select", Token: 1, Cols: []impl.Col{
			{Name: "a\"b", Type: kindOf(impl.TyText), Default: []impl.Expr{quoted("it's \" -- ;\n")}}, {Name: "not", Type: enum("Two words"), NotNull: true, Default: []impl.Expr{quoted("it's")}}, {Name: "x'y", Type: enum("table")},
		}, Rules: []impl.Rule{condition("-- 1", op(impl.EpEq, col("a\"b"), quoted("'"))), key(impl.RuPrimary, "0", "not"), reference("key", []string{"not"}, "Select", "not")}}},
		Indexes: []impl.Index{{Name: "by ", Table: "Select", Cols: []string{"x'y", "not"}}}, Views: []impl.View{{Name: "View", Table: "Select", Cols: []string{"a\"b"}, Where: []impl.Expr{op(impl.EpNe, col("not"), quoted("''"))}}}, Next: 2,
	}, []string{
		`create type "Two words" as enum ('it''s', '"', '''''', ' ', ';')`, `create type "table" as enum ('A')`, `create sequence """" start 1`,
		`create table "Select" ("a""b" text default 'it''s " -- ;` + "\n" + `', "not" enum "Two words" not null default 'it''s', "x'y" enum "table", constraint "-- 1" check ("a""b" = ''''), constraint "0" primary key ("not"))`,
		`alter table "Select" add constraint "key" foreign key ("not") references "Select" ("not")`, `create index "by " on "Select" ("x'y", "not")`,
		`create view "View" as select "a""b" from "Select" where "not" <> ''''''`,
	}},
}

func TestDumpsByHand(t *testing.T) {
	kinds := map[int]int{}
	for i, x := range dumpedPlans {
		text := ""
		for _, line := range x.lines {
			text += line + ";\n"
		}
		if got := impl.DumpText(x.plan); got != text {
			t.Errorf("plan %d: DumpText = %s, want %s", i, got, text)
		}
		list := stmtsOf(t, text)
		checkDump(t, x.plan, list, i)
		if got := dumpByHand(x.plan); len(list) != len(x.lines) || !slices.EqualFunc(got, list, sameStmt) {
			t.Errorf("plan %d: %+v, want %+v", i, got, list)
		}
		for _, s := range list {
			kinds[s.Kind]++
		}
	}
	if len(kinds) != 6 {
		t.Error(kinds)
	}
}

func TestDumpsOfInvalidPlans(t *testing.T) {
	checkNoDump(t, impl.Plan{}, "the zero Plan")
	checkNoDump(t, impl.Plan{Next: -1})
	checkNoDump(t, impl.Plan{Next: 1000000001})
	for i, x := range brokenPlans {
		checkNoDump(t, edited(x.change), "invalid plan ", i)
	}
	for i, x := range namedLists {
		for n := x.most - 1; n <= x.most+1; n++ {
			p := filled(i, numbered(n)...)
			if n > x.most {
				checkNoDump(t, p, n, " ", x.word)
			} else {
				checkDump(t, p, dumpByHand(p), n, " ", x.word)
			}
		}
	}
}

func TestNamesInDumps(t *testing.T) {
	for i, x := range namedLists {
		for _, s := range sampleNames() {
			p := filled(i, s)
			checkDump(t, p, dumpByHand(p), x.word, " ", s)
			if !strings.Contains(impl.DumpText(p), wantName(s)) {
				t.Errorf("%s: %q is not in %q", x.word, s, impl.DumpText(p))
			}
		}
		for _, s := range badNames() {
			checkNoDump(t, filled(i, s), x.word, " ", s)
		}
	}
	for _, s := range sampleNames() {
		p := impl.Plan{Enums: []impl.Labels{labels("a", s), labels(s, "x", s+"x"[:min(1, 40-len(s))])}, Next: 2}
		p.Tables = []impl.Table{{Name: "t", Token: 1, Cols: []impl.Col{{Name: s, Type: enum("a"), Default: []impl.Expr{quoted(s)}}}, Rules: []impl.Rule{condition("c", op(impl.EpEq, col(s), quoted(s))), key(impl.RuUnique, "k", s), reference("r", []string{s}, "t", s)}}}
		p.Indexes = []impl.Index{{Name: "i!", Table: "t", Cols: []string{s}}}
		p.Views = []impl.View{{Name: "v!", Table: "t", Cols: []string{s}, Where: []impl.Expr{op(impl.EpNe, quoted(s), col(s))}}}
		sortLists(p)
		if p.Enums[0].Name != p.Enums[1].Name && len(planFaults(p)) == 0 {
			checkDump(t, p, dumpByHand(p), s)
		} else if s != "a" {
			t.Errorf("%q: %v", s, planFaults(p).words())
		}
	}
}

func TestTextsInDumps(t *testing.T) {
	for _, s := range []string{"", "'", "''", "\"", "it's", ";", ";\n", "--", "-- '\n", "\x00", "\xff\x80", "\\'", " ", "\n", "\t", strings.Repeat("'", 100), strings.Repeat("\x00", 100), "drop table t;", "null", "create"} {
		p := impl.Plan{Tables: []impl.Table{{Name: "t", Token: 1, Cols: []impl.Col{{Name: "a", Type: kindOf(impl.TyText), Default: []impl.Expr{quoted(s)}}, {Name: "b", Type: char(100), NotNull: true, Default: []impl.Expr{quoted(s)}}}, Rules: []impl.Rule{condition("c", op(impl.EpLt, col("a"), quoted(s)))}}}, Next: 2}
		p.Views = []impl.View{{Name: "v", Table: "t", Cols: []string{"a"}, Where: []impl.Expr{op(impl.EpNot, op(impl.EpEq, quoted(s), quoted("x")))}}}
		checkDump(t, p, dumpByHand(p), s)
		if n := strings.Count(impl.DumpText(p), "'"+strings.ReplaceAll(s, "'", "''")+"'"); n < 4 {
			t.Errorf("%q is %d times in the dump", s, n)
		}
	}
}

func TestColumnsInDumps(t *testing.T) {
	met := 0
	for _, notNull := range []bool{false, true} {
		for _, x := range defaultTable {
			for i, sign := range x.gives {
				p := basePlan()
				p.Enums = []impl.Labels{labels("mood", "sad", "both", "happy"), labels("size", "big", "both")}
				p.Tables[0].Cols = []impl.Col{{Name: "a", Type: defaultTypes[i], NotNull: notNull}, {Name: "b", Type: defaultTypes[i], NotNull: notNull, Default: []impl.Expr{parsed(t, x.text)}}}
				if sign != '+' {
					checkNoDump(t, p, x.text)
					continue
				}
				checkDump(t, p, dumpByHand(p), x.text)
				met++
			}
		}
	}
	if met < 60 {
		t.Error(met)
	}
}

// greatestPlan is full in each of its lists, and its names are as long as may be. Each table refers to another one or
// to itself by four columns.
func greatestPlan() impl.Plan {
	names := func(start string, n int) []string {
		var out []string
		for i := range n {
			out = append(out, fmt.Sprintf("%s%s%02d", start, strings.Repeat("\"", 38-len(start)), i))
		}
		return out
	}
	cols := names("c", 12)
	sum := col(cols[0])
	for range 18 {
		sum = op(impl.EpAdd, sum, lit(999999999))
	}
	deep := op(impl.EpNot, op(impl.EpNot, op(impl.EpIsNull, sum)))
	p := impl.Plan{Next: 1000000000}
	for i := range 10 {
		p.Enums = append(p.Enums, labels(names("e", 10)[i], names("'", 12)...))
		p.Seqs = append(p.Seqs, impl.Seq{Name: names("s", 10)[i], Start: 999999999})
		t := impl.Table{Name: names("t", 10)[i], Token: 999999999 - i}
		for j, s := range cols {
			c := impl.Col{Name: s, NotNull: true}
			if j >= 8 {
				c.Type, c.Default = enum(p.Enums[0].Name), []impl.Expr{quoted(p.Enums[0].List[j])}
			}
			t.Cols = append(t.Cols, c)
		}
		for j, s := range names("r", 8) {
			r := reference(s, []string{cols[8], cols[7], cols[0], cols[11]}, names("t", 10)[(i+j)%10], cols[8], cols[9], cols[10], cols[11])
			r.Cols = []string{cols[11], cols[8], cols[10], cols[9]}
			if j == 1 {
				r = condition(s, deep)
			}
			if j == 2 {
				r = key(impl.RuPrimary, s, cols[8:]...)
			}
			t.Rules = append(t.Rules, r)
		}
		p.Tables = append(p.Tables, t)
		p.Indexes = append(p.Indexes, impl.Index{Name: names("i", 10)[i], Table: t.Name, Cols: []string{cols[11], cols[2], cols[0], cols[5]}, Unique: i%2 == 0})
		p.Views = append(p.Views, impl.View{Name: names("v", 10)[i], Table: t.Name, Cols: cols, Where: []impl.Expr{deep}})
	}
	return p
}

func TestGreatestDump(t *testing.T) {
	p := greatestPlan()
	if got := planFaults(p).words(); len(got) > 0 || impl.Nodes(p.Views[9].Where[0]) != 40 || impl.Nodes(p.Tables[0].Rules[1].Expr[0]) != 40 {
		t.Fatal(got, impl.Nodes(p.Views[9].Where[0]))
	}
	checkDump(t, p, dumpByHand(p))
	if got := impl.Dump(p); len(got) != 10+10+10+10*6+10+10 {
		t.Error(len(got))
	}
	// The text is longer than Lex takes.
	text := impl.DumpText(p)
	if len(text) <= impl.MaxText {
		t.Fatal(len(text))
	}
	checkLoad(t, text, impl.Plan{}, false)
}

// planOfText is valid, and its dump has that length, which must be close to the limit.
func planOfText(t *testing.T, length int) impl.Plan {
	t.Helper()
	p := impl.Plan{Next: 11}
	for i, s := range numbered(10) {
		x := impl.Table{Name: s, Token: i + 1}
		for _, c := range numbered(12) {
			x.Cols = append(x.Cols, impl.Col{Name: c + "_" + letters(30), Type: kindOf(impl.TyText), NotNull: true, Default: []impl.Expr{quoted(letters(100))}})
		}
		p.Tables = append(p.Tables, x)
	}
	more := len(impl.Script(dumpByHand(p))) - length
	for i := range p.Tables {
		for j := range p.Tables[i].Cols {
			text := &p.Tables[i].Cols[j].Default[0].Text
			cut := max(0, min(more, 100))
			*text = (*text)[cut:]
			more -= cut
		}
	}
	if len(impl.Script(dumpByHand(p))) != length {
		t.Fatal(more)
	}
	return p
}

func TestDumpsAboutAsLongAsATextMayBe(t *testing.T) {
	for _, n := range []int{19998, 19999, 20000, 20001, 20002} {
		p := planOfText(t, n)
		checkDump(t, p, dumpByHand(p), n)
		if n <= 20000 {
			checkLoad(t, impl.DumpText(p), numberedFrom(p, 1), true)
		} else {
			checkLoad(t, impl.DumpText(p), impl.Plan{}, false)
			// The last newline and the last mark are not needed.
			checkLoad(t, impl.DumpText(p)[:n-2], numberedFrom(p, 1), true)
		}
	}
}

func TestRandomDumps(t *testing.T) {
	met := map[string]int{}
	for i, p := range somePlans(t, 1500) {
		list := dumpByHand(p)
		checkDump(t, p, list, "plan ", i)
		for _, s := range list {
			met[fmt.Sprint("kind ", s.Kind)]++
			for _, r := range s.Rules {
				met[fmt.Sprint("rule ", s.Kind, r.Kind)]++
				if r.Kind == impl.RuRef {
					met[fmt.Sprint("reference ", strings.Compare(s.Name, r.Table))]++
				}
			}
			met[fmt.Sprint("expressions ", s.Kind, len(s.Exprs))]++
		}
	}
	if len(met) != 6+4+3+7 {
		t.Error(met)
	}
	for what, n := range met {
		if n < 50 {
			t.Errorf("%s: %d", what, n)
		}
	}
}

// Tokens and Next are in no dump.
func TestEqualPlansHaveEqualDumps(t *testing.T) {
	plans := somePlans(t, 400)
	for i, p := range plans {
		q := numberedFrom(p, 1000+i)
		checkSame(t, p, q, true, i)
		if impl.DumpText(p) != impl.DumpText(q) || !slices.EqualFunc(impl.Dump(p), impl.Dump(q), sameStmt) {
			t.Errorf("plan %d: %s and %s", i, impl.DumpText(p), impl.DumpText(q))
		}
	}
	met := map[bool]int{}
	for i := range 4000 {
		p, q := planMaker{rand.New(rand.NewSource(int64(i % 200)))}.plan(), planMaker{rand.New(rand.NewSource(int64(i % 200)))}.plan()
		for range i % 3 {
			planBreaker{rand.New(rand.NewSource(int64(i)))}.change(&q)
		}
		want := sameUntold(p, q)
		checkSame(t, p, q, want, i)
		if len(planFaults(q)) == 0 {
			if got := impl.DumpText(p) == impl.DumpText(q); got != want {
				t.Errorf("change %d: %v", i, got)
			}
			met[want]++
		}
	}
	if met[true] < 500 || met[false] < 300 {
		t.Error(met)
	}
}

// changer makes one small change after another in what it is shown, and takes each back when it has been tried.
type changer struct {
	try func(path string)
}

func (c changer) set(v reflect.Value, to any, path string) {
	old := reflect.ValueOf(v.Interface())
	v.Set(reflect.ValueOf(to).Convert(v.Type()))
	c.try(path)
	v.Set(old)
}

func (c changer) walk(v reflect.Value, path string) {
	switch v.Kind() {
	case reflect.Int:
		for _, n := range []int64{v.Int() + 1, v.Int() - 1, v.Int() + 1<<32, -1 - v.Int()} {
			c.set(v, n, path)
		}
	case reflect.Bool:
		c.set(v, !v.Bool(), path)
	case reflect.String:
		s := v.String()
		c.set(v, s+"x", path)
		c.set(v, s+"\x00", path)
		if s != "" {
			c.set(v, "", path)
			c.set(v, s[1:], path)
			c.set(v, s[:len(s)-1]+"\xff", path)
		}
	case reflect.Struct:
		for i := range v.NumField() {
			c.walk(v.Field(i), path+"."+v.Type().Field(i).Name)
		}
	case reflect.Slice:
		c.list(v, path)
	}
}

// list does what it does to a list in new memory.
func (c changer) list(v reflect.Value, path string) {
	n := v.Len()
	with := func(places ...int) {
		to := reflect.MakeSlice(v.Type(), 0, n+1)
		for _, i := range places {
			if i < n {
				to = reflect.Append(to, v.Index(i))
			} else {
				to = reflect.Append(to, reflect.Zero(v.Type().Elem()))
			}
		}
		c.set(v, to.Interface(), path+" as a whole")
	}
	all := make([]int, n)
	for i := range all {
		all[i] = i
	}
	with(append(slices.Clone(all), n)...)
	with(append([]int{n}, all...)...)
	for i := range all {
		with(without(all, i)...)
		with(slices.Insert(slices.Clone(all), i, i)...)
		if i > 0 && fmt.Sprint(v.Index(i)) != fmt.Sprint(v.Index(i-1)) {
			other := slices.Clone(all)
			other[i-1], other[i] = i, i-1
			with(other...)
		}
	}
	for i := range n {
		c.walk(v.Index(i), path)
	}
}

// deepPlan has an expression of several levels in each place.
func deepPlan(t *testing.T) impl.Plan {
	t.Helper()
	p := execPlan()
	p.Tables[0].Cols[5].Default = []impl.Expr{parsed(t, "1 + 2 * (3 - 4)")}
	p.Tables[0].Rules[0].Expr = []impl.Expr{parsed(t, "not (a < 1 + n or b = 'it''s' and d) or c is null")}
	p.Views[0].Where = []impl.Expr{parsed(t, "null and (m = 'sad' or a - 5 > n)")}
	return p
}

func TestPlansThatDifferInOnePlace(t *testing.T) {
	p := deepPlan(t)
	checkPlan(t, p, true)
	met := map[string]int{}
	c := changer{func(path string) {
		want := path == ".Next" || path == ".Tables.Token"
		checkSame(t, p, deepPlan(t), want, path)
		if sameUntold(p, deepPlan(t)) != want {
			t.Error("nothing is changed:", path)
		}
		met[path]++
	}}
	c.walk(reflect.ValueOf(&p).Elem(), "")
	checkSame(t, p, deepPlan(t), true, "everything is taken back")
	for _, path := range strings.Fields(`.Enums.Name .Enums.List .Seqs.Name .Seqs.Start .Tables.Name .Tables.Cols.Name .Tables.Cols.Type.Kind .Tables.Cols.Type.Len .Tables.Cols.Type.Name .Tables.Cols.NotNull
		.Tables.Rules.Name .Tables.Rules.Kind .Tables.Rules.Cols .Tables.Rules.Table .Tables.Rules.To .Tables.Token .Indexes.Name .Indexes.Table .Indexes.Cols .Indexes.Unique .Views.Name .Views.Table .Views.Cols .Next`) {
		if met[path] == 0 {
			t.Errorf("%s is not changed", path)
		}
		delete(met, path)
	}
	for _, path := range strings.Fields(".Tables.Cols.Default .Tables.Rules.Expr .Views.Where") {
		for _, kids := range []string{"", ".Kids", ".Kids.Kids", ".Kids.Kids.Kids"} {
			for _, field := range strings.Fields(".Kind .Text .Num") {
				if met[path+kids+field] == 0 {
					t.Errorf("%s%s%s is not changed", path, kids, field)
				}
				delete(met, path+kids+field)
			}
		}
	}
	for path := range met {
		if !strings.HasSuffix(path, " as a whole") && !strings.Contains(path, ".Kids.Kids.Kids.Kids.") {
			t.Error(path)
		}
	}
	for _, path := range strings.Fields(".Enums .Enums.List .Seqs .Tables .Tables.Cols .Tables.Cols.Default .Tables.Cols.Default.Kids .Tables.Rules .Tables.Rules.Cols .Tables.Rules.Expr .Tables.Rules.Expr.Kids.Kids .Tables.Rules.To .Indexes .Indexes.Cols .Views .Views.Cols .Views.Where .Views.Where.Kids") {
		if met[path+" as a whole"] < 2 {
			t.Errorf("%s is not changed", path)
		}
	}
}

func TestSameOfInvalidPlans(t *testing.T) {
	checkSame(t, impl.Plan{}, impl.Plan{}, true)
	checkSame(t, impl.Plan{}, impl.Plan{Next: 1}, true)
	checkSame(t, impl.Plan{Next: -5}, impl.Plan{Next: 1000000001}, true)
	checkSame(t, impl.Plan{}, fullPlan(), false)
	for i, x := range brokenPlans {
		tokens := x.word == "token" || x.word == "token-twice"
		checkSame(t, edited(x.change), fullPlan(), tokens, i, x.word)
		checkSame(t, edited(x.change), edited(x.change), true, i, x.word)
		for j, y := range brokenPlans[:i] {
			p, q := edited(x.change), edited(y.change)
			checkSame(t, p, q, sameUntold(p, q), i, " and ", j)
		}
	}
	one, two := impl.Plan{Enums: []impl.Labels{labels("b"), labels("a")}}, impl.Plan{Enums: []impl.Labels{labels("a"), labels("b")}}
	checkSame(t, one, two, false, "another order")
	checkSame(t, one, impl.Plan{Enums: []impl.Labels{labels("b"), labels("a")}, Next: 7}, true)
	for i, list := range badNodes() {
		for j, other := range badNodes() {
			p, q := edited(func(p *impl.Plan) { p.Views[0].Where[0] = list }), edited(func(p *impl.Plan) { p.Views[0].Where[0] = other })
			checkSame(t, p, q, sameExpr(list, other), "nodes ", i, " and ", j)
		}
	}
	random := planBreaker{rand.New(rand.NewSource(120))}
	met := map[string]int{}
	for i := range 6000 {
		p, q := planMaker{rand.New(rand.NewSource(int64(i / 10)))}.plan(), planMaker{rand.New(rand.NewSource(int64(i / 10)))}.plan()
		random.change(&p)
		if i%2 == 0 {
			random.change(&q)
		}
		want := sameUntold(p, q)
		checkSame(t, p, q, want, i)
		met[fmt.Sprint(want, len(planFaults(p)) > 0, len(planFaults(q)) > 0)]++
	}
	for _, what := range []string{"true true true", "true true false", "false true true", "false true false", "false false true", "false false false", "true false false"} {
		if met[what] < 10 {
			t.Errorf("%s: %d", what, met[what])
		}
	}
}

func TestSameOfNilAndEmptyLists(t *testing.T) {
	empty := impl.Plan{Enums: []impl.Labels{}, Seqs: []impl.Seq{}, Tables: []impl.Table{}, Indexes: []impl.Index{}, Views: []impl.View{}}
	checkSame(t, empty, impl.Plan{}, true)
	plans := somePlans(t, 300)
	for _, x := range brokenPlans {
		plans = append(plans, edited(x.change))
	}
	for i, p := range plans {
		for _, list := range []bool{false, true} {
			checkSame(t, filledIn(p, list), filledIn(p, !list), true, i)
			checkSame(t, filledIn(p, list), roomyPlan(p), true, i)
			if got := impl.Dump(filledIn(p, list)); !slices.EqualFunc(got, dumpByHand(p), sameStmt) {
				t.Errorf("plan %d: %+v", i, got)
			}
		}
	}
	none, nothing := fullPlan(), fullPlan()
	none.Views[0].Where[0].Kids, nothing.Views[0].Where[0].Kids = nil, []impl.Expr{}
	checkSame(t, none, nothing, true)
}

// sameLoops are expressions that contain themselves, by one step or by several, and are all the same when they are followed.
func sameLoops() []impl.Expr {
	var out []impl.Expr
	for n := 1; n <= 4; n++ {
		lists := make([][]impl.Expr, n)
		for i := range lists {
			lists[i] = []impl.Expr{{Kind: impl.EpNot}}
		}
		for i := range lists {
			lists[i][0].Kids = lists[(i+1)%n]
		}
		out = append(out, lists[0][0], op(impl.EpNot, lists[0][0]))
	}
	return out
}

// Every call ends, also for expressions that contain themselves.
func TestDumpsOfEndlessPlans(t *testing.T) {
	changes := []func(p *impl.Plan, e impl.Expr){
		func(p *impl.Plan, e impl.Expr) { p.Tables[0].Cols[3].Default[0] = e },
		func(p *impl.Plan, e impl.Expr) { p.Tables[0].Rules[0].Expr[0] = e },
		func(p *impl.Plan, e impl.Expr) { p.Views[0].Where[0] = e },
	}
	same := func(i int, a, b impl.Expr, want bool, what ...any) {
		t.Helper()
		p, q := edited(func(p *impl.Plan) { changes[i](p, a) }), edited(func(p *impl.Plan) { changes[i](p, b) })
		if impl.Same(p, q) != want || impl.Same(q, p) != want {
			t.Error("Same is not", want, i, what)
		}
	}
	endless, again := endlessExprs(), endlessExprs()
	for i, change := range changes {
		for j, e := range endless {
			p := edited(func(p *impl.Plan) { change(p, e) })
			if impl.Dump(p) != nil || impl.DumpText(p) != "" {
				t.Error("dumped", i, j)
			}
			if impl.Same(p, fullPlan()) || impl.Same(fullPlan(), p) {
				t.Error("Same", i, j)
			}
			for k, other := range again {
				// The deep one takes its time.
				if i == 0 || j < 2 && k < 2 {
					same(i, e, other, j == k, j, k)
				}
			}
		}
		for j, e := range sameLoops() {
			for k, other := range sameLoops() {
				same(i, e, other, true, "loops", j, k)
			}
			same(i, e, chain(impl.EpNot, 5000, op(impl.EpNot)), false, "a loop and a long chain", j)
			same(i, e, op(impl.EpIsNull, e), false, "a loop with another start", j)
		}
		deep := func(n int, leaf impl.Expr) impl.Expr { return chain(impl.EpNot, n, leaf) }
		one, two := []impl.Expr{lit(1), lit(2)}, []impl.Expr{lit(1), lit(3)}
		same(i, op(impl.EpAnd, op(impl.EpNot, one[:1]...), op(impl.EpNot, one...)), op(impl.EpAnd, op(impl.EpNot, two[:1]...), op(impl.EpNot, two...)), false, "the longer list comes last")
		same(i, op(impl.EpAnd, op(impl.EpNot, one...), op(impl.EpNot, one[:1]...)), op(impl.EpAnd, op(impl.EpNot, two...), op(impl.EpNot, two[:1]...)), false, "the longer list comes first")
		same(i, deep(100000, lit(1)), deep(100000, lit(2)), false, "another end")
		same(i, deep(100000, lit(1)), deep(99999, lit(1)), false, "another depth")
		same(i, op(impl.EpAnd, make([]impl.Expr, 200000)...), op(impl.EpAnd, make([]impl.Expr, 200000)...), true, "many kids")
		same(i, op(impl.EpAnd, make([]impl.Expr, 200000)...), op(impl.EpAnd, append(make([]impl.Expr, 199999), lit(0))...), false, "the last kid")
	}
}

func TestDumpsOfLargeInvalidPlans(t *testing.T) {
	many := numbered(200000)
	for i, change := range []func(p *impl.Plan){
		func(p *impl.Plan) { namedLists[0].fill(p, many) },
		func(p *impl.Plan) { namedLists[2].fill(p, many) },
		func(p *impl.Plan) { p.Indexes[0].Cols = many },
		func(p *impl.Plan) { p.Tables[0].Rules[2].To = many },
		func(p *impl.Plan) { p.Enums[0].List[0] = strings.Repeat("a", 1<<20) },
	} {
		checkNoDump(t, edited(change), i)
		if !impl.Same(edited(change), edited(change)) || impl.Same(edited(change), fullPlan()) {
			t.Error(i)
		}
	}
}

func TestLoadOfNothing(t *testing.T) {
	for _, s := range []string{"", " ", "\n", " \t\r\n ", ";", ";;", " ; ; ;\n", "-- nothing", "--", "--\n--\n", "-- ;\n;-- ;", "-- create table t ();", "; -- 'open\n;", strings.Repeat(";", 20000), strings.Repeat(" ", 20000), "--" + strings.Repeat("!", 19998)} {
		checkLoad(t, s, impl.Plan{Next: 1}, true)
	}
}

func TestLoadOfOtherStatements(t *testing.T) {
	dump := impl.Script(dumpByHand(execPlan()))
	loaded := numberedFrom(execPlan(), 1)
	for _, x := range doneCases {
		want, code, at := runByHand(loaded, x.text)
		if code != impl.BtOk {
			t.Fatal(x.text, code, at)
		}
		checkLoad(t, dump+x.text, want, true, x.text)
		checkLoad(t, strings.ReplaceAll(dump, "\n", " -- ;\n ;")+x.text+";", want, true, x.text)
	}
	want, _, _ := runByHand(loaded, longBatch)
	checkLoad(t, dump+longBatch, want, true)
	checkLoad(t, "create table a (); drop table a; create table b (z int, a text, constraint k unique (z)); create type e as enum ('x'); drop type e;", impl.Plan{
		Tables: []impl.Table{{Name: "b", Token: 2, Cols: []impl.Col{column("a", kindOf(impl.TyText)), {Name: "z"}}, Rules: []impl.Rule{key(impl.RuUnique, "k", "z")}}}, Next: 3,
	}, true)
	checkLoad(t, "create table t (); alter table t add column b int; alter table t add column a text; alter table t add constraint u unique (b); alter table t alter column a set not null", impl.Plan{
		Tables: []impl.Table{{Name: "t", Token: 1, Cols: []impl.Col{{Name: "a", Type: kindOf(impl.TyText), NotNull: true}, {Name: "b"}}, Rules: []impl.Rule{key(impl.RuUnique, "u", "b")}}}, Next: 2,
	}, true)
}

func TestLoadOfRefusedTexts(t *testing.T) {
	dump := impl.Script(dumpByHand(execPlan()))
	for _, s := range []string{"'", "!", "junk", "drop", "create table", "create table new (", "007", "\"", "drop view look junk", "create sequence a start 1000000000", strings.Repeat(" ", 20000) + ";", "junk" + strings.Repeat(";", 19996)} {
		checkLoad(t, s, impl.Plan{}, false)
		checkLoad(t, dump+s, impl.Plan{}, false)
	}
	codes := map[int]bool{}
	for _, x := range refusedCases {
		_, code, _ := runByHand(numberedFrom(execPlan(), 1), x.text)
		_, _, at := runByHand(impl.Plan{Next: 1}, dump+x.text)
		if code != impl.BtStmt {
			t.Error(x.text, code)
		}
		codes[at%10] = true
		checkLoad(t, dump+x.text, impl.Plan{}, false, x.text)
		checkLoad(t, dump+x.text+"; drop view look", impl.Plan{}, false, x.text)
	}
	if len(codes) != 6 {
		t.Error(codes)
	}
	for _, s := range []string{"drop view look", "drop table t", "create view v as select a from t", "create index i on t (a)", "alter table t add column a int", "create table a (); create table a ()", "create table t (a int, a int)", "create table t (a enum e)"} {
		checkLoad(t, s, impl.Plan{}, false)
		checkLoad(t, "create table x ();"+s, impl.Plan{}, false)
	}
	checkLoad(t, dump+dump, impl.Plan{}, false)
}

// Without one of its statements, or with two in another order, many a dump cannot be loaded.
func TestLoadOfChangedDumps(t *testing.T) {
	met := map[bool]int{}
	check := func(s string) {
		want, code, _ := runByHand(impl.Plan{Next: 1}, s)
		if code != impl.BtOk {
			want = impl.Plan{}
		}
		checkLoad(t, s, want, code == impl.BtOk)
		met[code == impl.BtOk]++
	}
	for _, p := range append(somePlans(t, 60), execPlan()) {
		list := dumpByHand(p)
		for i := range list {
			check(impl.Script(without(list, i)))
			other := slices.Clone(list)
			other[0], other[i] = other[i], other[0]
			check(impl.Script(other))
		}
		random := rand.New(rand.NewSource(int64(len(list))))
		for range 10 {
			s := impl.Script(list)
			check(s[:random.Intn(len(s)+1)])
		}
	}
	if met[true] < 200 || met[false] < 200 {
		t.Error(met)
	}
}

func TestLoadOfRandomTexts(t *testing.T) {
	met := map[bool]int{}
	random := scriptMaker{execMaker{stmtMaker{rand.New(rand.NewSource(121))}}}
	tokens := tokenBreaker{random.stmtMaker, oddTokens()}
	for i, p := range somePlans(t, 200) {
		list := tokensOf(t, impl.Script(append(dumpByHand(p), random.list(numberedFrom(p, 1), random.Intn(5))...)))
		for range 3 {
			text := dressed(random.Rand, list)
			want, code, _ := runByHand(impl.Plan{Next: 1}, text)
			if code != impl.BtOk {
				want = impl.Plan{}
			}
			checkLoad(t, text, want, code == impl.BtOk, i)
			met[code == impl.BtOk]++
			list = tokens.change(list, list)
		}
	}
	if met[true] < 150 || met[false] < 150 {
		t.Error(met)
	}
}

// dumpInputs returns valid and invalid plans.
func dumpInputs(t *testing.T) []impl.Plan {
	t.Helper()
	out := append(somePlans(t, 150), execPlan(), deepPlan(t), greatestPlan(), impl.Plan{})
	for _, x := range dumpedPlans {
		out = append(out, x.plan)
	}
	for _, x := range brokenPlans {
		out = append(out, edited(x.change))
	}
	return out
}

// The spare capacity of a list is no part of it, and nothing is written there.
func TestDumpArgumentsAreUnchanged(t *testing.T) {
	for _, given := range dumpInputs(t) {
		p, q := roomyPlan(given), roomyPlan(given)
		before := wholeExec(p, impl.Stmt{})
		list := impl.Dump(p)
		if want := dumpByHand(given); !slices.EqualFunc(list, want, sameStmt) || impl.DumpText(p) != impl.Script(want) {
			t.Errorf("%+v of %+v", list, given)
		}
		checkSame(t, p, q, true, "with spare capacity")
		checkSame(t, p, given, true, "with spare capacity")
		if wholeExec(p, impl.Stmt{}) != before || wholeExec(q, impl.Stmt{}) != before {
			t.Fatalf("%s became %s", before, wholeExec(p, impl.Stmt{}))
		}
	}
}

func TestDumpResultsShareNoMemory(t *testing.T) {
	for _, given := range dumpInputs(t) {
		p := roomyPlan(given)
		want := dumpByHand(given)
		text := impl.Script(want)
		loaded, _, _ := runByHand(impl.Plan{Next: 1}, text)
		if len(text) > impl.MaxText {
			loaded = impl.Plan{}
		}
		first, second, firstText, secondText := impl.Dump(p), impl.Dump(p), impl.DumpText(p), impl.DumpText(p)
		one, _ := impl.Load(text)
		two, _ := impl.Load(text)
		checkApart(t, []any{p, text}, first, second, firstText, secondText, one, two)
		before := wholeExec(p, impl.Stmt{})
		for _, s := range first {
			spoil(s)
		}
		clear(first[:cap(first)])
		spoilPlan(one)
		if after := wholeExec(p, impl.Stmt{}); after != before {
			t.Fatalf("%s became %s", before, after)
		}
		spoilPlan(p)
		if !slices.EqualFunc(second, want, sameStmt) || secondText != text || !samePlan(two, loaded) {
			t.Fatalf("%+v became %+v", want, second)
		}
		if t.Failed() {
			t.FailNow()
		}
	}
}

// No goroutine of a dump is left when it is done, and dumps may be made side by side.
func TestDumpsSideBySide(t *testing.T) {
	plans := dumpInputs(t)
	before := runtime.NumGoroutine()
	var group sync.WaitGroup
	for range 8 {
		group.Go(func() {
			for i, p := range plans {
				if got, want := impl.DumpText(p), impl.Script(dumpByHand(p)); got != want {
					t.Errorf("plan %d: %q, want %q", i, got, want)
				}
			}
		})
	}
	group.Wait()
	for range 1000 {
		if runtime.NumGoroutine() <= before {
			return
		}
		time.Sleep(time.Millisecond)
	}
	t.Errorf("%d goroutines, and %d before", runtime.NumGoroutine(), before)
}
