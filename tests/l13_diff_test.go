package tests

import (
	"fmt"
	"math/rand"
	"reflect"
	"slices"
	"strings"
	"testing"

	"loop.example/g00751/impl"
)

// differ writes the statements for two valid plans, and does at once what each of them says, so that it sees what is
// there at every point.
type differ struct {
	a, b, now impl.Plan
	out       []impl.Stmt
	changed   map[string]bool
	gone      map[[2]string]bool
	moves     map[[2]string]bool
	held      map[[2]string]bool
	reasons   map[string]int
}

func (d *differ) add(s impl.Stmt) {
	d.out = append(d.out, s)
	d.now = doneByHand(d.now, s)
}

// because counts all the reasons that hold at once, and tells whether there are any.
func (d *differ) because(what string, reasons map[string]bool) bool {
	var words []string
	for word, holds := range reasons {
		if holds {
			words = append(words, word)
		}
	}
	slices.Sort(words)
	d.reasons[what+": "+strings.Join(words, " ")]++
	return len(words) > 0
}

func enumByHand(p impl.Plan, name string) (impl.Labels, bool) {
	at := slices.Index(namesIn(p)[0], name)
	if at < 0 {
		return impl.Labels{}, false
	}
	return p.Enums[at], true
}

func ruleByName(t impl.Table, name string) (impl.Rule, bool) {
	at := slices.Index(ruleNames(t), name)
	if at < 0 {
		return impl.Rule{}, false
	}
	return t.Rules[at], true
}

func (d *differ) common(table string) bool {
	_, inA := tableByHand(d.a, table)
	_, inB := tableByHand(d.b, table)
	return inA && inB
}

// define finds what is changed, gone, moves or is held.
func (d *differ) define() {
	for _, x := range d.a.Enums {
		y, there := enumByHand(d.b, x.Name)
		d.changed[x.Name] = there && fmt.Sprintf("%q", x.List) != fmt.Sprintf("%q", y.List)
	}
	for _, t := range d.a.Tables {
		u, common := tableByHand(d.b, t.Name)
		for _, x := range t.Cols {
			y, there := colByHand(u, x.Name)
			at := [2]string{t.Name, x.Name}
			d.gone[at] = common && (!there || !turnsByHand(x.Type, y.Type))
			d.moves[at] = there && (d.gone[at] || wantType(x.Type) != wantType(y.Type) || y.Type.Kind == impl.TyEnum && d.changed[y.Type.Name])
		}
		for _, x := range t.Rules {
			y, there := ruleByName(u, x.Name)
			isKey := x.Kind == impl.RuPrimary || x.Kind == impl.RuUnique
			d.held[[2]string{t.Name, x.Name}] = isKey && there && sameRule(x, y) && !d.any(d.gone, t.Name, x.Cols, nil)
		}
	}
}

// any looks for a column of the table that is one of those, or in an expression.
func (d *differ) any(what map[[2]string]bool, table string, cols []string, exprs []impl.Expr) bool {
	for at, holds := range what {
		if holds && at[0] == table && (slices.Contains(cols, at[1]) || mentionedIn(exprs, impl.EpCol, at[1])) {
			return true
		}
	}
	return false
}

func (d *differ) dropViewsRefsIndexes() {
	for _, x := range d.a.Views {
		if d.because("view", map[string]bool{
			"differs": !slices.ContainsFunc(d.b.Views, func(y impl.View) bool { return sameView(x, y) }),
			"table":   !d.common(x.Table), "moves": d.any(d.moves, x.Table, x.Cols, x.Where),
		}) {
			d.add(impl.Stmt{Kind: impl.StDropView, Name: x.Name})
		}
	}
	for _, t := range d.a.Tables {
		for _, r := range t.Rules {
			if r.Kind != impl.RuRef {
				continue
			}
			u, _ := tableByHand(d.b, t.Name)
			target, _ := tableByHand(d.a, r.Table)
			if d.because("reference", map[string]bool{
				"own": !d.common(t.Name), "differs": !slices.ContainsFunc(u.Rules, func(y impl.Rule) bool { return sameRule(r, y) }),
				"moves": d.any(d.moves, t.Name, r.Cols, nil), "table": !d.common(r.Table), "to": d.any(d.moves, r.Table, r.To, nil),
				"key": !slices.ContainsFunc(target.Rules, func(k impl.Rule) bool {
					return d.held[[2]string{r.Table, k.Name}] && slices.Equal(k.Cols, r.To)
				}),
			}) {
				d.add(impl.Stmt{Kind: impl.StDropRule, Name: t.Name, On: r.Name})
			}
		}
	}
	for _, x := range d.a.Indexes {
		if d.because("index", map[string]bool{
			"differs": !slices.ContainsFunc(d.b.Indexes, func(y impl.Index) bool { return sameIndex(x, y) }),
			"table":   !d.common(x.Table), "gone": d.any(d.gone, x.Table, x.Cols, nil),
		}) {
			d.add(impl.Stmt{Kind: impl.StDropIndex, Name: x.Name})
		}
	}
}

func (d *differ) dropRulesTablesSeqs() {
	for _, t := range d.a.Tables {
		u, common := tableByHand(d.b, t.Name)
		for _, r := range t.Rules {
			same := slices.ContainsFunc(u.Rules, func(y impl.Rule) bool { return sameRule(r, y) })
			switch {
			case !common || r.Kind == impl.RuRef:
				continue
			case r.Kind == impl.RuCheck:
				if !d.because("check", map[string]bool{"differs": !same, "moves": d.any(d.moves, t.Name, nil, r.Expr)}) {
					continue
				}
			default:
				if d.because("key", map[string]bool{"differs": !same, "gone": d.any(d.gone, t.Name, r.Cols, nil)}) == d.held[[2]string{t.Name, r.Name}] {
					panic("a key is held and is not")
				}
				if d.held[[2]string{t.Name, r.Name}] {
					continue
				}
			}
			d.add(impl.Stmt{Kind: impl.StDropRule, Name: t.Name, On: r.Name})
		}
	}
	for _, t := range d.a.Tables {
		if !d.common(t.Name) {
			d.add(impl.Stmt{Kind: impl.StDropTable, Name: t.Name})
		}
	}
	for _, x := range d.a.Seqs {
		if !slices.Contains(d.b.Seqs, x) {
			d.add(impl.Stmt{Kind: impl.StDropSeq, Name: x.Name})
		}
	}
}

func (d *differ) loosenCols() {
	for _, t := range d.a.Tables {
		u, common := tableByHand(d.b, t.Name)
		for _, x := range t.Cols {
			y, there := colByHand(u, x.Name)
			at := [2]string{t.Name, x.Name}
			if !common {
				continue
			}
			if d.gone[at] {
				d.because("column", map[string]bool{"only in a": !there, "does not turn": there})
				d.add(impl.Stmt{Kind: impl.StDropCol, Name: t.Name, On: x.Name})
				continue
			}
			_, enumThere := enumByHand(d.b, x.Type.Name)
			isEnum := x.Type.Kind == impl.TyEnum
			without := len(x.Default) > 0 && d.because("default", map[string]bool{
				"moves": d.moves[at], "none": len(y.Default) == 0, "other": len(y.Default) > 0 && !sameExpr(x.Default[0], y.Default[0]),
			})
			if without {
				d.add(impl.Stmt{Kind: impl.StColDefault, Name: t.Name, On: x.Name})
			}
			if x.NotNull && !y.NotNull {
				d.add(impl.Stmt{Kind: impl.StColNull, Name: t.Name, On: x.Name})
			}
			if d.because("to text", map[string]bool{"changed": isEnum && d.changed[x.Type.Name], "missing": isEnum && !enumThere}) {
				d.add(impl.Stmt{Kind: impl.StColType, Name: t.Name, On: x.Name, Type: kindOf(impl.TyText)})
			}
		}
	}
}

func (d *differ) replaceEnums() {
	for _, x := range d.a.Enums {
		if _, there := enumByHand(d.b, x.Name); !there || d.changed[x.Name] {
			d.add(impl.Stmt{Kind: impl.StDropEnum, Name: x.Name})
		}
	}
	for _, x := range d.b.Enums {
		if _, there := enumByHand(d.a, x.Name); !there || d.changed[x.Name] {
			d.add(impl.Stmt{Kind: impl.StEnum, Name: x.Name, List: x.List})
		}
	}
}

func (d *differ) fitCols() {
	for _, u := range d.b.Tables {
		t, common := tableByHand(d.a, u.Name)
		for _, y := range u.Cols {
			x, there := colByHand(t, y.Name)
			at := [2]string{u.Name, y.Name}
			if !common {
				continue
			}
			if !there || d.gone[at] {
				d.add(impl.Stmt{Kind: impl.StAddCol, Name: u.Name, Cols: []impl.Col{y}})
				continue
			}
			left, _ := tableByHand(d.now, u.Name)
			now, _ := colByHand(left, y.Name)
			if wantType(now.Type) != wantType(y.Type) {
				d.because("type", map[string]bool{wantType(now.Type)[:3] + " to " + wantType(y.Type)[:3]: true, "twice": wantType(now.Type) != wantType(x.Type)})
				d.add(impl.Stmt{Kind: impl.StColType, Name: u.Name, On: y.Name, Type: y.Type})
			}
			if len(y.Default) > 0 && len(now.Default) == 0 {
				d.add(impl.Stmt{Kind: impl.StColDefault, Name: u.Name, On: y.Name, Exprs: y.Default})
			}
			if y.NotNull && !x.NotNull {
				d.add(impl.Stmt{Kind: impl.StColNull, Name: u.Name, On: y.Name, Flag: true})
			}
		}
	}
}

func (d *differ) createTheRest() {
	for _, x := range d.b.Seqs {
		if !slices.Contains(d.a.Seqs, x) {
			d.add(impl.Stmt{Kind: impl.StSeq, Name: x.Name, Num: x.Start})
		}
	}
	for _, s := range dumpByHand(d.b) {
		if s.Kind == impl.StTable && !d.common(s.Name) {
			d.add(s)
		}
	}
	for _, refs := range []bool{false, true} {
		for _, s := range dumpByHand(d.b) {
			if refs && s.Kind == impl.StIndex && !slices.Contains(namesIn(d.now)[3], s.Name) {
				d.add(s)
			}
		}
		for _, u := range d.b.Tables {
			left, _ := tableByHand(d.now, u.Name)
			for _, r := range u.Rules {
				if (r.Kind == impl.RuRef) == refs && !slices.Contains(ruleNames(left), r.Name) {
					d.add(impl.Stmt{Kind: impl.StAddRule, Name: u.Name, Rules: []impl.Rule{r}})
				}
			}
		}
	}
	for _, s := range dumpByHand(d.b) {
		if s.Kind == impl.StView && !slices.Contains(namesIn(d.now)[4], s.Name) {
			d.add(s)
		}
	}
}

// diffByHand restates the chapter, and counts the reasons that it meets.
func diffByHand(a, b impl.Plan, reasons map[string]int) []impl.Stmt {
	if len(planFaults(a)) > 0 || len(planFaults(b)) > 0 {
		return nil
	}
	d := &differ{a: a, b: b, now: a, changed: map[string]bool{}, gone: map[[2]string]bool{}, moves: map[[2]string]bool{}, held: map[[2]string]bool{}, reasons: reasons}
	d.define()
	d.dropViewsRefsIndexes()
	d.dropRulesTablesSeqs()
	d.loosenCols()
	d.replaceEnums()
	d.fitCols()
	d.createTheRest()
	return d.out
}

// turnedInto is b as it is when it is made of a: the tables of both have their Tokens in a, and the new ones follow in
// their order.
func turnedInto(a, b impl.Plan) impl.Plan {
	out := filledIn(b, false)
	out.Next = a.Next
	for i, x := range out.Tables {
		if y, common := tableByHand(a, x.Name); common {
			out.Tables[i].Token = y.Token
		} else {
			out.Tables[i].Token = out.Next
			out.Next++
		}
	}
	return out
}

// wantDiff holds the statements against what is wanted, and carries them out one after the other.
func wantDiff(t *testing.T, a, b impl.Plan, want []impl.Stmt, what ...any) {
	t.Helper()
	got := impl.Diff(a, b)
	if !slices.EqualFunc(got, want, sameStmt) {
		t.Errorf("Diff of %.1500s and %.1500s =\n%.1500s, want\n%.1500s: %.600s", fmt.Sprintf("%+v", a), fmt.Sprintf("%+v", b), impl.Script(got), impl.Script(want), fmt.Sprint(what...))
	}
	now := a
	for i, s := range got {
		next, code := impl.Exec(now, s)
		if code != impl.ExOk || !impl.PlanOk(next) {
			t.Fatalf("statement %d is answered with code %d: %s: %.600s", i, code, impl.Script(got), fmt.Sprint(what...))
		}
		now = next
	}
	if !samePlan(now, turnedInto(a, b)) {
		t.Errorf("%.1500s becomes %.1500s, not %.1500s: %.600s", fmt.Sprintf("%+v", a), fmt.Sprintf("%+v", now), fmt.Sprintf("%+v", b), fmt.Sprint(what...))
	}
	if rest := impl.Diff(now, b); len(rest) > 0 || !impl.Same(now, b) {
		t.Errorf("still different by %s: %.600s", impl.Script(rest), fmt.Sprint(what...))
	}
	var common []string
	for _, x := range a.Tables {
		if _, there := tableByHand(b, x.Name); there {
			common = append(common, x.Name)
		}
	}
	if kept := impl.Kept(a, now); !slices.Equal(kept, common) {
		t.Errorf("%q are kept, want %q: %.600s", kept, common, fmt.Sprint(what...))
	}
}

// checkDiff goes there and back.
func checkDiff(t *testing.T, a, b impl.Plan, reasons map[string]int, what ...any) {
	t.Helper()
	wantDiff(t, a, b, diffByHand(a, b, reasons), what...)
	wantDiff(t, b, a, diffByHand(b, a, reasons), append(what, " back")...)
}

func checkNoDiff(t *testing.T, a, b impl.Plan, what ...any) {
	t.Helper()
	if got := impl.Diff(a, b); len(got) > 0 {
		t.Errorf("Diff = %s: %.600s", impl.Script(got), fmt.Sprint(what...))
	}
}

func loaded(t *testing.T, text string) impl.Plan {
	t.Helper()
	p, code, at := impl.Run(impl.Empty(1), text)
	if code != impl.BtOk {
		t.Fatalf("%q is refused with %d at %d", text, code, at)
	}
	return p
}

// diffCase has the texts that make a and b: what both start and end with, and what only one of them has between that.
type diffCase struct {
	start, a, b, end string
	want             string
}

// diffCases have the statements from a to b, written by hand.
var diffCases = []diffCase{
	// Nothing.
	{"", "", "", "", ""},
	{`create type e as enum ('x'); create sequence s start 1; create table t (a enum e not null default 'x', b int, constraint c check (a = 'x'), constraint k primary key (a), constraint r foreign key (a) references t (a));
		create index i on t (b); create view v as select a from t where b = 1`, "", "", "", ""},
	{"", "create table a (); create table b ()", "create table c (); create table b (); drop table c; create table a ()", "", ""},

	// Views that are in one plan only, equal and not equal.
	{"create table t (a int, b text)", "create view v as select a from t", "", "", "drop view v"},
	{"create table t (a int, b text)", "", "create view v as select a from t", "", "create view v as select a from t"},
	{"create table t (a int, b text)", "", "alter table t add column c int; alter table t alter column a set not null; alter table t alter column b set default 'x'",
		"create view v as select a from t where b = 'x'; create view w as select a, b from t where a < 1",
		"alter table t alter column a set not null; alter table t alter column b set default 'x'; alter table t add column c int"},
	{"create table t (a int, b text)",
		"create view s as select a from t; create view v as select a from t; create view w as select a from t where b = 'x'; create view x as select a from t where a = 1; create view y as select a, b from t; create view z as select a from t",
		"create view s as select a from t; create view v as select a from t where true; create view w as select a from t where b = 'y'; create view x as select a from t; create view y as select a from t; create view z as select b from t", "",
		`drop view v; drop view w; drop view x; drop view y; drop view z; create view v as select a from t where true; create view w as select a from t where b = 'y';
		create view x as select a from t; create view y as select a from t; create view z as select b from t`},
	{"create table t (a int); create table u (a int)", "create view v as select a from t; create view w as select a from u", "create view v as select a from u; create view w as select a from t", "",
		"drop view v; drop view w; create view v as select a from u; create view w as select a from t"},
	{"create table t (a int)", "create view a as select a from t; create view b as select a from t; create view c as select a from t", "create sequence a start 1; create table b (); create index c on t (a)", "",
		"drop view a; drop view b; drop view c; create sequence a start 1; create table b (); create index c on t (a)"},

	// Views over columns that move or are gone, and on tables that are not common.
	{"create table u (a int)", "create table t (a int, b int)", "create table t (a text, b int)",
		"create view v as select a from t; create view w as select b from t where a is null; create view x as select b from t where b < 1; create view y as select a from u where a < 1",
		"drop view v; drop view w; alter table t alter column a type text; create view v as select a from t; create view w as select b from t where a is null"},
	{"create table u (a int)", "create table t (a int, b int)", "create table t (a bool, b int)",
		"create view v as select a from t; create view w as select b from t where a is null; create view x as select b from t where b < 1; create view y as select a from u where a < 1",
		"drop view v; drop view w; alter table t drop column a; alter table t add column a bool; create view v as select a from t; create view w as select b from t where a is null"},
	{"create type f as enum ('x')", "create type e as enum ('x', 'y')", "create type e as enum ('y', 'x')",
		`create table t (a enum e, b int, c enum f); create view v as select a from t; create view w as select b from t where a = 'x' or false;
		create view x as select b from t; create view y as select c from t where c = 'x'`,
		`drop view v; drop view w; alter table t alter column a type text; drop type e; create type e as enum ('y', 'x'); alter table t alter column a type enum e;
		create view v as select a from t; create view w as select b from t where a = 'x' or false`},
	{"", "create table t (a int, b int, c int, d int)", "create table t (a text, b text, c int, d int not null)",
		"create view v as select c from t where d > 1 and a = b; create view w as select c from t where not (c > 1 and c <= d + 1 * d); create view x as select c, d from t where 'a' < 'b'",
		"drop view v; alter table t alter column a type text; alter table t alter column b type text; alter table t alter column d set not null; create view v as select c from t where d > 1 and a = b"},
	{"", "create table t (a int); create view v as select a from t", "create table u (a int); create view v as select a from u", "",
		"drop view v; drop table t; create table u (a int); create view v as select a from u"},

	// References that are in one plan only, and that are not equal.
	{"create table t (a int, b int, constraint k unique (a), constraint m unique (b)); create table u (a int, b int, constraint k unique (a))",
		"alter table u add constraint r foreign key (a) references u (a); alter table u add constraint q foreign key (a) references t (b); alter table t add constraint r foreign key (a) references t (a)", "", "",
		"alter table t drop constraint r; alter table u drop constraint q; alter table u drop constraint r"},
	{"create table t (a int, b int, constraint k unique (a), constraint m unique (b)); create table u (a int, b int, constraint k unique (a))", "",
		"alter table u add constraint r foreign key (a) references t (b); alter table u add constraint q foreign key (b) references u (a); alter table t add constraint r foreign key (a) references u (a)", "",
		"alter table t add constraint r foreign key (a) references u (a); alter table u add constraint q foreign key (b) references u (a); alter table u add constraint r foreign key (a) references t (b)"},
	{"create table u (a int, b int, constraint k unique (a), constraint m unique (b)); create table v (a int, constraint k unique (a))",
		`create table t (a int, b int, constraint p foreign key (a) references u (a), constraint q foreign key (a) references u (a), constraint r foreign key (a) references u (a),
		constraint s foreign key (a) references u (a), constraint t check (a > b), constraint z foreign key (a) references u (a))`,
		`create table t (a int, b int, constraint p foreign key (b) references u (a), constraint q foreign key (a) references u (b), constraint r foreign key (a) references v (a),
		constraint s check (a < b), constraint t foreign key (b) references v (a), constraint z foreign key (a) references u (a))`, "",
		`alter table t drop constraint p; alter table t drop constraint q; alter table t drop constraint r; alter table t drop constraint s; alter table t drop constraint t; alter table t add constraint s check (a < b);
		alter table t add constraint p foreign key (b) references u (a); alter table t add constraint q foreign key (a) references u (b);
		alter table t add constraint r foreign key (a) references v (a); alter table t add constraint t foreign key (b) references v (a)`},
	{"create table u (a int, b int, constraint k unique (a, b))", "create table t (a int, b int, constraint r foreign key (a, b) references u (a, b))", "create table t (a int, b int, constraint r foreign key (b, a) references u (a, b))", "",
		"alter table t drop constraint r; alter table t add constraint r foreign key (b, a) references u (a, b)"},

	// References by columns that move.
	{"", "create table t (a int, b int, constraint k unique (a), constraint m unique (b)); create table u (a int, b int)", "create table t (a text, b int, constraint k unique (a), constraint m unique (b)); create table u (a text, b int)",
		"alter table u add constraint q foreign key (b) references t (b); alter table u add constraint r foreign key (a) references t (a)",
		`alter table u drop constraint r; alter table t alter column a type text; alter table u alter column a type text; alter table u add constraint r foreign key (a) references t (a)`},
	{"", "create table t (a int, b int, constraint k unique (a, b)); create table u (a int, b int)", "create table t (a text, b int, constraint k unique (a, b)); create table u (a int, b text)", "alter table u add constraint r foreign key (b, a) references t (a, b)",
		"alter table u drop constraint r; alter table t alter column a type text; alter table u alter column b type text; alter table u add constraint r foreign key (b, a) references t (a, b)"},
	{"", "create table t (a int); create table u (a int)", "create table t (a bool); create table u (a bool)", "alter table t add constraint k unique (a); alter table u add constraint r foreign key (a) references t (a)",
		`alter table u drop constraint r; alter table t drop constraint k; alter table t drop column a; alter table u drop column a; alter table t add column a bool; alter table u add column a bool;
		alter table t add constraint k unique (a); alter table u add constraint r foreign key (a) references t (a)`},
	{"", "create type e as enum ('x')", "create type e as enum ('x', 'y')", "create table t (a enum e, constraint k unique (a)); create table u (a enum e, constraint r foreign key (a) references t (a))",
		`alter table u drop constraint r; alter table t alter column a type text; alter table u alter column a type text; drop type e; create type e as enum ('x', 'y');
		alter table t alter column a type enum e; alter table u alter column a type enum e; alter table u add constraint r foreign key (a) references t (a)`},

	// References to keys that are held, and that are not.
	{"create table t (a int); create table u (a int, constraint k unique (a))", "alter table t add constraint k unique (a)", "alter table t add constraint j unique (a)", "alter table u add constraint r foreign key (a) references t (a)",
		"alter table u drop constraint r; alter table t drop constraint k; alter table t add constraint j unique (a); alter table u add constraint r foreign key (a) references t (a)"},
	{"create table t (a int, constraint k unique (a)); create table u (a int)", "alter table t add constraint j unique (a)", "", "alter table u add constraint r foreign key (a) references t (a)", "alter table t drop constraint j"},
	{"create table t (a int, constraint k unique (a)); create table u (a int)", "", "alter table t add constraint j unique (a)", "alter table u add constraint r foreign key (a) references t (a)", "alter table t add constraint j unique (a)"},
	{"create table t (a int not null); create table u (a int)", "alter table t add constraint k unique (a)", "alter table t add constraint k primary key (a)", "alter table u add constraint r foreign key (a) references t (a)",
		"alter table u drop constraint r; alter table t drop constraint k; alter table t add constraint k primary key (a); alter table u add constraint r foreign key (a) references t (a)"},
	{"create table t (a int, b int, constraint k unique (a, b)); create table u (a int, b int)", "alter table t add constraint j unique (a)", "", "alter table u add constraint r foreign key (b, a) references t (a, b)", "alter table t drop constraint j"},
	{"create table t (a int, b int, constraint k unique (a)); create table u (a int, b int)", "alter table t add constraint j unique (a, b)", "alter table t add constraint i unique (a, b)", "alter table u add constraint r foreign key (b, a) references t (a, b)",
		"alter table u drop constraint r; alter table t drop constraint j; alter table t add constraint i unique (a, b); alter table u add constraint r foreign key (b, a) references t (a, b)"},

	// References from and to tables that are in one plan only.
	{"create table u (a int)", "create table t (a int, constraint k unique (a)); alter table u add constraint r foreign key (a) references t (a)", "", "", "alter table u drop constraint r; drop table t"},
	{"create table u (a int)", "", "create table t (a int, constraint k unique (a)); alter table u add constraint r foreign key (a) references t (a)", "",
		"create table t (a int, constraint k unique (a)); alter table u add constraint r foreign key (a) references t (a)"},
	{"create table t (a int, constraint k unique (a))", "create table u (a int, constraint r foreign key (a) references t (a))", "", "", "alter table u drop constraint r; drop table u"},
	{"create table t (a int, constraint k unique (a))", "", "create table u (a int, constraint r foreign key (a) references t (a))", "", "create table u (a int); alter table u add constraint r foreign key (a) references t (a)"},
	{"", "create table t (a int, constraint k unique (a), constraint r foreign key (a) references t (a))", "", "", "alter table t drop constraint r; drop table t"},
	{"", "", "create table t (a int, constraint k unique (a), constraint r foreign key (a) references t (a))", "", "create table t (a int, constraint k unique (a)); alter table t add constraint r foreign key (a) references t (a)"},
	{"", "create table t (a int, constraint k unique (a)); create table u (a int, constraint k unique (a), constraint r foreign key (a) references t (a)); alter table t add constraint r foreign key (a) references u (a)", "", "",
		"alter table t drop constraint r; alter table u drop constraint r; drop table t; drop table u"},
	{"", "", "create table t (a int, constraint k unique (a)); create table u (a int, constraint k unique (a), constraint r foreign key (a) references t (a)); alter table t add constraint r foreign key (a) references u (a)", "",
		`create table t (a int, constraint k unique (a)); create table u (a int, constraint k unique (a));
		alter table t add constraint r foreign key (a) references u (a); alter table u add constraint r foreign key (a) references t (a)`},
	{"create table t (a int, constraint k unique (a))", "create table u (a int, constraint k unique (a), constraint r foreign key (a) references t (a)); alter table t add constraint r foreign key (a) references u (a)",
		"create table w (a int, constraint k unique (a), constraint r foreign key (a) references t (a)); alter table t add constraint r foreign key (a) references w (a)", "",
		`alter table t drop constraint r; alter table u drop constraint r; drop table u; create table w (a int, constraint k unique (a));
		alter table t add constraint r foreign key (a) references w (a); alter table w add constraint r foreign key (a) references t (a)`},
	{"", "create table a (a int, constraint k unique (a)); create table b (a int, constraint k unique (a)); create table d (a int, constraint q foreign key (a) references a (a), constraint r foreign key (a) references b (a))",
		"create table b (a int, constraint k unique (a)); create table c (a int, constraint k unique (a), constraint r foreign key (a) references b (a)); create table d (a int, constraint q foreign key (a) references c (a), constraint r foreign key (a) references b (a))", "",
		`alter table d drop constraint q; drop table a; create table c (a int, constraint k unique (a)); alter table c add constraint r foreign key (a) references b (a); alter table d add constraint q foreign key (a) references c (a)`},

	// References of a table to itself, and of two tables to each other.
	{"", "create table t (a int, b int, constraint k unique (a))", "create table t (a text, b text, constraint k unique (a))", "alter table t add constraint r foreign key (b) references t (a)",
		"alter table t drop constraint r; alter table t alter column a type text; alter table t alter column b type text; alter table t add constraint r foreign key (b) references t (a)"},
	{"", "create table t (a int)", "create table t (a bool)", "alter table t add constraint k unique (a); alter table t add constraint r foreign key (a) references t (a)",
		`alter table t drop constraint r; alter table t drop constraint k; alter table t drop column a; alter table t add column a bool;
		alter table t add constraint k unique (a); alter table t add constraint r foreign key (a) references t (a)`},
	{"", "create table t (a int, constraint k unique (a)); create table u (a int, constraint k unique (a))", "create table t (a text, constraint k unique (a)); create table u (a text, constraint k unique (a))",
		"alter table t add constraint r foreign key (a) references u (a); alter table u add constraint r foreign key (a) references t (a)",
		`alter table t drop constraint r; alter table u drop constraint r; alter table t alter column a type text; alter table u alter column a type text;
		alter table t add constraint r foreign key (a) references u (a); alter table u add constraint r foreign key (a) references t (a)`},
	{"create table t (a int, b bool, constraint k unique (a)); create table u (a int, constraint k unique (a)); alter table t add constraint r foreign key (a) references u (a); alter table u add constraint r foreign key (a) references t (a)", "",
		"alter table t alter column b type text; alter table t alter column a set default 1; alter table u alter column a set not null", "",
		"alter table t alter column a set default 1; alter table t alter column b type text; alter table u alter column a set not null"},

	// Indexes.
	{"create table t (a int, b text, c bool); create table u (a int)",
		"create index i on t (a); create index j on t (a, b); create index k on t (a); create index l on t (a); create unique index m on t (b)",
		"create unique index i on t (a); create index j on t (b, a); create index l on u (a); create unique index m on t (b); create index n on t (c, a, b)", "",
		`drop index i; drop index j; drop index k; drop index l; create unique index i on t (a); create index j on t (b, a); create index l on u (a); create index n on t (c, a, b)`},
	{"", "create type e as enum ('x'); create table t (a int, b enum e, c text)", "create type e as enum ('y'); create table t (a text, b enum e, c char(4))",
		"create index i on t (a); create index j on t (b, c); create unique index k on t (c, b, a)",
		`alter table t alter column b type text; drop type e; create type e as enum ('y'); alter table t alter column a type text; alter table t alter column b type enum e; alter table t alter column c type char(4)`},
	{"create table u (a int)", "create table t (a int, b int)", "create table t (a bool, b int)", "create index i on t (a); create index j on t (b); create unique index k on t (b, a); create index l on u (a)",
		"drop index i; drop index k; alter table t drop column a; alter table t add column a bool; create index i on t (a); create unique index k on t (b, a)"},
	{"", "create table t (a int); create index i on t (a); create index j on t (a)", "create table u (a int); create index i on u (a)", "",
		"drop index i; drop index j; drop table t; create table u (a int); create index i on u (a)"},
	{"create table t (a int, b int)", "create index i on t (a, b); create index j on t (a)", "alter table t drop column b; create index i on t (a); create view j as select a from t", "",
		"drop index i; drop index j; alter table t drop column b; create index i on t (a); create view j as select a from t"},

	// Checks.
	{"create table t (a int, b int)",
		`alter table t add constraint p check (a < b); alter table t add constraint q check (a < b); alter table t add constraint r check (a < 1);
		alter table t add constraint s check (true); alter table t add constraint u check (a = 1 or b = 2)`,
		`alter table t add constraint o check (b < a); alter table t add constraint q check (b < a); alter table t add constraint r check (a < 2);
		alter table t add constraint s check (false); alter table t add constraint u check (a = 1 or b = 2)`, "",
		`alter table t drop constraint p; alter table t drop constraint q; alter table t drop constraint r; alter table t drop constraint s;
		alter table t add constraint o check (b < a); alter table t add constraint q check (b < a); alter table t add constraint r check (a < 2); alter table t add constraint s check (false)`},
	{"", "create type e as enum ('x'); create table t (a int, b int, c enum e, d int)", "create type e as enum ('x', 'y'); create table t (a text, b bool, c enum e, d int not null)",
		`alter table t add constraint p check (a is null); alter table t add constraint q check (d > 1 and not (b is null)); alter table t add constraint r check (c = 'x');
		alter table t add constraint s check (d * d = 4 or 'a' < 'b'); alter table t add constraint u check (null)`,
		`alter table t drop constraint p; alter table t drop constraint q; alter table t drop constraint r; alter table t drop column b; alter table t alter column c type text;
		drop type e; create type e as enum ('x', 'y'); alter table t alter column a type text; alter table t add column b bool; alter table t alter column c type enum e; alter table t alter column d set not null;
		alter table t add constraint p check (a is null); alter table t add constraint q check (d > 1 and not (b is null)); alter table t add constraint r check (c = 'x')`},
	{"create table t (a int not null, b int)", "alter table t add constraint p check (a < b); alter table t add constraint q unique (a); alter table t add constraint r unique (b)",
		"alter table t add constraint p unique (b); alter table t add constraint q primary key (a); alter table t add constraint r check (b < a)", "",
		`alter table t drop constraint p; alter table t drop constraint q; alter table t drop constraint r;
		alter table t add constraint p unique (b); alter table t add constraint q primary key (a); alter table t add constraint r check (b < a)`},
	{"create table t (a int, constraint c check (a < 1))", "create table u (a int)", "create table u (a text)", "alter table u add constraint c check (a is null)",
		"alter table u drop constraint c; alter table u alter column a type text; alter table u add constraint c check (a is null)"},
	{"create table t (a int, b int)", "alter table t add constraint c check (a < b)", "alter table t drop column b; alter table t add constraint c check (a < 1)", "",
		"alter table t drop constraint c; alter table t drop column b; alter table t add constraint c check (a < 1)"},

	// Keys.
	{"create table t (a int not null, b int not null, c int)", "alter table t add constraint p primary key (a); alter table t add constraint q unique (a, b); alter table t add constraint r unique (c)",
		"alter table t add constraint p primary key (a, b); alter table t add constraint q unique (a, c); alter table t add constraint r unique (c)", "",
		"alter table t drop constraint p; alter table t drop constraint q; alter table t add constraint p primary key (a, b); alter table t add constraint q unique (a, c)"},
	{"create table t (a int not null, b int not null); create table u (a int, constraint p unique (a))", "alter table t add constraint p primary key (a)", "alter table t add constraint o primary key (b)", "",
		"alter table t drop constraint p; alter table t add constraint o primary key (b)"},
	{"", "create table t (a int, b int, constraint p unique (a, b), constraint q unique (b))", "create table t (b int, constraint p unique (b), constraint q unique (b))", "",
		"alter table t drop constraint p; alter table t drop column a; alter table t add constraint p unique (b)"},
	{"", "create table t (a int, b int)", "create table t (a bool, b int)", "alter table t add constraint p unique (a); alter table t add constraint q unique (a, b); alter table t add constraint r unique (b)",
		`alter table t drop constraint p; alter table t drop constraint q; alter table t drop column a; alter table t add column a bool; alter table t add constraint p unique (a); alter table t add constraint q unique (a, b)`},
	{"", "create type e as enum ('x'); create table t (a int not null, b enum e, c text)", "create type e as enum ('y'); create table t (a text not null, b enum e, c char(1))",
		"alter table t add constraint p primary key (a); alter table t add constraint q unique (b, c)",
		`alter table t alter column b type text; drop type e; create type e as enum ('y'); alter table t alter column a type text; alter table t alter column b type enum e; alter table t alter column c type char(1)`},
	{"", "create table t (a int not null, constraint p primary key (a))", "create table t (a int)", "", "alter table t drop constraint p; alter table t alter column a drop not null"},
	{"", "create table t (a int)", "create table t (a int not null, constraint p primary key (a))", "", "alter table t alter column a set not null; alter table t add constraint p primary key (a)"},

	// Tables and sequences.
	{"create sequence z start 7", "create table b (); create table d (); create sequence a start 1; create sequence c start 2; create sequence e start 3", "create table a (); create table c (); create sequence b start 1; create sequence d start 2; create sequence e start 4", "",
		`drop table b; drop table d; drop sequence a; drop sequence c; drop sequence e; create sequence b start 1; create sequence d start 2; create sequence e start 4; create table a (); create table c ()`},
	{"", "", `create type e as enum ('x'); create table t (a int not null default 1, b enum e default 'x', constraint c check (b = 'x'), constraint k primary key (a), constraint r foreign key (a) references t (a), constraint u unique (b))`, "",
		`create type e as enum ('x'); create table t (a int not null default 1, b enum e default 'x', constraint c check (b = 'x'), constraint k primary key (a), constraint u unique (b)); alter table t add constraint r foreign key (a) references t (a)`},
	{"", `create type e as enum ('x'); create table t (a int not null default 1, b enum e default 'x', constraint c check (b = 'x'), constraint k primary key (a), constraint r foreign key (a) references t (a), constraint u unique (b))`, "", "",
		"alter table t drop constraint r; drop table t; drop type e"},
	{"", "create sequence a start 1; create table b (a int)", "create table a (a int); create sequence b start 1", "", "drop table b; drop sequence a; create sequence b start 1; create table a (a int)"},

	// Enumerations.
	{"create type e as enum ('x')", "create type a as enum ('x'); create type b as enum ('x', 'y'); create type c as enum ('x'); create type d as enum ('x', 'y'); create type g as enum ('ab', 'c')",
		"create type b as enum ('y', 'x'); create type c as enum ('x', 'z'); create type d as enum ('x'); create type f as enum ('x'); create type g as enum ('a', 'bc')", "",
		`drop type a; drop type b; drop type c; drop type d; drop type g; create type b as enum ('y', 'x'); create type c as enum ('x', 'z'); create type d as enum ('x'); create type f as enum ('x'); create type g as enum ('a', 'bc')`},
	{"", "create type e as enum ('x'); create table t (a enum e not null default 'x')", "create table t (a text not null default 'x')", "",
		"alter table t alter column a drop default; alter table t alter column a type text; drop type e; alter table t alter column a set default 'x'"},
	{"", "create type e as enum ('x'); create table t (a enum e not null default 'x')", "create type e as enum ('y'); create table t (a text default 'x')", "",
		`alter table t alter column a drop default; alter table t alter column a drop not null; alter table t alter column a type text; drop type e; create type e as enum ('y'); alter table t alter column a set default 'x'`},
	{"create type e as enum ('x')", "create table t (a enum e default 'x')", "create table t (a text default 'x')", "",
		"alter table t alter column a drop default; alter table t alter column a type text; alter table t alter column a set default 'x'"},
	{"", "create type e as enum ('x'); create table t (a text default 'y')", "create type e as enum ('y'); create table t (a enum e default 'y')", "",
		"alter table t alter column a drop default; drop type e; create type e as enum ('y'); alter table t alter column a type enum e; alter table t alter column a set default 'y'"},
	{"", "create table t (a text)", "create type e as enum ('y'); create table t (a enum e not null default 'y')", "",
		"create type e as enum ('y'); alter table t alter column a type enum e; alter table t alter column a set default 'y'; alter table t alter column a set not null"},
	{"", "create type e as enum ('x'); create table t (a enum e default 'x')", "create type f as enum ('x'); create table t (a enum f default 'x')", "",
		"alter table t drop column a; drop type e; create type f as enum ('x'); alter table t add column a enum f default 'x'"},
	{"create type e as enum ('x'); create type f as enum ('x')", "create table t (a enum e, b enum e, c char(3), d enum e)", "create table t (a enum f, b char(3), c enum e, d int)", "",
		`alter table t drop column a; alter table t drop column b; alter table t drop column c; alter table t drop column d;
		alter table t add column a enum f; alter table t add column b char(3); alter table t add column c enum e; alter table t add column d int`},
	{"", "create type e as enum ('x', 'y'); create table t (a enum e not null default 'x', b enum e default 'y', c enum e, d enum e default null)",
		"create type e as enum ('x', 'z'); create table t (a enum e default 'x', b enum e not null default 'z', c enum e not null default 'x', d enum e)", "",
		`alter table t alter column a drop default; alter table t alter column a drop not null; alter table t alter column a type text; alter table t alter column b drop default; alter table t alter column b type text;
		alter table t alter column c type text; alter table t alter column d drop default; alter table t alter column d type text; drop type e; create type e as enum ('x', 'z');
		alter table t alter column a type enum e; alter table t alter column a set default 'x'; alter table t alter column b type enum e; alter table t alter column b set default 'z'; alter table t alter column b set not null;
		alter table t alter column c type enum e; alter table t alter column c set default 'x'; alter table t alter column c set not null; alter table t alter column d type enum e`},
	{"create table t ()", "create type e as enum ('x'); create table u (a enum e); alter table t add column a enum e", "create type e as enum ('y'); create table w (a enum e default 'y'); alter table t add column b enum e default 'y'", "",
		`drop table u; alter table t drop column a; drop type e; create type e as enum ('y'); alter table t add column b enum e default 'y'; create table w (a enum e default 'y')`},

	// Columns.
	{"", "create table t (a int, b int, c int, d int default 1, e int default 1, f int not null, g int); create table u (b int)",
		"create table t (b text, c bool, d int default 2, e int, f int, g int not null default 3, h int); create table u (a int, b int not null)", "",
		`alter table t drop column a; alter table t drop column c; alter table t alter column d drop default; alter table t alter column e drop default; alter table t alter column f drop not null;
		alter table t alter column b type text; alter table t add column c bool; alter table t alter column d set default 2; alter table t alter column g set default 3; alter table t alter column g set not null; alter table t add column h int;
		alter table u add column a int; alter table u alter column b set not null`},
	{"", "create table t (a text default 'x', b int default null, c int default 1, d text default 'y')", "create table t (a char(3) default 'x', b text default null, c int not null default 1, d text default 'y')", "",
		`alter table t alter column a drop default; alter table t alter column b drop default; alter table t alter column a type char(3); alter table t alter column a set default 'x';
		alter table t alter column b type text; alter table t alter column b set default null; alter table t alter column c set not null`},
	{"", "create table t (a int not null, b int, c bool not null default true, d text default 'x')", "create table t (a text, b text not null, c text default 'true', d char(1) not null)", "",
		`alter table t alter column a drop not null; alter table t alter column c drop default; alter table t alter column c drop not null; alter table t alter column d drop default;
		alter table t alter column a type text; alter table t alter column b type text; alter table t alter column b set not null; alter table t alter column c type text; alter table t alter column c set default 'true';
		alter table t alter column d type char(1); alter table t alter column d set not null`},
	{"", "create table t (a int default 1 + 2, b int default 1 + 2 * 3, c bool default true, d text default '1', e int default 3)", "create table t (a int default 1 + 3, b int default 1 + 2 * 3, c bool default 1 < 2, d text default null, e int default 1 + 2)", "",
		`alter table t alter column a drop default; alter table t alter column c drop default; alter table t alter column d drop default; alter table t alter column e drop default;
		alter table t alter column a set default 1 + 3; alter table t alter column c set default 1 < 2; alter table t alter column d set default null; alter table t alter column e set default 1 + 2`},
	{"", "create table t (a char(3), b char(3), c text); create table u (a int)", "create table t (a char(4), b text, c char(100)); create table u (a int)", "",
		"alter table t drop column a; alter table t add column a char(4); alter table t alter column b type text; alter table t alter column c type char(100)"},
	{"", "create table t (a int, c int, e int); create table u (b int, d int)", "create table t (b int, d int); create table u (a int, c int, e int)", "",
		`alter table t drop column a; alter table t drop column c; alter table t drop column e; alter table u drop column b; alter table u drop column d;
		alter table t add column b int; alter table t add column d int; alter table u add column a int; alter table u add column c int; alter table u add column e int`},

	// All the steps.
	{"create sequence s start 1", `create type e as enum ('x', 'y'); create type f as enum ('p'); create sequence y start 2;
		create table m (a int not null, b enum e default 'x', c int, d int, constraint c check (b = 'x'), constraint k primary key (a), constraint q unique (c), constraint r foreign key (d) references m (c));
		create table o (a int, constraint r foreign key (a) references m (a)); create table p (a int, g enum f); create index i on m (d)`,
		`create type e as enum ('y', 'x', 'z'); create type h as enum ('p'); create sequence y start 3;
		create table m (a int not null, b enum e default 'x', c int not null, e enum h, constraint c check (b = 'x'), constraint k primary key (a), constraint q unique (a, c));
		create table n (a int, constraint r foreign key (a) references m (a)); create table o (a int not null default 1, constraint r foreign key (a) references m (a)); create index i on m (c)`,
		"create index j on m (a); create view v as select b from m; create view w as select a from m",
		`drop view v; alter table m drop constraint r; drop index i; alter table m drop constraint c; alter table m drop constraint q; drop table p; drop sequence y;
		alter table m alter column b drop default; alter table m alter column b type text; alter table m drop column d; drop type e; drop type f; create type e as enum ('y', 'x', 'z'); create type h as enum ('p');
		alter table m alter column b type enum e; alter table m alter column b set default 'x'; alter table m alter column c set not null; alter table m add column e enum h; alter table o alter column a set default 1; alter table o alter column a set not null;
		create sequence y start 3; create table n (a int); alter table m add constraint c check (b = 'x'); alter table m add constraint q unique (a, c);
		create index i on m (c); alter table n add constraint r foreign key (a) references m (a); create view v as select b from m`},
}

func TestDiffsByHand(t *testing.T) {
	kinds := map[int]int{}
	for _, x := range diffCases {
		a, b := loaded(t, x.start+";"+x.a+";"+x.end), loaded(t, x.start+";"+x.b+";"+x.end)
		list := stmtsOf(t, x.want)
		wantDiff(t, a, b, list, x)
		checkDiff(t, a, b, map[string]int{}, x)
		for _, s := range list {
			kinds[s.Kind]++
		}
	}
	if len(kinds) != 17 {
		t.Error(kinds)
	}
}

// turnTypes are the types of a column, by a letter each: e is an enumeration of both plans, c is changed, m missing in b
// and n missing in a.
var turnTypes = map[string]string{"i": "int", "t": "text", "b": "bool", "3": "char(3)", "4": "char(4)", "e": "enum e", "c": "enum c", "m": "enum m", "n": "enum n"}

// turnWays has a word for each two types from a to b: they stay, turn at once, turn twice, turn to text ahead of the
// enumerations, or do not turn.
var turnWays = map[string]string{
	"ii": "stay", "tt": "stay", "bb": "stay", "33": "stay", "44": "stay", "ee": "stay", "cc": "twice", "ct": "early", "mt": "early",
	"it": "turn", "bt": "turn", "3t": "turn", "4t": "turn", "et": "turn", "t3": "turn", "t4": "turn", "te": "turn", "tc": "turn", "tn": "turn",
}

func TestEveryTypeInDiffs(t *testing.T) {
	defaults := map[string][]string{"i": {"1", "2"}, "b": {"true", "1 < 2"}}
	for letter := range turnTypes {
		if defaults[letter] == nil {
			defaults[letter] = []string{"'x'", "'y'"}
		}
		defaults[letter] = append(defaults[letter], "", "null")
	}
	column := func(letter string, notNull bool, value string) string {
		out := "create table t (v " + turnTypes[letter]
		if notNull {
			out += " not null"
		}
		if value != "" {
			out += " default " + value
		}
		return out + ")"
	}
	met := map[string]int{}
	for x := range turnTypes {
		for y := range turnTypes {
			if x == "n" || y == "m" {
				continue
			}
			for n := range 4 {
				for _, from := range defaults[x] {
					for _, to := range defaults[y] {
						a := "create type c as enum ('x', 'y'); create type e as enum ('x', 'y'); create type m as enum ('x', 'y');" + column(x, n&1 > 0, from)
						b := "create type c as enum ('y', 'x'); create type e as enum ('x', 'y'); create type n as enum ('x', 'y');" + column(y, n&2 > 0, to)
						want := turnByHand(turnWays[x+y], turnTypes[y], from, to, n&1 > 0, n&2 > 0)
						if turnWays[x+y] == "" {
							want = "alter table t drop column v;" + enumTurns + strings.Replace(strings.TrimSuffix(column(y, n&2 > 0, to), ")"), "create table t (", "alter table t add column ", 1)
						}
						wantDiff(t, loaded(t, a), loaded(t, b), stmtsOf(t, want), a, b)
						met[turnWays[x+y]]++
					}
				}
			}
		}
	}
	if len(met) != 5 || met["twice"] != 4*4*4 {
		t.Error(met)
	}
}

const enumTurns = "drop type c; drop type m; create type c as enum ('y', 'x'); create type n as enum ('x', 'y');"

// turnByHand has the statements for a column that is not gone.
func turnByHand(way string, to string, oldDefault, newDefault string, wasNotNull, notNull bool) string {
	out := ""
	alter := func(holds bool, text string) {
		if holds {
			out += "alter table t alter column v " + text + ";"
		}
	}
	kept := way == "stay" && oldDefault == newDefault
	alter(oldDefault != "" && !kept, "drop default")
	alter(wasNotNull && !notNull, "drop not null")
	alter(way == "twice" || way == "early", "type text")
	out += enumTurns
	alter(way == "twice" || way == "turn", "type "+to)
	alter(newDefault != "" && !kept, "set default "+newDefault)
	alter(notNull && !wasNotNull, "set not null")
	return out
}

// Equal plans differ by no statement, whatever their Tokens and Next are.
func TestDiffsOfEqualPlans(t *testing.T) {
	for i, p := range dumpInputs(t) {
		checkNoDiff(t, p, p, i)
		checkNoDiff(t, p, filledIn(p, i%2 == 0), i)
		if len(planFaults(p)) > 0 {
			continue
		}
		for _, next := range []int{1, 1000, 1000000000 - len(p.Tables)} {
			checkNoDiff(t, p, numberedFrom(p, next), "with other tokens ", i)
			checkNoDiff(t, numberedFrom(p, next), p, "with other tokens ", i)
		}
		last := p
		last.Next = 1000000000
		checkNoDiff(t, p, last, "with another Next ", i)
		checkNoDiff(t, last, p, "with another Next ", i)
	}
}

func TestDiffsOfInvalidPlans(t *testing.T) {
	for _, p := range append(somePlans(t, 5), execPlan(), impl.Plan{Next: 1}) {
		checkNoDiff(t, p, impl.Plan{}, "the zero Plan")
		checkNoDiff(t, impl.Plan{}, p, "the zero Plan")
		for i, x := range brokenPlans {
			checkNoDiff(t, p, edited(x.change), "invalid b ", i)
			checkNoDiff(t, edited(x.change), p, "invalid a ", i)
		}
	}
	checkNoDiff(t, impl.Plan{}, impl.Plan{})
	for i, x := range brokenPlans {
		for j, y := range brokenPlans {
			checkNoDiff(t, edited(x.change), edited(y.change), "both are invalid ", i, j)
		}
	}
	for i, x := range namedLists {
		checkNoDiff(t, filled(i, numbered(x.most+1)...), basePlan(), x.word)
		checkNoDiff(t, basePlan(), filled(i, numbered(x.most+1)...), x.word)
	}
	random := planBreaker{rand.New(rand.NewSource(130))}
	met := map[string]int{}
	for i := range 2000 {
		p, q := planMaker{rand.New(rand.NewSource(int64(i / 10)))}.plan(), planMaker{rand.New(rand.NewSource(int64(i / 10)))}.plan()
		random.change(&p)
		if i%2 == 0 {
			random.change(&q)
		}
		want := diffByHand(p, q, map[string]int{})
		if got := impl.Diff(p, q); !slices.EqualFunc(got, want, sameStmt) {
			t.Errorf("change %d: %s, want %s", i, impl.Script(got), impl.Script(want))
		}
		met[fmt.Sprint(len(want) > 0, len(planFaults(p)) > 0, len(planFaults(q)) > 0)]++
	}
	for _, what := range []string{"true false false", "false true true", "false true false", "false false true"} {
		if met[what] < 50 {
			t.Errorf("%s: %d", what, met[what])
		}
	}
}

// Every small change of a plan that leaves it valid is seen, in every place.
func TestDiffsOfPlansThatDifferInOnePlace(t *testing.T) {
	p := deepPlan(t)
	p.Next = 50
	met := map[string]int{}
	changer{func(path string) {
		if len(planFaults(p)) > 0 {
			checkNoDiff(t, p, deepPlan(t), path)
			checkNoDiff(t, deepPlan(t), p, path)
			return
		}
		if got := impl.Diff(deepPlan(t), p); (len(got) == 0) != sameUntold(p, deepPlan(t)) {
			t.Errorf("%s: %s", path, impl.Script(got))
		}
		// Another Next may be the last one.
		checkDiff(t, deepPlan(t), numberedFrom(p, 1), map[string]int{}, path)
		met[path]++
	}}.walk(reflect.ValueOf(&p).Elem(), "")
	for _, path := range strings.Fields(`.Enums.Name .Enums.List .Seqs.Name .Seqs.Start .Tables.Name .Tables.Token .Tables.Cols.NotNull .Tables.Cols.Default.Text .Tables.Cols.Default.Kids.Num .Tables.Rules.Name .Tables.Rules.Kind
		.Tables.Rules.Expr.Kids.Kids.Kids.Kids.Kids.Num .Indexes.Name .Indexes.Unique .Views.Name .Views.Where.Kids.Kids.Kids.Kids.Num .Next`) {
		if met[path] == 0 {
			t.Errorf("%s is not changed", path)
		}
	}
}

// manyOf has a name for each element of a list of a plan that is as long as may be.
func manyOf(start string, n int) []string {
	var out []string
	for _, s := range numbered(n) {
		out = append(out, start+s)
	}
	return out
}

// At no point is there more than either plan has.
func TestDiffsOfFullLists(t *testing.T) {
	for i, x := range namedLists {
		for _, n := range []int{0, 1, x.most - 1, x.most} {
			a := filled(i, manyOf("a", x.most)...)
			for kept := range n + 1 {
				names := append(slices.Clone(namesOf(t, i, a)[:kept]), manyOf("b", n-kept)...)
				checkDiff(t, a, filled(i, names...), map[string]int{}, x.word, " ", kept, " of ", n)
			}
		}
	}
	great := numberedFrom(greatestPlan(), 1)
	checkDiff(t, great, impl.Plan{Next: 1}, map[string]int{}, "the greatest plan and nothing")
	for i, change := range []func(p *impl.Plan){
		func(p *impl.Plan) {
			for i := range p.Enums {
				slices.Reverse(p.Enums[i].List)
			}
		},
		func(p *impl.Plan) {
			for i := range p.Tables {
				for j := range p.Tables[i].Cols {
					p.Tables[i].Cols[j].Type, p.Tables[i].Cols[j].Default = kindOf(impl.TyText), nil
				}
				p.Tables[i].Rules[1].Expr = []impl.Expr{op(impl.EpTrue)}
				p.Views[i].Where = nil
			}
		},
		func(p *impl.Plan) {
			for i := range p.Tables {
				for j, c := range p.Tables[i].Cols {
					if c.Type.Kind == impl.TyEnum {
						p.Tables[i].Cols[j].Type, p.Tables[i].Cols[j].Default = enum(p.Enums[9].Name), nil
					}
				}
			}
		},
		func(p *impl.Plan) {
			for i := range p.Tables {
				p.Tables[i].Name = "a" + p.Tables[i].Name[1:]
				for j := range p.Tables[i].Rules {
					if r := &p.Tables[i].Rules[j]; r.Kind == impl.RuRef {
						r.Table = "a" + r.Table[1:]
					}
				}
				p.Indexes[i].Table, p.Views[i].Table = p.Tables[i].Name, p.Tables[i].Name
				p.Seqs[i].Start--
			}
		},
	} {
		p := filledIn(great, false)
		change(&p)
		if len(planFaults(p)) > 0 {
			t.Fatal(i, planFaults(p).words())
		}
		checkDiff(t, great, p, map[string]int{}, "the greatest plan changed ", i)
	}
}

// namesOf returns the names that namedLists has filled a list with.
func namesOf(t *testing.T, list int, p impl.Plan) []string {
	t.Helper()
	switch namedLists[list].word {
	case "Cols":
		return colNames(p.Tables[0])
	case "Rules":
		return ruleNames(p.Tables[0])
	}
	at := slices.Index([]string{"Enums", "Seqs", "Tables", "Indexes", "Views"}, namedLists[list].word)
	return namesIn(p)[at]
}

// The statements are the same whatever Next is, but those for a new table are refused where there is no Token for it.
func TestDiffsAtTheLastNext(t *testing.T) {
	b := loaded(t, "create table a (x int); create table b (); create table c (); create index i on a (x)")
	for n := range 5 {
		a := loaded(t, "create table b (); create sequence s start 1")
		a.Next = 1000000000 - n
		list := impl.Diff(a, b)
		if want := stmtsOf(t, "drop sequence s; create table a (x int); create table c (); create index i on a (x)"); !slices.EqualFunc(list, want, sameStmt) {
			t.Error(n, impl.Script(list))
		}
		got, code, at := impl.RunAll(a, list)
		switch {
		case n >= 2 && (code != impl.ExOk || !samePlan(got, turnedInto(a, b))), n < 2 && (code != impl.ExBad || at != n+1 || !samePlan(got, a)):
			t.Error(n, code, at, got)
		}
	}
	a := loaded(t, "create table a (y int); create table b (z int, constraint k unique (z)); create table c (); create sequence s start 1")
	a.Next = 1000000000
	wantDiff(t, a, b, stmtsOf(t, "alter table b drop constraint k; drop sequence s; alter table a drop column y; alter table b drop column z; alter table a add column x int; create index i on a (x)"))
}

// turner makes plans that have much in common with another one.
type turner struct {
	scriptMaker
}

func newTurner(seed int) turner {
	return turner{scriptMaker{execMaker{stmtMaker{rand.New(rand.NewSource(int64(seed)))}}}}
}

// mend takes away what does not fit the types of the columns, so that most plans are valid again.
func mend(p *impl.Plan) {
	for i := range p.Tables {
		x := &p.Tables[i]
		for j, c := range x.Cols {
			if len(c.Default) > 0 && !impl.Gives(c.Default[0], c.Type, p.Enums) {
				x.Cols[j].Default = nil
			}
		}
		x.Rules = slices.DeleteFunc(x.Rules, func(r impl.Rule) bool {
			return r.Kind == impl.RuCheck && (len(r.Expr) != 1 || !trueOrNull(*p, *x, r.Expr[0]))
		})
	}
	p.Views = slices.DeleteFunc(p.Views, func(v impl.View) bool {
		x, _ := tableByHand(*p, v.Table)
		return len(v.Where) > 0 && !trueOrNull(*p, x, v.Where[0])
	})
	sortLists(*p)
}

// retype gives another type to all columns of one type, so that the references stay as they are.
func (r turner) retype(p *impl.Plan) {
	if len(p.Tables) == 0 {
		return
	}
	from := impl.Type{}
	if x := p.Tables[r.Intn(len(p.Tables))]; len(x.Cols) > 0 {
		from = x.Cols[r.Intn(len(x.Cols))].Type
	}
	to := r.dataTypeOf(*p)
	for i := range p.Tables {
		for j, c := range p.Tables[i].Cols {
			if c.Type == from {
				p.Tables[i].Cols[j].Type = to
			}
		}
	}
}

// relabel gives other labels to an enumeration, or another name.
func (r turner) relabel(p *impl.Plan) {
	if len(p.Enums) == 0 {
		return
	}
	x := &p.Enums[r.Intn(len(p.Enums))]
	if r.Intn(3) > 0 {
		x.List = planMaker{r.Rand}.some(numbered(12), 1+r.Intn(12))
		return
	}
	old, name := x.Name, planNames[r.Intn(len(planNames))]
	x.Name = name
	for i := range p.Tables {
		for j, c := range p.Tables[i].Cols {
			if c.Type == enum(old) {
				p.Tables[i].Cols[j].Type.Name = name
			}
		}
	}
}

// redress changes the defaults of a table, and whether its columns may be null.
func (r turner) redress(p *impl.Plan) {
	if len(p.Tables) == 0 {
		return
	}
	x := &p.Tables[r.Intn(len(p.Tables))]
	for i := range x.Cols {
		c := &x.Cols[i]
		if values := [][]impl.Expr{nil, {lit(7)}, {quoted("x")}, {quoted("text")}, {op(impl.EpFalse)}, {op(impl.EpNull)}}; r.Intn(2) == 0 {
			c.Default = values[r.Intn(len(values))]
		}
		if r.Intn(3) == 0 {
			c.NotNull = true
		}
	}
}

// rename gives another name to a table, everywhere, or to a rule, or makes a key a second time.
func (r turner) rename(p *impl.Plan) {
	if len(p.Tables) == 0 {
		return
	}
	x, name := &p.Tables[r.Intn(len(p.Tables))], planNames[r.Intn(len(planNames))]
	if len(x.Rules) > 0 && r.Intn(3) > 0 {
		at := r.Intn(len(x.Rules))
		if y := x.Rules[at]; y.Kind <= impl.RuUnique && r.Intn(2) == 0 {
			y.Kind = impl.RuUnique
			x.Rules = append(x.Rules, y)
		}
		x.Rules[at].Name = name
		return
	}
	old := x.Name
	x.Name = name
	for i := range p.Tables {
		for j, y := range p.Tables[i].Rules {
			if y.Kind == impl.RuRef && y.Table == old {
				p.Tables[i].Rules[j].Table = name
			}
		}
	}
	for i, y := range p.Indexes {
		if y.Table == old {
			p.Indexes[i].Table = name
		}
	}
	for i, y := range p.Views {
		if y.Table == old {
			p.Views[i].Table = name
		}
	}
}

// turned returns a valid plan that is made from p by some changes, and that has Tokens left.
func (r turner) turned(p impl.Plan) impl.Plan {
	changes := []func(p *impl.Plan){r.retype, r.retype, r.relabel, r.relabel, r.rename, r.redress, planBreaker{r.Rand}.change, func(p *impl.Plan) {
		for _, s := range r.list(*p, 1+r.Intn(3)) {
			*p, _ = execByHand(*p, s)
		}
	}}
	for range 1 + r.Intn(4) {
		q := filledIn(p, false)
		changes[r.Intn(len(changes))](&q)
		if q = filledIn(q, false); len(planFaults(q)) > 0 {
			mend(&q)
		}
		if len(planFaults(q)) == 0 && q.Next < 1000000000 {
			p = q
		}
	}
	return filledIn(p, false)
}

func TestRandomDiffs(t *testing.T) {
	met := map[string]int{}
	plans := somePlans(t, 1000)
	for i, p := range plans {
		checkDiff(t, p, newTurner(i).turned(p), met, "plan ", i)
		if i%3 == 0 {
			checkDiff(t, p, plans[(i*7+1)%len(plans)], met, "plans ", i)
		}
		if t.Failed() {
			t.FailNow()
		}
	}
	for _, reasons := range []string{
		"view: , moves, differs, differs moves, differs table", "reference: , key, key moves to, moves to, differs, differs key, differs key table, differs key own table, differs own",
		"index: , gone, differs, differs gone, differs table", "check: , moves, differs, differs moves", "key: , gone, differs, differs gone", "column: only in a, does not turn",
		"default: , moves, none, other, moves none", "to text: , changed, missing", "type: int to tex, boo to tex, cha to tex, enu to tex, tex to cha, tex to enu, tex to enu twice",
	} {
		what, words, _ := strings.Cut(reasons, ": ")
		for _, word := range strings.Split(words, ", ") {
			if n := met[what+": "+word]; n < 15 {
				t.Errorf("%s: %s %d times", what, word, n)
			}
		}
	}
}

// diffInputs returns pairs of valid and invalid plans.
func diffInputs(t *testing.T) (from, to []impl.Plan) {
	t.Helper()
	add := func(a, b impl.Plan) { from, to = append(from, a), append(to, b) }
	for _, x := range diffCases {
		add(loaded(t, x.start+";"+x.a+";"+x.end), loaded(t, x.start+";"+x.b+";"+x.end))
	}
	plans := somePlans(t, 100)
	for i, p := range plans {
		add(p, newTurner(i).turned(p))
		add(p, plans[(i*7+1)%len(plans)])
		add(p, impl.Plan{Next: 1})
		add(impl.Plan{Next: 1}, p)
	}
	for _, x := range brokenPlans {
		add(fullPlan(), edited(x.change))
		add(edited(x.change), fullPlan())
	}
	return from, to
}

func TestDiffsWithNilAndEmptyLists(t *testing.T) {
	from, to := diffInputs(t)
	for i, a := range from {
		b := to[i]
		want, kept := diffByHand(a, b, map[string]int{}), keptByHand(a, b)
		for _, empty := range []bool{false, true} {
			if got := impl.Diff(filledIn(a, empty), filledIn(b, !empty)); !slices.EqualFunc(got, want, sameStmt) {
				t.Errorf("%s, want %s", impl.Script(got), impl.Script(want))
			}
			if got := impl.Kept(filledIn(a, empty), filledIn(b, !empty)); !slices.Equal(got, kept) {
				t.Errorf("%q, want %q", got, kept)
			}
		}
	}
}

// The spare capacity of a list is no part of it, and nothing is written there.
func TestDiffArgumentsAreUnchanged(t *testing.T) {
	from, to := diffInputs(t)
	for i := range from {
		a, b := roomyPlan(from[i]), roomyPlan(to[i])
		beforeA, beforeB := wholeExec(a, impl.Stmt{}), wholeExec(b, impl.Stmt{})
		want := diffByHand(from[i], to[i], map[string]int{})
		if got := impl.Diff(a, b); !slices.EqualFunc(got, want, sameStmt) {
			t.Errorf("with spare capacity: %s, want %s", impl.Script(got), impl.Script(want))
		}
		if got, want := impl.Kept(a, b), keptByHand(from[i], to[i]); !slices.Equal(got, want) {
			t.Errorf("with spare capacity: %q, want %q", got, want)
		}
		if wholeExec(a, impl.Stmt{}) != beforeA || wholeExec(b, impl.Stmt{}) != beforeB {
			t.Fatalf("%s and %s became %s and %s", beforeA, beforeB, wholeExec(a, impl.Stmt{}), wholeExec(b, impl.Stmt{}))
		}
	}
}

func TestDiffResultsShareNoMemory(t *testing.T) {
	from, to := diffInputs(t)
	for i := range from {
		a, b := roomyPlan(from[i]), roomyPlan(to[i])
		want, wantKept := diffByHand(from[i], to[i], map[string]int{}), keptByHand(from[i], to[i])
		first, second, kept, keptAgain := impl.Diff(a, b), impl.Diff(a, b), impl.Kept(a, b), impl.Kept(a, b)
		checkApart(t, []any{a, b}, first, second, kept, keptAgain, impl.Kept(a, a))
		before := wholeExec(a, impl.Stmt{}) + wholeExec(b, impl.Stmt{})
		for _, s := range first {
			spoil(s)
		}
		clear(first[:cap(first)])
		clear(kept[:cap(kept)])
		if after := wholeExec(a, impl.Stmt{}) + wholeExec(b, impl.Stmt{}); after != before {
			t.Fatalf("%s became %s", before, after)
		}
		spoilPlan(a)
		spoilPlan(b)
		if !slices.EqualFunc(second, want, sameStmt) || !slices.Equal(keptAgain, wantKept) {
			t.Fatalf("%+v became %+v", want, second)
		}
		if t.Failed() {
			t.FailNow()
		}
	}
}

// keptByHand holds every table against every other one.
func keptByHand(a, b impl.Plan) []string {
	var out []string
	for _, x := range a.Tables {
		for _, y := range b.Tables {
			if x.Name == y.Name && x.Token == y.Token && !slices.Contains(out, x.Name) {
				out = append(out, x.Name)
			}
		}
	}
	slices.Sort(out)
	return out
}

func checkKept(t *testing.T, a, b impl.Plan, want []string, what ...any) {
	t.Helper()
	if got := impl.Kept(a, b); !slices.Equal(got, want) {
		t.Errorf("Kept = %q, want %q: %.600s", got, want, fmt.Sprint(what...))
	}
	if got := impl.Kept(b, a); !slices.Equal(got, want) {
		t.Errorf("Kept the other way = %q, want %q: %.600s", got, want, fmt.Sprint(what...))
	}
}

// marked returns a plan with tables of those names and tokens, whether it is valid or not.
func marked(t *testing.T, text string) impl.Plan {
	t.Helper()
	p := impl.Plan{Next: 100}
	for _, s := range strings.Fields(text) {
		var x impl.Table
		if n, err := fmt.Sscanf(s, "%1s%d", &x.Name, &x.Token); n != 2 {
			t.Fatal(text, err)
		}
		p.Tables = append(p.Tables, x)
	}
	return p
}

func TestKept(t *testing.T) {
	for _, x := range []struct{ a, b, want string }{
		{"", "", ""}, {"a1", "", ""}, {"a1", "a1", "a"}, {"a1", "a2", ""}, {"a1", "b1", ""}, {"a1 b2", "a2 b1", ""}, {"a1 b2 c3", "a1 b2 c3", "a b c"}, {"a3 b2 c1", "a3 b2 c1", "a b c"},
		{"a1 b2 c3", "a1 b4 c3", "a c"}, {"a1 b2 c3", "b2", "b"}, {"a1 c3", "a1 b2 c3 d4", "a c"}, {"a1 b2", "c1 d2", ""}, {"a1 b99", "a9 b99", "b"}, {"B1 a2 c3", "B1 a2 c4", "B a"},
		// Invalid plans: in another order, with a name or a token twice, with tokens out of the range.
		{"b2 a1", "a1 b2", "a b"}, {"c3 a1 b2", "b2 c3 a1", "a b c"}, {"a1 a2", "a2", "a"}, {"a1 a2", "a3 a2", "a"}, {"a1 a1", "a1 a1", "a"}, {"a1 a2", "a2 a1", "a"}, {"a1 a2", "a3", ""}, {"b1 a1 b1", "b1 b2", "b"},
		{"a0", "a0", "a"}, {"a-1", "a-1", "a"}, {"a-1", "a1", ""}, {"a100", "a100", "a"}, {"a1000000000", "a1000000000", "a"}, {"a4294967297", "a1", ""}, {"a1 b1", "a1 b1", "a b"}, {"a1 b0", "b0 c7", "b"},
	} {
		checkKept(t, marked(t, x.a), marked(t, x.b), strings.Fields(x.want), x)
	}
	checkKept(t, impl.Plan{}, impl.Plan{}, nil, "the zero Plan")
	checkKept(t, impl.Plan{Tables: make([]impl.Table, 2)}, impl.Plan{Tables: make([]impl.Table, 3)}, []string{""}, "zero tables")
	for i, s := range append(badNames(), sampleNames()...) {
		checkKept(t, impl.Plan{Tables: []impl.Table{{Name: s, Token: i}}}, impl.Plan{Tables: []impl.Table{{Name: s, Token: i}, {Name: s + "x", Token: i}}}, []string{s}, "any bytes")
	}
}

// Kept looks at nothing but Names and Tokens.
func TestKeptOfChangedPlans(t *testing.T) {
	for i, x := range brokenPlans {
		p := edited(x.change)
		checkKept(t, p, fullPlan(), keptByHand(p, fullPlan()), i, x.word)
		checkKept(t, p, p, keptByHand(p, p), i, x.word)
	}
	checkKept(t, edited(func(p *impl.Plan) { p.Tables[0], p.Tables[2] = p.Tables[2], p.Tables[0] }), fullPlan(), []string{"item", "part", "void"})
	checkKept(t, edited(func(p *impl.Plan) { p.Tables[1] = impl.Table{Name: "part", Token: 1} }), fullPlan(), []string{"item", "part", "void"}, "nothing but the name and the token is left")
	checkKept(t, impl.Plan{Tables: fullPlan().Tables}, fullPlan(), []string{"item", "part", "void"}, "an invalid plan")
	met := map[int]int{}
	for i, p := range somePlans(t, 400) {
		q := newTurner(i).turned(p)
		checkKept(t, p, q, keptByHand(p, q), i)
		planBreaker{rand.New(rand.NewSource(int64(i)))}.changeTokens(&q)
		checkKept(t, p, q, keptByHand(p, q), i)
		met[len(keptByHand(p, q))]++
	}
	if met[0] < 20 || met[1] < 20 || met[2] < 20 || met[3] < 20 {
		t.Error(met)
	}
	many, more := impl.Plan{}, impl.Plan{}
	for i, s := range numbered(200000) {
		many.Tables = append(many.Tables, impl.Table{Name: s, Token: i})
		more.Tables = append(more.Tables, impl.Table{Name: s, Token: i + i%2})
	}
	if got := impl.Kept(many, more); len(got) != 100000 || got[99999] != numbered(200000)[199998] {
		t.Error(len(got))
	}
	checkNoDiff(t, many, more)
}

// Every call ends, also for expressions that contain themselves.
func TestDiffsOfEndlessPlans(t *testing.T) {
	for i, e := range append(endlessExprs(), sameLoops()...) {
		for j, change := range []func(p *impl.Plan){
			func(p *impl.Plan) { p.Tables[0].Cols[3].Default[0] = e },
			func(p *impl.Plan) { p.Tables[0].Rules[0].Expr[0] = e },
			func(p *impl.Plan) { p.Views[0].Where[0] = e },
		} {
			for _, p := range []impl.Plan{fullPlan(), {}, edited(change)} {
				if impl.Diff(edited(change), p) != nil || impl.Diff(p, edited(change)) != nil {
					t.Error("different", i, j)
				}
			}
			if got := impl.Kept(edited(change), fullPlan()); len(got) != 3 {
				t.Error(got, i, j)
			}
		}
	}
}
