package tests

import (
	"fmt"
	"math"
	"math/rand"
	"slices"
	"strings"
	"testing"
	"unsafe"

	"loop.example/g00751/impl"
)

// query is a question to one function of the chapter; by is the second name, if the function takes one.
type query struct {
	kind string
	of   string
	by   string
}

func (q query) ask(p impl.Plan) []string {
	switch q.kind {
	case "enum":
		return impl.EnumUse(p, q.of)
	case "table":
		return impl.TableUse(p, q.of)
	case "col":
		return impl.ColUse(p, q.of, q.by)
	case "key":
		return impl.KeyUse(p, q.of, q.by)
	case "label":
		return impl.LabelUse(p, q.of, q.by)
	}
	panic(q.kind)
}

var queryKinds = []string{"enum", "table", "col", "key", "label"}

func checkUse(t *testing.T, p impl.Plan, q query, want []string) {
	t.Helper()
	got := q.ask(p)
	if !slices.Equal(got, want) {
		t.Errorf("%q is %.2000q, want %.2000q in %.3000s", q, got, want, fmt.Sprintf("%+v", p))
	}
	if !ordered(got) {
		t.Errorf("%q is not rising: %.2000q", q, got)
	}
}

// useCase has the names that are wanted with commas between them.
type useCase struct {
	kind string
	of   string
	by   string
	want string
}

func checkUses(t *testing.T, p impl.Plan, cases []useCase) {
	t.Helper()
	for _, x := range cases {
		var want []string
		if x.want != "" {
			want = strings.Split(x.want, ",")
		}
		checkUse(t, p, query{x.kind, x.of, x.by}, want)
	}
}

func TestUsesInFullPlan(t *testing.T) {
	checkUses(t, fullPlan(), []useCase{
		{"enum", "mood", "", "item.m"}, {"enum", "size", "", ""},
		{"table", "item", "", "by,look,part"}, {"table", "part", "", "item,one,peek"}, {"table", "void", "", ""},
		{"col", "item", "a", "by,item.ck,item.pk,item.self,look"}, {"col", "item", "b", "item.pk,item.self"}, {"col", "item", "c", "item.uq,part.own"}, {"col", "item", "d", "look"},
		{"col", "item", "m", "item.ck,look"}, {"col", "item", "n", "by,item.ck,item.rf,item.self"}, {"col", "item", "t", "item.self"}, {"col", "part", "id", "item.rf,one,part.u"}, {"col", "part", "k", "part.own,peek"},
		{"key", "item", "pk", "item.self"}, {"key", "item", "uq", "part.own"}, {"key", "part", "u", "item.rf"},
		{"key", "item", "ck", ""}, {"key", "item", "rf", ""}, {"key", "item", "self", ""}, {"key", "part", "own", ""},
		{"label", "mood", "sad", "item.m"}, {"label", "mood", "happy", "item.ck"}, {"label", "size", "small", ""}, {"label", "size", "big", ""}, {"label", "size", "item", ""},
	})
}

// A name of another kind of thing, and a name that is nearly the right one, is not there.
func TestUsesOfNamesThatAreNotThere(t *testing.T) {
	p := fullPlan()
	names := slices.Concat(otherNames("item"), otherNames("mood"), otherNames("a"), []string{"Item", "ite", "items", "item.a", "item.pk", "counter", "look", "by", "none"})
	for _, s := range names {
		checkUses(t, p, []useCase{
			{"enum", s, "", ""}, {"table", s, "", ""}, {"col", s, "a", ""}, {"col", "item", s, ""}, {"col", s, s, ""}, {"key", s, "pk", ""}, {"key", "item", s, ""}, {"key", s, s, ""}, {"label", "mood", s, ""}, {"label", s, s, ""},
		})
		for _, q := range []impl.Plan{{}, {Next: 1}} {
			for _, kind := range queryKinds {
				checkUse(t, q, query{kind, s, s}, nil)
			}
		}
	}
	checkUses(t, p, []useCase{
		{"enum", "item", "", ""}, {"enum", "m", "", ""}, {"table", "mood", "", ""}, {"col", "item", "id", ""}, {"col", "part", "a", ""}, {"col", "void", "a", ""}, {"col", "item", "pk", ""}, {"col", "item", "item", ""}, {"col", "a", "item", ""},
		{"key", "part", "pk", ""}, {"key", "item", "u", ""}, {"key", "void", "u", ""}, {"key", "item", "c", ""}, {"key", "uq", "item", ""}, {"label", "mood", "x", ""}, {"label", "size", "sad", ""}, {"label", "mood", "m", ""}, {"label", "none", "sad", ""}, {"label", "none", "happy", "item.ck"},
	})
}

// crossPlan is valid; its lists are in another order than the names of what uses table c, its column k and its key.
func crossPlan() impl.Plan {
	mood := func(name string, list ...impl.Expr) impl.Col {
		return impl.Col{Name: name, Type: enum("mood"), Default: list}
	}
	sad := op(impl.EpEq, col("m"), quoted("sad"))
	uses := func(cols ...impl.Col) impl.Table {
		return impl.Table{Cols: append(cols, impl.Col{Name: "x"}, impl.Col{Name: "y"})}
	}
	a, ab, b := uses(mood("m", quoted("sad")), mood("n", op(impl.EpNull))), uses(mood("m", quoted("glad")), column("o", kindOf(impl.TyText))), uses(mood("m", quoted("sad")))
	a.Name, a.Token, a.Rules = "a", 3, []impl.Rule{condition("c", sad), reference("z", []string{"x"}, "c", "k")}
	ab.Name, ab.Token, ab.Rules = "a b", 2, []impl.Rule{condition("c", op(impl.EpNot, sad)), reference("z", []string{"y"}, "c", "k")}
	b.Name, b.Token, b.Rules = "b", 1, []impl.Rule{reference("A", []string{"x"}, "c", "k"), condition("_", op(impl.EpNe, quoted("sad"), col("m")))}
	c := impl.Table{Name: "c", Token: 4, Cols: []impl.Col{{Name: "k", NotNull: true}, column("q", kindOf(impl.TyText))}, Rules: []impl.Rule{reference("again", []string{"k"}, "c", "k"), condition("check", op(impl.EpLt, lit(1), col("k"))), key(impl.RuPrimary, "pk", "k")}}
	return impl.Plan{
		Enums:  []impl.Labels{labels("mood", "sad", "glad")},
		Tables: []impl.Table{a, ab, b, c},
		Indexes: []impl.Index{
			{Name: "Z", Table: "c", Cols: []string{"k"}}, {Name: "a a", Table: "c", Cols: []string{"q", "k"}}, {Name: "d", Table: "c", Cols: []string{"k", "q"}, Unique: true}, {Name: "other", Table: "a", Cols: []string{"x"}},
		},
		Views: []impl.View{
			{Name: "B", Table: "c", Cols: []string{"k", "q"}}, {Name: "aa", Table: "c", Cols: []string{"q"}, Where: []impl.Expr{op(impl.EpIsNull, col("k"))}}, {Name: "sorry", Table: "a", Cols: []string{"x"}, Where: []impl.Expr{sad}}, {Name: "where", Table: "b", Cols: []string{"m"}},
		},
		Next: 5,
	}
}

func TestUsesInOrder(t *testing.T) {
	p := crossPlan()
	checkPlan(t, p, true)
	cases := []useCase{
		{"enum", "mood", "", "a b.m,a.m,a.n,b.m"},
		{"table", "c", "", "B,Z,a,a a,a b,aa,b,d"}, {"table", "a", "", "other,sorry"}, {"table", "b", "", "where"}, {"table", "a b", "", ""},
		{"col", "c", "k", "B,Z,a a,a b.z,a.z,aa,b.A,c.again,c.check,c.pk,d"}, {"col", "c", "q", "B,a a,aa,d"}, {"col", "a", "m", "a.c,sorry"}, {"col", "a b", "m", "a b.c"}, {"col", "b", "m", "b._,where"}, {"col", "a", "n", ""}, {"col", "a", "x", "a.z,other,sorry"}, {"col", "a b", "x", ""}, {"col", "a b", "y", "a b.z"}, {"col", "a b", "o", ""},
		{"key", "c", "pk", "a b.z,a.z,b.A,c.again"},
		{"label", "mood", "sad", "a b.c,a.c,a.m,b._,b.m,sorry"}, {"label", "mood", "glad", "a b.m"},
	}
	checkUses(t, p, cases)
	slices.Reverse(p.Tables)
	slices.Reverse(p.Indexes)
	slices.Reverse(p.Views)
	for i := range p.Tables {
		slices.Reverse(p.Tables[i].Cols)
		slices.Reverse(p.Tables[i].Rules)
	}
	checkPlan(t, p, false)
	checkUses(t, p, cases)
}

// Two different things may have one qualified name, and a thing may have the qualified name of another.
func TestEqualQualifiedNames(t *testing.T) {
	mood := func(name string) impl.Col {
		return impl.Col{Name: name, Type: enum("mood"), Default: []impl.Expr{quoted("sad")}}
	}
	is := op(impl.EpEq, col("b.c"), quoted("sad"))
	p := impl.Plan{
		Enums: []impl.Labels{labels("mood", "sad")},
		Tables: []impl.Table{
			{Name: "a", Token: 1, Cols: []impl.Col{mood("b.c")}, Rules: []impl.Rule{condition("b.c", is), key(impl.RuUnique, "k", "b.c"), reference("z", []string{"b.c"}, "a", "b.c")}},
			{Name: "a.b", Token: 2, Cols: []impl.Col{mood("c")}, Rules: []impl.Rule{reference("c", []string{"c"}, "a", "b.c")}},
		},
		Indexes: []impl.Index{{Name: "a.k", Table: "a", Cols: []string{"b.c"}}},
		Views:   []impl.View{{Name: "a.b.c", Table: "a", Cols: []string{"b.c"}, Where: []impl.Expr{is}}},
		Next:    3,
	}
	checkPlan(t, p, true)
	checkUses(t, p, []useCase{
		{"enum", "mood", "", "a.b.c"}, {"label", "mood", "sad", "a.b.c"}, {"table", "a", "", "a.b,a.b.c,a.k"}, {"table", "a.b", "", ""}, {"col", "a", "b.c", "a.b.c,a.k,a.z"}, {"col", "a.b", "c", "a.b.c"}, {"key", "a", "k", "a.b.c,a.z"},
	})
}

func TestEnumUse(t *testing.T) {
	with := func(types ...impl.Type) impl.Plan {
		p := impl.Plan{Enums: []impl.Labels{labels("e", "x"), labels("f", "x")}, Tables: []impl.Table{{Name: "t", Token: 1}, {Name: "u", Token: 2}}, Next: 3}
		for i, x := range types {
			p.Tables[i%2].Cols = append(p.Tables[i%2].Cols, column(numbered(9)[i], x))
		}
		return p
	}
	e, f := enum("e"), enum("f")
	for _, x := range []struct {
		types []impl.Type
		want  string
	}{
		{nil, ""}, {[]impl.Type{{}}, ""}, {[]impl.Type{f}, ""}, {[]impl.Type{e}, "t.n000000"}, {[]impl.Type{f, e}, "u.n000001"}, {[]impl.Type{e, e}, "t.n000000,u.n000001"}, {[]impl.Type{e, f, e}, "t.n000000,t.n000002"},
		{[]impl.Type{kindOf(impl.TyText), e, char(3), e, kindOf(impl.TyBool), f, {}, f, e}, "t.n000008,u.n000001,u.n000003"},
	} {
		p := with(x.types...)
		checkPlan(t, p, true)
		checkUses(t, p, []useCase{{"enum", "e", "", x.want}, {"enum", "n000000", "", ""}, {"enum", "t", "", ""}, {"enum", "E", "", ""}, {"enum", "", "", ""}})
	}
	for _, kind := range []int{math.MinInt, -1, impl.TyInt, impl.TyText, impl.TyBool, impl.TyChar, 5, 256 + impl.TyEnum, 1<<32 + impl.TyEnum, math.MaxInt} {
		checkUses(t, with(impl.Type{Kind: kind, Name: "e"}), []useCase{{"enum", "e", "", ""}})
		checkUses(t, with(e, impl.Type{Kind: kind, Name: "e"}), []useCase{{"enum", "e", "", "t.n000000"}})
	}
	checkUses(t, with(enum("none"), enum("")), []useCase{{"enum", "none", "", "t.n000000"}, {"enum", "", "", "u.n000001"}, {"enum", "e", "", ""}})
	checkUses(t, with(impl.Type{Kind: impl.TyEnum, Len: 3, Name: "e"}), []useCase{{"enum", "e", "", "t.n000000"}})
}

func TestTableUse(t *testing.T) {
	ref := func(name string, to string) impl.Rule { return reference(name, []string{"x"}, to, "k") }
	with := func(change func(p *impl.Plan)) impl.Plan {
		p := impl.Plan{Next: 9}
		for i, s := range strings.Fields("a b c") {
			p.Tables = append(p.Tables, impl.Table{Name: s, Token: i + 1, Cols: []impl.Col{{Name: "k"}, {Name: "x"}}, Rules: []impl.Rule{key(impl.RuUnique, "key", "k")}})
		}
		change(&p)
		checkPlan(t, p, true)
		return p
	}
	rule := func(p *impl.Plan, at int, r impl.Rule) { p.Tables[at].Rules = append(p.Tables[at].Rules, r) }
	for _, x := range []struct {
		want   string
		change func(p *impl.Plan)
	}{
		{"", func(p *impl.Plan) {}},
		{"", func(p *impl.Plan) { rule(p, 1, ref("r", "b")) }},
		{"", func(p *impl.Plan) { rule(p, 1, ref("r", "a")); rule(p, 2, ref("r", "a")); rule(p, 0, ref("r", "c")) }},
		{"a", func(p *impl.Plan) { rule(p, 0, ref("r", "b")) }},
		{"c", func(p *impl.Plan) { rule(p, 2, ref("r", "b")) }},
		{"c", func(p *impl.Plan) { rule(p, 2, ref("r", "b")); rule(p, 2, ref("s", "b")) }},
		{"c", func(p *impl.Plan) {
			rule(p, 2, ref("r", "a"))
			rule(p, 2, ref("s", "b"))
			rule(p, 2, ref("t", "c"))
			rule(p, 1, ref("r", "b"))
		}},
		{"a,c", func(p *impl.Plan) { rule(p, 2, ref("r", "b")); rule(p, 0, ref("s", "b")); rule(p, 1, ref("s", "b")) }},
		{"i", func(p *impl.Plan) {
			p.Indexes = []impl.Index{{Name: "h", Table: "a", Cols: []string{"k"}}, {Name: "i", Table: "b", Cols: []string{"k"}}, {Name: "j", Table: "c", Cols: []string{"k"}}}
		}},
		{"v", func(p *impl.Plan) {
			p.Views = []impl.View{{Name: "u", Table: "a", Cols: []string{"k"}}, {Name: "v", Table: "b", Cols: []string{"k"}}, {Name: "w", Table: "c", Cols: []string{"k"}}}
		}},
		{"a,g,h,v,w", func(p *impl.Plan) {
			rule(p, 0, ref("r", "b"))
			rule(p, 1, ref("r", "b"))
			p.Indexes = []impl.Index{{Name: "g", Table: "b", Cols: []string{"k"}, Unique: true}, {Name: "w", Table: "b", Cols: []string{"x"}}}
			p.Views = []impl.View{{Name: "h", Table: "b", Cols: []string{"k"}}, {Name: "v", Table: "b", Cols: []string{"x"}}}
		}},
	} {
		checkUses(t, with(x.change), []useCase{{"table", "b", "", x.want}, {"table", "B", "", ""}, {"table", "", "", ""}, {"table", "key", "", ""}, {"table", "k", "", ""}})
	}
}

// Only a RuRef refers to the table in its Table; every rule of a table contains its Cols and its Expr.
func TestUsesOfRulesOfEveryKind(t *testing.T) {
	for _, kind := range ruleFields.kinds {
		r := impl.Rule{Name: "r", Kind: kind, Cols: []string{"own", "both"}, Expr: []impl.Expr{op(impl.EpEq, col("deep"), quoted("word"))}, Table: "far", To: []string{"to", "both"}}
		k := impl.Rule{Name: "k", Kind: kind, Cols: []string{"to", "both"}}
		p := impl.Plan{Tables: []impl.Table{{Name: "far", Rules: []impl.Rule{k}}, {Name: "t", Rules: []impl.Rule{r}}}}
		refers, checked := "", ""
		if kind == 3 {
			refers = "t.r"
		}
		if kind == 2 {
			checked = "t.r"
		}
		checkUses(t, p, []useCase{
			{"table", "far", "", strings.TrimSuffix(refers, ".r")}, {"table", "t", "", ""}, {"col", "t", "own", "t.r"}, {"col", "t", "both", "t.r"}, {"col", "t", "deep", "t.r"}, {"col", "t", "to", ""}, {"col", "t", "word", ""},
			{"col", "far", "own", ""}, {"col", "far", "deep", ""}, {"col", "far", "to", strings.Trim("far.k,"+refers, ",")}, {"label", "e", "word", checked}, {"label", "e", "deep", ""}, {"key", "far", "k", ""},
		})
		r.Kind = impl.RuRef
		p.Tables[1].Rules[0] = r
		want := ""
		if kind == 0 || kind == 1 {
			want = "t.r"
		}
		checkUses(t, p, []useCase{{"key", "far", "k", want}, {"col", "far", "to", "far.k,t.r"}, {"col", "far", "both", "far.k,t.r"}})
	}
}

// colPlan has tables t and u with the same columns; t has a key of p and of p, q.
func colPlan(change func(p *impl.Plan)) impl.Plan {
	cols := func() []impl.Col {
		return []impl.Col{{Name: "c"}, {Name: "d"}, {Name: "p"}, {Name: "q"}}
	}
	keys := func() []impl.Rule {
		return []impl.Rule{key(impl.RuUnique, "a", "p"), key(impl.RuUnique, "b", "p", "q")}
	}
	p := impl.Plan{Next: 3, Tables: []impl.Table{{Name: "t", Token: 1, Cols: cols(), Rules: keys()}, {Name: "u", Token: 2, Cols: cols(), Rules: keys()}}}
	change(&p)
	return p
}

func TestColUse(t *testing.T) {
	rule := func(at int, list ...impl.Rule) func(p *impl.Plan) {
		return func(p *impl.Plan) { p.Tables[at].Rules = append(p.Tables[at].Rules, list...) }
	}
	index := func(table string, cols ...string) func(p *impl.Plan) {
		return func(p *impl.Plan) { p.Indexes = []impl.Index{{Name: "i", Table: table, Cols: cols}} }
	}
	view := func(table string, cols []string, list ...impl.Expr) func(p *impl.Plan) {
		return func(p *impl.Plan) { p.Views = []impl.View{{Name: "v", Table: table, Cols: cols, Where: list}} }
	}
	is := op(impl.EpEq, col("c"), lit(1))
	deep := chain(impl.EpNot, 36, op(impl.EpAnd, op(impl.EpNull), op(impl.EpIsNull, col("c"))))
	for i, x := range []struct {
		want   string
		change func(p *impl.Plan)
	}{
		{"", func(p *impl.Plan) {}},
		{"t.k", rule(0, key(impl.RuUnique, "k", "c"))},
		{"t.k", rule(0, key(impl.RuUnique, "k", "c", "d"))},
		{"t.k", rule(0, key(impl.RuUnique, "k", "c", "d", "p", "q"))},
		{"", rule(0, key(impl.RuUnique, "k", "d"))},
		{"", rule(1, key(impl.RuUnique, "k", "c"))},
		{"t.k", rule(0, condition("k", is))},
		{"t.k", rule(0, condition("k", op(impl.EpOr, is, is)))},
		{"t.k", rule(0, condition("k", op(impl.EpEq, lit(1), col("c"))))},
		{"t.k", rule(0, condition("k", deep))},
		{"t.k", rule(0, condition("k", op(impl.EpLt, op(impl.EpAdd, col("d"), op(impl.EpMul, col("p"), op(impl.EpSub, col("q"), col("c")))), lit(2))))},
		{"", rule(0, condition("k", op(impl.EpEq, col("d"), lit(1))))},
		{"", rule(0, condition("k", op(impl.EpEq, quoted("c"), quoted("t.c"))))},
		{"", rule(1, condition("k", is), condition("l", deep))},
		{"t.r", rule(0, reference("r", []string{"c"}, "u", "p"))},
		{"t.r", rule(0, reference("r", []string{"d", "c"}, "u", "p", "q"))},
		{"t.r", rule(0, reference("r", []string{"c"}, "t", "p"))},
		{"", rule(0, reference("r", []string{"d"}, "t", "p"))},
		{"", rule(1, reference("r", []string{"c"}, "t", "p"))},
		{"i", index("t", "c")}, {"i", index("t", "d", "c")}, {"", index("t", "d")}, {"", index("u", "c")},
		{"v", view("t", []string{"c"})}, {"v", view("t", []string{"c", "d"}, is)}, {"v", view("t", []string{"d"}, is)}, {"v", view("t", []string{"d"}, deep)}, {"", view("t", []string{"d"})}, {"", view("t", []string{"d"}, op(impl.EpIsNull, col("d")))}, {"", view("u", []string{"c"}, is)}, {"", view("t", []string{"d"}, op(impl.EpEq, quoted("c"), op(impl.EpNull)))},
		{"i,t.k,t.l,t.r,v", func(p *impl.Plan) {
			rule(0, key(impl.RuUnique, "k", "c"), condition("l", is), reference("r", []string{"c"}, "t", "c"))(p)
			index("t", "c")(p)
			view("t", []string{"c"}, is)(p)
		}},
	} {
		p := colPlan(x.change)
		checkPlan(t, p, true, i)
		checkUses(t, p, []useCase{{"col", "t", "c", x.want}, {"col", "none", "c", ""}, {"col", "", "c", ""}, {"col", "t", "C", ""}, {"col", "t", "", ""}})
	}
}

// A reference uses the columns that it leads to, wherever it stands, and its own.
func TestColUseOfReferences(t *testing.T) {
	for _, x := range []struct {
		from string
		r    impl.Rule
		uses [4]string // of t.p, t.q, u.p and u.q beside the keys
	}{
		{"t", reference("r", []string{"c"}, "t", "p"), [4]string{"t.r", "", "", ""}},
		{"t", reference("r", []string{"c", "d"}, "t", "p", "q"), [4]string{"t.r", "t.r", "", ""}},
		{"u", reference("r", []string{"c"}, "t", "p"), [4]string{"u.r", "", "", ""}},
		{"u", reference("r", []string{"d", "c"}, "t", "p", "q"), [4]string{"u.r", "u.r", "", ""}},
		{"u", reference("r", []string{"p", "c"}, "t", "p", "q"), [4]string{"u.r", "u.r", "u.r", ""}},
		{"t", reference("r", []string{"q"}, "u", "p"), [4]string{"", "t.r", "t.r", ""}},
		{"t", reference("r", []string{"p"}, "t", "p"), [4]string{"t.r", "", "", ""}},
		{"t", reference("r", []string{"q", "p"}, "t", "p", "q"), [4]string{"t.r", "t.r", "", ""}},
		{"u", reference("r", []string{"q"}, "u", "p"), [4]string{"", "", "u.r", "u.r"}},
	} {
		p := colPlan(func(p *impl.Plan) {
			at := strings.Index("tu", x.from)
			p.Tables[at].Rules = append(p.Tables[at].Rules, x.r)
		})
		checkPlan(t, p, true)
		for i, keys := range []string{"t.a,t.b", "t.b", "u.a,u.b", "u.b"} {
			want := strings.Split(keys, ",")
			if x.uses[i] != "" {
				want = append(want, x.uses[i])
			}
			slices.Sort(want)
			checkUse(t, p, query{"col", []string{"t", "u"}[i/2], []string{"p", "q"}[i%2]}, want)
		}
	}
}

// A thing that uses the column in two ways is told once, also where its plan is invalid.
func TestUsedInTwoWays(t *testing.T) {
	is := op(impl.EpEq, col("c"), quoted("c"))
	r := impl.Rule{Name: "r", Kind: impl.RuRef, Cols: []string{"c", "c"}, Expr: []impl.Expr{is, is}, Table: "t", To: []string{"c", "c"}}
	p := impl.Plan{
		Tables:  []impl.Table{{Name: "t", Rules: []impl.Rule{r, r, key(impl.RuUnique, "k", "c", "c")}}, {Name: "u", Rules: []impl.Rule{r, r}}},
		Indexes: []impl.Index{{Name: "i", Table: "t", Cols: []string{"c", "c"}}, {Name: "i", Table: "t", Cols: []string{"c"}}, {Name: "u", Table: "t"}},
		Views:   []impl.View{{Name: "v", Table: "t", Cols: []string{"c", "c"}, Where: []impl.Expr{is, is}}, {Name: "v", Table: "t", Cols: []string{"c"}}, {Name: "i", Table: "t", Cols: []string{"c"}}},
	}
	checkUses(t, p, []useCase{{"table", "t", "", "i,u,v"}, {"col", "t", "c", "i,t.k,t.r,u.r,v"}, {"key", "t", "k", "t.r,u.r"}, {"label", "t", "c", "v"}})
	p.Tables[0].Rules[0].Kind, p.Tables[1].Rules[0].Kind = impl.RuCheck, impl.RuCheck
	checkUses(t, p, []useCase{{"col", "t", "c", "i,t.k,t.r,u.r,v"}, {"label", "t", "c", "t.r,u.r,v"}})
}

// Of two tables with one Name, the first has the column and the key; references, indexes and views know the Name alone.
func TestTablesOfOneName(t *testing.T) {
	ref := reference("r", []string{"c"}, "t", "c")
	p := impl.Plan{
		Enums: []impl.Labels{labels("e", "x")},
		Tables: []impl.Table{
			{Name: "z", Rules: []impl.Rule{ref}},
			{Name: "t", Cols: []impl.Col{column("c", enum("e")), column("d", enum("e"))}, Rules: []impl.Rule{condition("first", col("c")), key(impl.RuUnique, "k", "c"), key(impl.RuUnique, "one", "d")}},
			{Name: "t", Cols: []impl.Col{column("c", enum("e")), column("d", enum("e"))}, Rules: []impl.Rule{condition("second", col("c")), key(impl.RuUnique, "k", "d"), ref, key(impl.RuUnique, "two", "c"), key(impl.RuUnique, "other", "c")}},
			{Name: "z", Rules: []impl.Rule{reference("s", []string{"c"}, "t", "d"), ref}},
		},
		Indexes: []impl.Index{{Name: "i", Table: "t", Cols: []string{"c"}}},
		Views:   []impl.View{{Name: "v", Table: "t", Cols: []string{"c"}}},
	}
	checkUses(t, p, []useCase{
		{"enum", "e", "", "t.c,t.d"}, {"table", "t", "", "i,v,z"}, {"table", "z", "", ""},
		{"col", "t", "c", "i,t.first,t.k,t.r,v,z.r"}, {"col", "t", "d", "t.one,z.s"}, {"col", "z", "c", "z.r"},
		{"key", "t", "k", "t.r,z.r"}, {"key", "t", "one", "z.s"}, {"key", "t", "two", ""}, {"key", "t", "other", ""}, {"key", "t", "first", ""}, {"key", "t", "second", ""},
	})
	p.Tables[1], p.Tables[2] = p.Tables[2], p.Tables[1]
	checkUses(t, p, []useCase{
		{"table", "t", "", "i,v,z"}, {"col", "t", "c", "i,t.other,t.r,t.second,t.two,v,z.r"}, {"col", "t", "d", "t.k,z.s"},
		{"key", "t", "k", "z.s"}, {"key", "t", "two", ""}, {"key", "t", "other", ""}, {"key", "t", "one", ""},
	})
}

// keyPlan has the rules in table t; u refers to it by lists of columns, one reference each.
func keyPlan(rules []impl.Rule, tos ...string) impl.Plan {
	cols := []impl.Col{{Name: "a", NotNull: true}, {Name: "b", NotNull: true}, {Name: "c", NotNull: true}}
	p := impl.Plan{Next: 3, Tables: []impl.Table{{Name: "t", Token: 1, Cols: cols, Rules: rules}, {Name: "u", Token: 2, Cols: cols}}}
	for i, to := range tos {
		list := strings.Fields(to)
		p.Tables[1].Rules = append(p.Tables[1].Rules, reference(numbered(9)[i], strings.Fields("c a b")[:min(len(list), 3)], "t", list...))
	}
	return p
}

func TestKeyUse(t *testing.T) {
	a, b, ab, abc := key(impl.RuUnique, "a", "a"), key(impl.RuPrimary, "b", "b"), key(impl.RuUnique, "m", "a", "b"), key(impl.RuUnique, "n", "a", "b", "c")
	rules := []impl.Rule{a, b, ab, abc}
	for _, x := range []struct {
		tos  string
		uses [4]string
	}{
		{"", [4]string{}}, {"a", [4]string{0: "u.n000000"}}, {"b", [4]string{1: "u.n000000"}}, {"a b", [4]string{2: "u.n000000"}}, {"a b c", [4]string{3: "u.n000000"}},
		{"b;a b;b;b", [4]string{1: "u.n000000,u.n000002,u.n000003", 2: "u.n000001"}}, {"a;b;a b;a b c;a b", [4]string{"u.n000000", "u.n000001", "u.n000002,u.n000004", "u.n000003"}},
	} {
		p := keyPlan(rules, strings.FieldsFunc(x.tos, func(c rune) bool { return c == ';' })...)
		checkPlan(t, p, true, x.tos)
		for i, r := range rules {
			checkUses(t, p, []useCase{{"key", "t", r.Name, x.uses[i]}, {"key", "u", r.Name, ""}, {"key", "none", r.Name, ""}, {"key", "", r.Name, ""}})
		}
		checkUses(t, p, []useCase{{"key", "t", "c", ""}, {"key", "t", "", ""}, {"key", "u", "n000000", ""}})
	}
	p := keyPlan(rules, "a", "b a", "b c", "a b", "c", "a a", "b", "a b c a", "")
	checkPlan(t, p, false)
	checkUses(t, p, []useCase{{"key", "t", "a", "u.n000000"}, {"key", "t", "b", "u.n000006"}, {"key", "t", "m", "u.n000003"}, {"key", "t", "n", ""}})
}

// Where another key has exactly the same columns, a reference does not need the one.
func TestKeyUseOfTwoKeys(t *testing.T) {
	checks := []impl.Rule{condition("c", op(impl.EpTrue)), reference("self", []string{"c", "b"}, "t", "a", "b")}
	for _, kinds := range [][2]int{{impl.RuUnique, impl.RuUnique}, {impl.RuPrimary, impl.RuUnique}, {impl.RuUnique, impl.RuPrimary}} {
		k, l := key(kinds[0], "k", "a", "b"), key(kinds[1], "l", "a", "b")
		p := keyPlan([]impl.Rule{checks[0], k, l, checks[1]}, "a b", "a b")
		checkPlan(t, p, true)
		checkUses(t, p, []useCase{{"key", "t", "k", ""}, {"key", "t", "l", ""}})
		both := "t.self,u.n000000,u.n000001"
		for i, cols := range [][]string{{"a"}, {"b"}, {"a", "b", "c"}, {"a", "c"}} {
			p.Tables[0].Rules[2].Cols = cols
			checkPlan(t, p, true, i)
			checkUses(t, p, []useCase{{"key", "t", "k", both}, {"key", "t", "l", ""}})
		}
		p.Tables[0].Rules[2].Cols = []string{"b", "a"}
		checkPlan(t, p, false, "another order")
		checkUses(t, p, []useCase{{"key", "t", "k", both}, {"key", "t", "l", ""}})
		p.Tables[1].Rules[1].To = []string{"b", "a"}
		checkUses(t, p, []useCase{{"key", "t", "k", "t.self,u.n000000"}, {"key", "t", "l", "u.n000001"}})
		for _, kind := range []int{impl.RuCheck, impl.RuRef, 4, -1, math.MaxInt} {
			p.Tables[0].Rules[2] = impl.Rule{Name: "l", Kind: kind, Cols: []string{"a", "b"}}
			checkUses(t, p, []useCase{{"key", "t", "k", "t.self,u.n000000"}, {"key", "t", "l", ""}})
		}
		p.Tables[0].Rules[2] = key(impl.RuUnique, "k", "a", "b")
		checkUses(t, p, []useCase{{"key", "t", "k", ""}})
		p.Tables[0].Rules[2] = key(impl.RuUnique, "k", "b", "a")
		checkUses(t, p, []useCase{{"key", "t", "k", "t.self,u.n000000"}})
		p.Tables[0].Rules[1], p.Tables[0].Rules[2] = p.Tables[0].Rules[2], p.Tables[0].Rules[1]
		checkUses(t, p, []useCase{{"key", "t", "k", "u.n000001"}})
	}
	three := keyPlan([]impl.Rule{key(impl.RuUnique, "k", "a"), key(impl.RuUnique, "l", "a"), key(impl.RuUnique, "m", "a"), key(impl.RuUnique, "n", "b")}, "a", "b")
	checkPlan(t, three, true)
	checkUses(t, three, []useCase{{"key", "t", "k", ""}, {"key", "t", "l", ""}, {"key", "t", "m", ""}, {"key", "t", "n", "u.n000001"}})
}

// A key of the same columns in another table does not count, nor does a reference to another table.
func TestKeyUseOfOtherTables(t *testing.T) {
	p := keyPlan([]impl.Rule{key(impl.RuUnique, "k", "a")}, "a")
	p.Tables[1].Rules = append(p.Tables[1].Rules, key(impl.RuUnique, "o", "a"), reference("p", []string{"b"}, "u", "a"))
	checkPlan(t, p, true)
	checkUses(t, p, []useCase{{"key", "t", "k", "u.n000000"}, {"key", "u", "o", "u.p"}, {"key", "u", "k", ""}, {"key", "t", "o", ""}})
	none := impl.Plan{Tables: []impl.Table{{Name: "t", Rules: []impl.Rule{key(impl.RuUnique, "k"), reference("r", nil, "t"), reference("s", nil, "t", []string{}...), reference("u", nil, "t", "a")}}}}
	checkUses(t, none, []useCase{{"key", "t", "k", "t.r,t.s"}})
	none.Tables[0].Rules[0].Cols = []string{}
	checkUses(t, none, []useCase{{"key", "t", "k", "t.r,t.s"}})
	none.Tables[0].Rules = append(none.Tables[0].Rules, key(impl.RuPrimary, "l"))
	checkUses(t, none, []useCase{{"key", "t", "k", ""}, {"key", "t", "l", ""}})
	spelt := impl.Plan{Tables: []impl.Table{{Name: "t", Rules: []impl.Rule{key(impl.RuUnique, "k", "a b"), key(impl.RuUnique, "l", "a", "b"), key(impl.RuUnique, "m", "a", ""), key(impl.RuUnique, "n", "", "a"), reference("r", nil, "t", "a", "b"), reference("s", nil, "t", "a b"), reference("u", nil, "t", "a"), reference("v", nil, "t", "", "a")}}}}
	checkUses(t, spelt, []useCase{{"key", "t", "k", "t.s"}, {"key", "t", "l", "t.r"}, {"key", "t", "m", ""}, {"key", "t", "n", "t.v"}})
}

func TestLabelUse(t *testing.T) {
	is := func(name string, text string) impl.Expr { return op(impl.EpEq, col(name), quoted(text)) }
	with := func(change func(p *impl.Plan)) impl.Plan {
		p := impl.Plan{Next: 3, Enums: []impl.Labels{labels("e", "x", "y"), labels("f", "x", "z")}, Tables: []impl.Table{
			{Name: "t", Token: 1, Cols: []impl.Col{column("c", enum("e")), column("d", enum("f")), column("s", kindOf(impl.TyText)), column("u", char(3))}},
			{Name: "u", Token: 2, Cols: []impl.Col{column("c", enum("e"))}},
		}}
		change(&p)
		return p
	}
	value := func(at int, list ...impl.Expr) func(p *impl.Plan) {
		return func(p *impl.Plan) { p.Tables[0].Cols[at].Default = list }
	}
	check := func(list ...impl.Expr) func(p *impl.Plan) {
		return func(p *impl.Plan) { p.Tables[0].Rules = []impl.Rule{condition("r", list...)} }
	}
	view := func(list ...impl.Expr) func(p *impl.Plan) {
		return func(p *impl.Plan) {
			p.Views = []impl.View{{Name: "v", Table: "t", Cols: []string{"c"}, Where: list}}
		}
	}
	deep := chain(impl.EpNot, 30, op(impl.EpOr, op(impl.EpIsNull, col("d")), op(impl.EpAnd, op(impl.EpTrue), is("c", "x"))))
	for i, x := range []struct {
		valid  bool
		want   string
		change func(p *impl.Plan)
	}{
		{true, "", func(p *impl.Plan) {}}, {true, "t.c", value(0, quoted("x"))}, {true, "", value(0, quoted("y"))}, {true, "", value(0, op(impl.EpNull))}, {true, "", value(0)},
		{true, "", value(1, quoted("x"))}, {true, "", value(2, quoted("x"))}, {true, "", value(3, quoted("x"))}, {true, "u.c", func(p *impl.Plan) { p.Tables[1].Cols[0].Default = []impl.Expr{quoted("x")} }},
		{false, "", value(0, op(impl.EpNot, quoted("x")))}, {false, "", value(0, op(impl.EpEq, quoted("x"), quoted("x")))}, {false, "", value(0, col("x"))}, {false, "", value(0, impl.Expr{Kind: impl.EpTrue, Text: "x"})},
		{false, "t.c", value(0, op(impl.EpNull), quoted("x"))}, {false, "t.c", value(0, quoted("x"), op(impl.EpNull))}, {false, "", value(0, quoted("y"), op(impl.EpNot, quoted("x")))}, {false, "t.c", value(0, impl.Expr{Kind: impl.EpText, Text: "x", Num: 1, Kids: []impl.Expr{{}}})}, {false, "", value(0, impl.Expr{Kind: impl.EpText, Text: "y", Kids: []impl.Expr{quoted("x")}})},
		{true, "t.r", check(is("c", "x"))}, {true, "t.r", check(op(impl.EpNe, quoted("x"), col("c")))}, {true, "t.r", check(deep)}, {true, "t.r", check(is("d", "x"))}, {true, "t.r", check(is("s", "x"))}, {true, "t.r", check(op(impl.EpLt, quoted("x"), quoted("x")))}, {true, "", check(is("c", "y"))}, {true, "", check(is("s", "X"))}, {true, "", check(is("s", "xx"))},
		{false, "", check(col("x"))}, {false, "t.r", check(quoted("x"))}, {false, "t.r", check(op(impl.EpTrue), is("c", "x"))}, {false, "t.r", check(is("c", "x"), op(impl.EpTrue))}, {false, "", check()},
		{true, "v", view(is("c", "x"))}, {true, "v", view(deep)}, {true, "v", view(is("d", "x"))}, {true, "v", view(is("s", "x"))}, {true, "", view(is("c", "y"))}, {true, "", view()}, {false, "", view(col("x"))}, {false, "v", view(op(impl.EpTrue), is("c", "x"))}, {false, "v", view(is("c", "x"), op(impl.EpTrue))}, {false, "v", view(quoted("x"))},
		{true, "t.c,t.r,v", func(p *impl.Plan) { value(0, quoted("x"))(p); check(deep)(p); view(deep)(p) }},
	} {
		p := with(x.change)
		checkPlan(t, p, x.valid, i)
		checkUses(t, p, []useCase{{"label", "e", "x", x.want}, {"label", "e", "", ""}, {"label", "e", "none", ""}})
		withoutColumns := strings.Trim(strings.ReplaceAll(strings.ReplaceAll(","+x.want, ",t.c", ""), ",u.c", ""), ",")
		checkUses(t, p, []useCase{{"label", "none", "x", withoutColumns}, {"label", "", "x", withoutColumns}})
	}
}

// A string in a column whose Type is another one does not count, whatever Name that Type has.
func TestLabelUseOfOtherTypes(t *testing.T) {
	for _, kind := range []int{math.MinInt, -1, impl.TyInt, impl.TyText, impl.TyBool, impl.TyChar, impl.TyEnum, 5, 256 + impl.TyEnum, math.MaxInt} {
		want := ""
		if kind == impl.TyEnum {
			want = "t.c"
		}
		p := impl.Plan{Tables: []impl.Table{{Name: "t", Cols: []impl.Col{{Name: "c", Type: impl.Type{Kind: kind, Name: "e"}, Default: []impl.Expr{quoted("x")}}}}}}
		checkUses(t, p, []useCase{{"label", "e", "x", want}, {"label", "f", "x", ""}, {"enum", "e", "", want}})
	}
	p := impl.Plan{Tables: []impl.Table{{Name: "t", Cols: []impl.Col{{Name: "c", Type: enum("e"), Default: []impl.Expr{quoted("")}}}, Rules: []impl.Rule{condition("r", op(impl.EpNull))}}}, Views: []impl.View{{Name: "v", Where: []impl.Expr{quoted("")}}}}
	checkUses(t, p, []useCase{{"label", "e", "", "t.c,v"}})
}

// What an invalid expression contains is looked for in all of its nodes, as Columns does.
func TestUsesInInvalidExpressions(t *testing.T) {
	find := []impl.Expr{col("c"), quoted("c")}
	for i, bad := range append(badNodes(), op(99), op(impl.EpText), op(impl.EpCol), op(impl.EpTrue), impl.Expr{Kind: -5, Text: "c"}, impl.Expr{Kind: impl.EpNum, Text: "c"}) {
		for _, e := range []impl.Expr{bad, op(impl.EpNot, bad), op(impl.EpAnd, bad, bad), op(impl.EpNot, bad, col("c")), op(impl.EpText, bad, quoted("c")), op(-1, quoted("c"), bad), op(bad.Kind, append(slices.Clone(bad.Kids), find...)...), chain(impl.EpNot, 50, op(1, bad, col("c")))} {
			p := impl.Plan{
				Tables: []impl.Table{{Name: "t", Rules: []impl.Rule{condition("r", op(impl.EpTrue), e), condition("s", e, lit(1))}}},
				Views:  []impl.View{{Name: "v", Table: "t", Where: []impl.Expr{lit(1), e}}},
			}
			all := "t.r,t.s,v"
			for _, s := range []string{"c", "n", "s", "b", "x", "", "true", "and"} {
				cols, texts := "", ""
				if slices.Contains(impl.Columns(e), s) {
					cols = all
				}
				if mentions(e, impl.EpText, s) {
					texts = all
				}
				checkUses(t, p, []useCase{{"col", "t", s, cols}, {"label", "e", s, texts}})
			}
		}
		if i == 0 && !mentions(op(impl.EpText, bad, quoted("c")), impl.EpText, "c") {
			t.Error("mentions finds nothing")
		}
	}
}

// mentions tells by a walk of its own whether e has such a node.
func mentions(e impl.Expr, kind int, text string) bool {
	for _, kid := range e.Kids {
		if mentions(kid, kind, text) {
			return true
		}
	}
	return e.Kind == kind && e.Text == text
}

func mentionedIn(list []impl.Expr, kind int, text string) bool {
	for _, e := range list {
		if mentions(e, kind, text) {
			return true
		}
	}
	return false
}

// byHand restates the chapter.
func (q query) byHand(p impl.Plan) []string {
	found := map[string]int{}
	first := slices.Index(namesIn(p)[2], q.of)
	for i, x := range p.Tables {
		for _, c := range x.Cols {
			if q.hitsCol(c) {
				found[x.Name+"."+c.Name]++
			}
		}
		for _, r := range x.Rules {
			if q.hitsRule(p, i == first, r) {
				found[x.Name+"."+r.Name]++
			}
			if q.kind == "table" && r.Kind == 3 && r.Table == q.of && x.Name != q.of {
				found[x.Name]++
			}
		}
	}
	for _, x := range p.Indexes {
		if x.Table == q.of && (q.kind == "table" || q.kind == "col" && slices.Contains(x.Cols, q.by)) {
			found[x.Name]++
		}
	}
	for _, x := range p.Views {
		if q.hitsView(x) {
			found[x.Name]++
		}
	}
	var out []string
	for s := range found {
		out = append(out, s)
	}
	slices.Sort(out)
	return out
}

func (q query) hitsCol(c impl.Col) bool {
	if c.Type.Kind != 4 || c.Type.Name != q.of {
		return false
	}
	hit := false
	for _, e := range c.Default {
		hit = hit || e.Kind == 2 && e.Text == q.by
	}
	return q.kind == "enum" || q.kind == "label" && hit
}

func (q query) hitsRule(p impl.Plan, own bool, r impl.Rule) bool {
	switch q.kind {
	case "col":
		inside := slices.Contains(r.Cols, q.by) || mentionedIn(r.Expr, impl.EpCol, q.by)
		return own && inside || r.Kind == 3 && r.Table == q.of && slices.Contains(r.To, q.by)
	case "label":
		return r.Kind == 2 && mentionedIn(r.Expr, impl.EpText, q.by)
	case "key":
		cols, ok := keyByHand(p, q.of, q.by)
		return ok && r.Kind == 3 && r.Table == q.of && fmt.Sprintf("%q", r.To) == cols
	}
	return false
}

func (q query) hitsView(x impl.View) bool {
	switch q.kind {
	case "table":
		return x.Table == q.of
	case "col":
		return x.Table == q.of && (slices.Contains(x.Cols, q.by) || mentionedIn(x.Where, impl.EpCol, q.by))
	case "label":
		return mentionedIn(x.Where, impl.EpText, q.by)
	}
	return false
}

// keyByHand returns the columns of the key as a text, if it is a key that has them alone.
func keyByHand(p impl.Plan, table string, rule string) (string, bool) {
	x, _ := tableByHand(p, table)
	keys := map[string]int{}
	for _, r := range x.Rules {
		if r.Kind == 0 || r.Kind == 1 {
			keys[fmt.Sprintf("%q", r.Cols)]++
		}
	}
	for _, r := range x.Rules {
		if r.Name == rule {
			cols := fmt.Sprintf("%q", r.Cols)
			return cols, (r.Kind == 0 || r.Kind == 1) && keys[cols] == 1
		}
	}
	return "", false
}

// queriesOf asks for everything that is in a plan and for some of what is not.
func queriesOf(p impl.Plan) []query {
	var out []query
	lists := namesIn(p)
	enums, tables := append(lists[0], "none", ""), append(lists[2], "none", "")
	var cols, rules, texts []string
	for _, x := range p.Tables {
		cols, rules = append(cols, colNames(x)...), append(rules, ruleNames(x)...)
	}
	for _, x := range p.Enums {
		texts = append(texts, x.List...)
	}
	cols, rules, texts = distinctOf(cols, "none", ""), distinctOf(rules, "none", ""), distinctOf(texts, "none", "text", "x", "")
	for _, s := range enums {
		out = append(out, query{"enum", s, ""})
		for _, label := range texts {
			out = append(out, query{"label", s, label})
		}
	}
	for _, s := range tables {
		out = append(out, query{"table", s, ""})
		for _, name := range cols {
			out = append(out, query{"col", s, name})
		}
		for _, name := range rules {
			out = append(out, query{"key", s, name})
		}
	}
	return out
}

func distinctOf(list []string, more ...string) []string {
	return slices.Compact(slices.Sorted(slices.Values(slices.Concat(list, more))))
}

// sizes counts how many names the answers have, up to three, for each function.
type sizes map[string]int

func (s sizes) count(q query, got []string) {
	s[fmt.Sprint(q.kind, " ", min(len(got), 3))]++
}

func (s sizes) check(t *testing.T, least int) {
	t.Helper()
	for _, kind := range queryKinds {
		for n := range 4 {
			if word := fmt.Sprint(kind, " ", n); s[word] < least {
				t.Errorf("%s: %d answers", word, s[word])
			}
		}
	}
}

func TestUsesInRandomPlans(t *testing.T) {
	met := sizes{}
	for _, p := range somePlans(t, 2000) {
		for _, q := range queriesOf(p) {
			checkUse(t, p, q, q.byHand(p))
			met.count(q, q.ask(p))
		}
	}
	met.check(t, 10)
}

func TestUsesInBrokenPlans(t *testing.T) {
	plans := []impl.Plan{{}}
	for _, x := range brokenPlans {
		plans = append(plans, edited(x.change))
	}
	for i := range 500 {
		random := rand.New(rand.NewSource(int64(7000 + i)))
		p := planMaker{random}.plan()
		for range 1 + random.Intn(12) {
			planBreaker{random}.change(&p)
		}
		plans = append(plans, p)
	}
	for _, p := range plans {
		for _, q := range queriesOf(p) {
			checkUse(t, p, q, q.byHand(p))
		}
	}
}

// tangler makes plans out of few names, so that everything meets everything; hardly any of them is valid.
type tangler struct {
	*rand.Rand
}

func (r tangler) name() string {
	return []string{"a", "b", "c", "a.b", ""}[r.Intn(5)]
}

// target is a name of a smaller choice, so that it is often that of a thing.
func (r tangler) target() string {
	return []string{"a", "b", ""}[r.Intn(3)]
}

func (r tangler) targets() []string {
	var out []string
	for range r.Intn(3) {
		out = append(out, r.target())
	}
	return out
}

func (r tangler) expr(depth int) impl.Expr {
	e := impl.Expr{Kind: r.Intn(4), Text: r.name(), Num: r.Intn(2)}
	if r.Intn(4) == 0 {
		e.Kind = r.Intn(22) - 1
	}
	for depth > 0 && r.Intn(3) > 0 {
		depth--
		e.Kids = append(e.Kids, r.expr(depth))
	}
	return e
}

func (r tangler) exprs() []impl.Expr {
	var out []impl.Expr
	for range r.Intn(3) {
		out = append(out, r.expr(2))
	}
	return out
}

func (r tangler) table() impl.Table {
	x := impl.Table{Name: r.name(), Token: r.Intn(3)}
	for range r.Intn(4) {
		x.Cols = append(x.Cols, impl.Col{Name: r.name(), Type: impl.Type{Kind: 3 + r.Intn(3), Len: r.Intn(2), Name: r.name()}, Default: r.exprs()})
	}
	for range r.Intn(6) {
		x.Rules = append(x.Rules, impl.Rule{Name: r.name(), Kind: []int{-1, 0, 1, 2, 3, 3, 3, 4}[r.Intn(8)], Cols: r.targets(), Expr: r.exprs(), Table: r.target(), To: r.targets()})
	}
	return x
}

func (r tangler) plan() impl.Plan {
	p := impl.Plan{Enums: []impl.Labels{labels("a", "a", "b"), labels("b", "c", "")}, Next: r.Intn(3)}
	for range r.Intn(5) {
		p.Tables = append(p.Tables, r.table())
	}
	for range r.Intn(3) {
		p.Indexes = append(p.Indexes, impl.Index{Name: r.name(), Table: r.target(), Cols: r.targets()})
		p.Views = append(p.Views, impl.View{Name: r.name(), Table: r.target(), Cols: r.targets(), Where: r.exprs()})
	}
	return p
}

func TestUsesInTangledPlans(t *testing.T) {
	met := sizes{}
	for i := range 12000 {
		p := tangler{rand.New(rand.NewSource(int64(i)))}.plan()
		for _, q := range queriesOf(p) {
			checkUse(t, p, q, q.byHand(p))
			met.count(q, q.ask(p))
		}
		if t.Failed() {
			t.Fatal("plan ", i)
		}
	}
	met.check(t, 10)
}

// objectsOf returns what an answer may name: tables, indexes and views, and the columns and rules by qualified names.
func objectsOf(p impl.Plan) map[string]int {
	out := map[string]int{}
	lists := namesIn(p)
	for _, s := range slices.Concat(lists[2:]...) {
		out[s]++
	}
	for _, x := range p.Tables {
		for _, s := range slices.Concat(colNames(x), ruleNames(x)) {
			out[x.Name+"."+s]++
		}
	}
	return out
}

func TestEveryUseExists(t *testing.T) {
	for _, p := range somePlans(t, 600) {
		objects := objectsOf(p)
		for _, q := range queriesOf(p) {
			for _, s := range q.ask(p) {
				if objects[s] == 0 {
					t.Errorf("%q has %q, which is not there", q, s)
				}
			}
		}
	}
}

// bare returns the plan without the indexes and views of these names and the rules of these names and kinds, in new
// lists.
func bare(p impl.Plan, gone []string, kinds ...int) impl.Plan {
	p.Tables = slices.Clone(p.Tables)
	for i, x := range p.Tables {
		p.Tables[i].Rules = slices.DeleteFunc(slices.Clone(x.Rules), func(r impl.Rule) bool {
			return slices.Contains(kinds, r.Kind) && slices.Contains(gone, x.Name+"."+r.Name)
		})
	}
	p.Indexes = slices.DeleteFunc(slices.Clone(p.Indexes), func(x impl.Index) bool { return slices.Contains(gone, x.Name) })
	p.Views = slices.DeleteFunc(slices.Clone(p.Views), func(x impl.View) bool { return slices.Contains(gone, x.Name) })
	return p
}

// changeCols makes new lists of columns, in the tables of the plan itself.
func changeCols(p impl.Plan, names []string, change func(c *impl.Col)) {
	for i, x := range p.Tables {
		p.Tables[i].Cols = slices.Clone(x.Cols)
		for j, c := range x.Cols {
			if slices.Contains(names, x.Name+"."+c.Name) {
				change(&p.Tables[i].Cols[j])
			}
		}
	}
}

// checkNeeds takes an object away together with everything that is said to use it, which leaves a valid plan, and
// together with all but one of these, which does not: each of them refers to the object, and nothing else does.
func checkNeeds(t *testing.T, uses []string, take func(gone []string) impl.Plan, what ...any) {
	t.Helper()
	checkPlan(t, take(uses), true, fmt.Sprint(what...), " without ", uses)
	for i, s := range uses {
		checkPlan(t, take(without(uses, i)), false, fmt.Sprint(what...), " is used by ", s)
	}
}

func TestColumnsAreNeededByTheirUses(t *testing.T) {
	met := sizes{}
	for _, p := range append(somePlans(t, 1500), crossPlan(), keyPlan([]impl.Rule{key(impl.RuUnique, "k", "a"), key(impl.RuUnique, "l", "a")}, "a")) {
		for i, x := range p.Tables {
			for j, c := range x.Cols {
				uses := impl.ColUse(p, x.Name, c.Name)
				checkNeeds(t, uses, func(gone []string) impl.Plan {
					q := bare(p, gone, impl.RuPrimary, impl.RuUnique, impl.RuCheck, impl.RuRef)
					q.Tables[i].Cols = without(x.Cols, j)
					return q
				}, "column ", x.Name, " ", c.Name)
				met.count(query{kind: "col"}, uses)
			}
		}
	}
	if met["col 0"] < 500 || met["col 1"] < 500 || met["col 2"] < 500 || met["col 3"] < 500 {
		t.Error(met)
	}
}

func TestTablesAreNeededByTheirUses(t *testing.T) {
	met := sizes{}
	for _, p := range append(somePlans(t, 1500), crossPlan()) {
		for i, x := range p.Tables {
			uses := impl.TableUse(p, x.Name)
			checkNeeds(t, uses, func(gone []string) impl.Plan {
				q := bare(p, gone)
				for j, y := range q.Tables {
					if slices.Contains(gone, y.Name) {
						q.Tables[j].Rules = slices.DeleteFunc(y.Rules, func(r impl.Rule) bool { return r.Kind == impl.RuRef && r.Table == x.Name })
					}
				}
				q.Tables = without(q.Tables, i)
				return q
			}, "table ", x.Name)
			met.count(query{kind: "table"}, uses)
		}
	}
	if met["table 0"] < 300 || met["table 1"] < 300 || met["table 2"] < 300 || met["table 3"] < 300 {
		t.Error(met)
	}
}

// This holds for the rules that are no keys as well, which nothing uses.
func TestKeysAreNeededByTheirUses(t *testing.T) {
	met := sizes{}
	twins := 0
	plans := append(somePlans(t, 1500), crossPlan(), keyPlan([]impl.Rule{key(impl.RuPrimary, "k", "a"), key(impl.RuUnique, "l", "a")}, "a", "a"))
	for _, p := range plans {
		for i, x := range p.Tables {
			for j, r := range x.Rules {
				uses := impl.KeyUse(p, x.Name, r.Name)
				checkNeeds(t, uses, func(gone []string) impl.Plan {
					rest := p
					rest.Tables = slices.Clone(p.Tables)
					rest.Tables[i].Rules = without(x.Rules, j)
					return bare(rest, gone, impl.RuRef)
				}, "rule ", x.Name, " ", r.Name)
				met.count(query{kind: "key"}, uses)
				if _, alone := keyByHand(p, x.Name, r.Name); r.Kind <= impl.RuUnique && !alone {
					twins++
				}
			}
		}
	}
	if met["key 0"] < 300 || met["key 1"] < 300 || met["key 2"] < 100 || met["key 3"] < 50 || twins < 50 {
		t.Error(met, twins)
	}
}

// A column that is no longer of the enumeration does not need it.
func TestEnumsAreNeededByTheirUses(t *testing.T) {
	met := sizes{}
	for _, p := range append(somePlans(t, 1500), crossPlan()) {
		for i, e := range p.Enums {
			uses := impl.EnumUse(p, e.Name)
			if len(impl.LabelUse(p, e.Name, "no label")) > 0 {
				t.Error("a label that nothing has is used")
			}
			checkNeeds(t, uses, func(gone []string) impl.Plan {
				q := bare(p, nil)
				q.Enums = without(p.Enums, i)
				changeCols(q, gone, func(c *impl.Col) { c.Type = kindOf(impl.TyText) })
				return q
			}, "enumeration ", e.Name)
			met.count(query{kind: "enum"}, uses)
		}
	}
	if met["enum 0"] < 300 || met["enum 1"] < 300 || met["enum 2"] < 100 || met["enum 3"] < 100 {
		t.Error(met)
	}
}

// A label may go with its uses. Of these, only the columns are sure to need it: a check may be about another type.
func TestLabelsAreNeededByTheirUses(t *testing.T) {
	met := sizes{}
	for _, p := range append(somePlans(t, 1500), crossPlan()) {
		for i, e := range p.Enums {
			for j, label := range e.List {
				if len(e.List) == 1 {
					continue
				}
				take := func(gone []string) impl.Plan {
					q := bare(p, gone, impl.RuCheck) // a column may have the name of a rule
					q.Enums = slices.Clone(p.Enums)
					q.Enums[i].List = without(e.List, j)
					changeCols(q, gone, func(c *impl.Col) { c.Default = nil })
					return q
				}
				uses := impl.LabelUse(p, e.Name, label)
				checkPlan(t, take(uses), true, "without label ", label, " and ", uses)
				for n, s := range uses {
					if slices.Contains(impl.EnumUse(p, e.Name), s) {
						checkPlan(t, take(without(uses, n)), false, "label ", label, " is used by ", s)
					}
				}
				met.count(query{kind: "label"}, uses)
			}
		}
	}
	if met["label 0"] < 300 || met["label 1"] < 300 || met["label 2"] < 50 || met["label 3"] < 5 {
		t.Error(met)
	}
}

func TestUsesWithNilAndEmptyLists(t *testing.T) {
	zero := impl.Plan{Tables: []impl.Table{{}, {Rules: []impl.Rule{{}, {Kind: impl.RuRef}, {Kind: impl.RuCheck}}}}, Indexes: []impl.Index{{}}, Views: []impl.View{{}}}
	plans := append(somePlans(t, 100), impl.Plan{}, crossPlan(), zero)
	for i := range 300 {
		plans = append(plans, tangler{rand.New(rand.NewSource(int64(i)))}.plan())
	}
	for _, p := range plans {
		for _, q := range queriesOf(p) {
			want := q.byHand(p)
			checkUse(t, filledIn(p, true), q, want)
			checkUse(t, filledIn(p, false), q, want)
		}
	}
	checkUse(t, zero, query{"table", "", ""}, []string{""})
	checkUses(t, zero, []useCase{{"col", "", "", ""}, {"enum", "", "", ""}, {"label", "", "", ""}, {"key", "", "", ""}})
	zero.Tables[0].Rules = []impl.Rule{{}}
	checkUses(t, zero, []useCase{{"key", "", "", "."}})
}

// The spare capacity of a list is no part of it, and nothing is written there.
func TestUseArgumentsAreUnchanged(t *testing.T) {
	plans := append(somePlans(t, 60), crossPlan())
	for i := range 120 {
		plans = append(plans, tangler{rand.New(rand.NewSource(int64(i)))}.plan())
	}
	for _, given := range plans {
		p := roomyPlan(given)
		before := wholePlan(p)
		for _, q := range append(queriesOf(given), query{"table", "spare", ""}, query{"col", "spare", "spare"}, query{"key", "spare", "spare"}, query{"enum", "spare", ""}, query{"label", "spare", "spare"}) {
			checkUse(t, p, q, q.byHand(given))
		}
		if after := wholePlan(p); after != before {
			t.Fatalf("%s became %s", before, after)
		}
	}
}

// overlaps tells whether two strings have a byte of memory in common.
func overlaps(a string, b string) bool {
	if a == "" || b == "" {
		return false
	}
	from, to := uintptr(unsafe.Pointer(unsafe.StringData(a))), uintptr(unsafe.Pointer(unsafe.StringData(b)))
	return from < to+uintptr(len(b)) && to < from+uintptr(len(a))
}

// namesWithin returns all the names in a plan, and the columns that it lists.
func namesWithin(p impl.Plan) []string {
	lists := namesIn(p)
	out := slices.Concat(lists[:]...)
	for _, x := range p.Tables {
		out = slices.Concat(out, colNames(x), ruleNames(x))
		for _, r := range x.Rules {
			out = slices.Concat(out, r.Cols, r.To, []string{r.Table})
		}
	}
	for _, x := range p.Indexes {
		out = append(out, x.Cols...)
	}
	for _, x := range p.Views {
		out = append(out, x.Cols...)
	}
	return out
}

func TestUseResultsShareNoMemory(t *testing.T) {
	unnamed := impl.Plan{Tables: []impl.Table{{Rules: []impl.Rule{reference("own", []string{"c"}, "t", "c"), condition(".", quoted("c"))}, Cols: []impl.Col{column("name", enum("e"))}}, {Name: "t", Rules: []impl.Rule{key(impl.RuUnique, "k", "c")}}}}
	for _, p := range []impl.Plan{fullPlan(), crossPlan(), unnamed} {
		for _, q := range queriesOf(p) {
			q.of, q.by = strings.Clone(q.of), strings.Clone(q.by)
			given := append(namesWithin(p), q.of, q.by)
			first, second := q.ask(p), q.ask(p)
			want := slices.Clone(second)
			for i, s := range first {
				if slices.ContainsFunc(given, func(x string) bool { return overlaps(s, x) }) {
					t.Errorf("%q shares %q with an argument", q, s)
				}
				if slices.ContainsFunc(slices.Concat(first[:i], second), func(x string) bool { return overlaps(s, x) }) {
					t.Errorf("%q shares %q with another name", q, s)
				}
			}
			before := wholePlan(p)
			for i := range first[:cap(first)] {
				first[:cap(first)][i] = "overwritten"
			}
			if !slices.Equal(second, want) || !slices.Equal(q.ask(p), want) || wholePlan(p) != before {
				t.Errorf("writing into %q changed something else", q)
			}
		}
	}
}

// exprPlan has the expressions in a check and in a view of t, and as defaults of a column.
func exprPlan(list ...impl.Expr) impl.Plan {
	return impl.Plan{
		Tables: []impl.Table{{Name: "t", Cols: []impl.Col{{Name: "c", Type: enum("e"), Default: list}}, Rules: []impl.Rule{condition("r", list...)}}},
		Views:  []impl.View{{Name: "v", Table: "t", Where: list}},
	}
}

func TestUsesInLargeExpressions(t *testing.T) {
	wide := op(99)
	for i := range 200000 {
		wide.Kids = append(wide.Kids, col(impl.DecText(i)), quoted(impl.DecText(-i)))
	}
	checkUses(t, exprPlan(wide), []useCase{{"col", "t", "199999", "t.r,v"}, {"col", "t", "200000", ""}, {"label", "e", "-199999", "t.r,v"}, {"label", "e", "199999", ""}})
	for _, leaf := range []impl.Expr{col("a"), quoted("b")} {
		doubled, cols, texts := leaf, "", ""
		if leaf.Kind == impl.EpCol {
			cols = "t.r,v"
		} else {
			texts = "t.r,v"
		}
		for range 80 {
			doubled = op(impl.EpAnd, doubled, doubled)
		}
		for _, e := range []impl.Expr{leaf, doubled, chain(impl.EpNot, 41, leaf), chain(impl.EpNot, 200000, leaf)} {
			want := texts
			if len(e.Kids) == 0 && texts != "" {
				want = "t.c," + texts
			}
			checkUses(t, exprPlan(e), []useCase{{"col", "t", "a", cols}, {"label", "e", "b", want}, {"col", "t", "b", ""}, {"label", "e", "a", ""}})
		}
	}
}

// Every call ends, also where the Kids of an expression contain themselves. Such a plan cannot be written, so that the
// test does not take checkUses.
func TestUsesInExpressionsThatContainThemselves(t *testing.T) {
	ask := func(list []impl.Expr, col string, label string) string {
		p := exprPlan(list...)
		return strings.Join(impl.ColUse(p, "t", col), ",") + ";" + strings.Join(impl.LabelUse(p, "e", label), ",")
	}
	alone := []impl.Expr{{Kind: impl.EpNot}}
	alone[0].Kids = alone
	ring := []impl.Expr{{Kind: impl.EpAnd}, op(impl.EpNot, impl.Expr{Kind: impl.EpNot})}
	ring[1].Kids[0].Kids = ring
	ring[0].Kids = ring[1].Kids
	for i, list := range [][]impl.Expr{alone, ring, ring[:1], ring[1:]} {
		if got := ask(list, "a", "b"); got != ";" {
			t.Errorf("list %d: %s", i, got)
		}
	}
	full := []impl.Expr{{Kind: impl.EpAnd}, col("a"), quoted("b")}
	full[0].Kids = full
	short := []impl.Expr{{Kind: impl.EpAnd}, col("a"), quoted("b")}
	short[0].Kids = short[:2]
	short[1].Kids = short // a longer list that begins where the shorter one does
	for i, list := range [][]impl.Expr{full[:1], short[:1], {op(impl.EpNot, full[0])}, {op(impl.EpNot, short[0])}} {
		if got := ask(list, "a", "b"); got != "t.r,v;t.r,v" {
			t.Errorf("list %d: %s", i, got)
		}
		if got := ask(list, "b", "a"); got != ";" {
			t.Errorf("list %d: %s", i, got)
		}
	}
}

func TestUsesInLargePlans(t *testing.T) {
	names := numbered(60000)
	var p impl.Plan
	for i := range names {
		s := names[len(names)-1-i]
		p.Tables = append(p.Tables, impl.Table{Name: s, Cols: []impl.Col{column("m", enum("e"))}, Rules: []impl.Rule{reference("r", []string{"m"}, "n000000", "k")}})
		p.Indexes = append(p.Indexes, impl.Index{Name: "i" + s, Table: "n000000", Cols: []string{"k"}})
		p.Views = append(p.Views, impl.View{Name: "v" + s, Table: "n000000", Cols: []string{"k"}})
	}
	last := &p.Tables[len(names)-1]
	last.Rules = append(last.Rules, key(impl.RuUnique, "k", "k"))
	each := func(before string, behind string) []string {
		var out []string
		for _, s := range names {
			out = append(out, before+s+behind)
		}
		return out
	}
	for _, x := range []struct {
		query
		want []string
	}{
		{query{"enum", "e", ""}, each("", ".m")},
		{query{"table", "n000000", ""}, slices.Concat(each("i", ""), names[1:], each("v", ""))},
		{query{"col", "n000000", "k"}, slices.Concat(each("i", ""), []string{"n000000.k"}, each("", ".r"), each("v", ""))},
		{query{"key", "n000000", "k"}, each("", ".r")},
	} {
		if got := x.ask(p); !slices.Equal(got, x.want) {
			t.Errorf("%q has %d names, want %d", x.query, len(got), len(x.want))
		}
	}
	many := impl.Plan{Tables: []impl.Table{{Name: "t", Rules: []impl.Rule{key(impl.RuUnique, "k", names...), reference("r", names, "t", names...)}}}}
	for _, s := range names {
		many.Tables[0].Rules = append(many.Tables[0].Rules, key(impl.RuUnique, s, s), reference(s, nil, "t", s))
	}
	checkUses(t, many, []useCase{{"key", "t", "k", "t.r"}, {"key", "t", "n059999", "t.n059999"}, {"col", "t", "n059999", "t.k,t.n059999,t.r"}})
	huge := strings.Repeat("x", 1<<20)
	long := impl.Plan{Tables: []impl.Table{{Name: huge, Rules: []impl.Rule{key(impl.RuUnique, huge, huge), reference("r", nil, huge, huge)}}}}
	checkUse(t, long, query{"key", huge, huge}, []string{huge + ".r"})
}
