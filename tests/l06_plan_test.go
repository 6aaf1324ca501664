package tests

import (
	"fmt"
	"math"
	"math/rand"
	"slices"
	"strings"
	"testing"

	"loop.example/g00751/impl"
)

func key(kind int, name string, cols ...string) impl.Rule {
	return impl.Rule{Name: name, Kind: kind, Cols: cols}
}

func condition(name string, list ...impl.Expr) impl.Rule {
	return impl.Rule{Name: name, Kind: impl.RuCheck, Expr: list}
}

func reference(name string, cols []string, table string, to ...string) impl.Rule {
	return impl.Rule{Name: name, Kind: impl.RuRef, Cols: cols, Table: table, To: to}
}

// fullPlan is valid and has elements in each of its lists; part and item refer to each other, item to itself as well.
func fullPlan() impl.Plan {
	return impl.Plan{
		Enums: []impl.Labels{labels("mood", "happy", "sad"), labels("size", "small", "big", "item")},
		Seqs:  []impl.Seq{{Name: "counter", Start: 5}, {Name: "last"}},
		Tables: []impl.Table{
			{Name: "item", Token: 4, Cols: []impl.Col{
				{Name: "a", NotNull: true},
				{Name: "b", Type: kindOf(impl.TyText), NotNull: true, Default: []impl.Expr{quoted("x")}},
				{Name: "c", Type: char(3)},
				{Name: "d", Type: kindOf(impl.TyBool), Default: []impl.Expr{op(impl.EpTrue)}},
				{Name: "m", Type: enum("mood"), Default: []impl.Expr{quoted("sad")}},
				{Name: "n"},
				{Name: "t", Type: kindOf(impl.TyText)},
			}, Rules: []impl.Rule{
				condition("ck", op(impl.EpOr, op(impl.EpLt, col("a"), col("n")), op(impl.EpEq, col("m"), quoted("happy")))),
				key(impl.RuPrimary, "pk", "a", "b"),
				reference("rf", []string{"n"}, "part", "id"),
				reference("self", []string{"n", "t"}, "item", "a", "b"),
				key(impl.RuUnique, "uq", "c"),
			}},
			{Name: "part", Token: 1, Cols: []impl.Col{{Name: "id"}, {Name: "k", Type: char(3)}}, Rules: []impl.Rule{
				reference("own", []string{"k"}, "item", "c"),
				key(impl.RuUnique, "u", "id"),
			}},
			{Name: "void", Token: 2},
		},
		Indexes: []impl.Index{{Name: "by", Table: "item", Cols: []string{"n", "a"}}, {Name: "one", Table: "part", Cols: []string{"id"}, Unique: true}},
		Views:   []impl.View{{Name: "look", Table: "item", Cols: []string{"a", "d", "m"}, Where: []impl.Expr{col("d")}}, {Name: "peek", Table: "part", Cols: []string{"k"}}},
		Next:    5,
	}
}

func edited(change func(p *impl.Plan)) impl.Plan {
	p := fullPlan()
	change(&p)
	return p
}

func checkPlan(t *testing.T, p impl.Plan, want bool, what ...any) {
	t.Helper()
	if got := impl.PlanOk(p); got != want {
		t.Errorf("PlanOk = %v: %.300s: %.2000s", got, fmt.Sprint(what...), fmt.Sprintf("%+v", p))
	}
}

func TestRuleKinds(t *testing.T) {
	got := []int{impl.RuPrimary, impl.RuUnique, impl.RuCheck, impl.RuRef}
	if !slices.Equal(got, []int{0, 1, 2, 3}) {
		t.Error(got)
	}
}

func TestSmallPlans(t *testing.T) {
	checkPlan(t, impl.Plan{}, false, "the zero Plan has no valid Next")
	checkPlan(t, fullPlan(), true, "with elements in each list")
	for _, next := range []int{math.MinInt, -1000000000, -1, 0, 1, 2, 3, 999999999, 1000000000, 1000000001, 1 << 32, 1<<32 + 1, math.MaxInt} {
		checkPlan(t, impl.Plan{Next: next}, next >= 1 && next <= 1000000000)
	}
}

// faults counts the conditions that a plan breaks, by a word for each.
type faults map[string]int

func (f faults) unless(ok bool, word string) {
	if !ok {
		f[word]++
	}
}

func (f faults) words() []string {
	var out []string
	for word := range f {
		out = append(out, word)
	}
	slices.Sort(out)
	return out
}

// faultWords are all the words of faults.
var faultWords = strings.Fields(`objects object-order object-name taken label-number label-twice label-bytes start next token token-twice
	columns column-order column-name rules rule-order rule-name type enum defaults default kind primaries key-selection key-order key-null
	check-cols check-number check-sort ref-selection ref-table ref-key ref-types unused
	index-table index-selection view-table view-number view-names view-order view-wheres view-sort`)

// ordered tells by two elements at a time, so that it shares nothing with Rising.
func ordered(list []string) bool {
	for i, a := range list {
		for _, b := range list[i+1:] {
			if strings.Compare(a, b) >= 0 {
				return false
			}
		}
	}
	return true
}

func repeated(list []string) bool {
	for i, a := range list {
		if slices.Contains(list[i+1:], a) {
			return true
		}
	}
	return false
}

func nameByHand(s string) bool {
	return len(s) > 0 && len(s) < 41 && !strings.Contains(s, "\x00")
}

func (f faults) list(names []string, most int, many string, order string, bad string) {
	f.unless(len(names) <= most, many)
	f.unless(ordered(names), order)
	for _, s := range names {
		f.unless(nameByHand(s), bad)
	}
}

// namesIn returns the Names of the five lists of a plan.
func namesIn(p impl.Plan) [5][]string {
	var out [5][]string
	for _, x := range p.Enums {
		out[0] = append(out[0], x.Name)
	}
	for _, x := range p.Seqs {
		out[1] = append(out[1], x.Name)
	}
	for _, x := range p.Tables {
		out[2] = append(out[2], x.Name)
	}
	for _, x := range p.Indexes {
		out[3] = append(out[3], x.Name)
	}
	for _, x := range p.Views {
		out[4] = append(out[4], x.Name)
	}
	return out
}

// planFaults restates the chapter.
func planFaults(p impl.Plan) faults {
	f := faults{}
	lists := namesIn(p)
	for i, list := range lists {
		f.list(list, 10, "objects", "object-order", "object-name")
		for j := max(i+1, 2); i > 0 && j < 5; j++ {
			for _, s := range list {
				f.unless(!slices.Contains(lists[j], s), "taken")
			}
		}
	}
	for _, x := range p.Enums {
		f.unless(len(x.List) >= 1 && len(x.List) <= 12, "label-number")
		f.unless(!repeated(x.List), "label-twice")
		for _, s := range x.List {
			f.unless(nameByHand(s), "label-bytes")
		}
	}
	for _, x := range p.Seqs {
		f.unless(x.Start >= 0 && x.Start < 1000000000, "start")
	}
	f.unless(p.Next > 0 && p.Next <= 1000000000, "next")
	for i, x := range p.Tables {
		f.unless(x.Token > 0 && x.Token < p.Next, "token")
		for _, y := range p.Tables[:i] {
			f.unless(x.Token != y.Token, "token-twice")
		}
		f.table(p, x)
	}
	for _, x := range p.Indexes {
		if on, there := tableByHand(p, x.Table); there {
			f.unless(selection(on, x.Cols), "index-selection")
		} else {
			f["index-table"]++
		}
	}
	for _, x := range p.Views {
		if on, there := tableByHand(p, x.Table); there {
			f.view(p, on, x)
		} else {
			f["view-table"]++
		}
	}
	return f
}

func tableByHand(p impl.Plan, name string) (impl.Table, bool) {
	for _, x := range p.Tables {
		if x.Name == name {
			return x, true
		}
	}
	return impl.Table{}, false
}

func colByHand(t impl.Table, name string) (impl.Col, bool) {
	for _, x := range t.Cols {
		if x.Name == name {
			return x, true
		}
	}
	return impl.Col{}, false
}

func hasCols(t impl.Table, names []string) bool {
	for _, s := range names {
		if _, there := colByHand(t, s); !there {
			return false
		}
	}
	return true
}

func selection(t impl.Table, names []string) bool {
	return len(names) > 0 && len(names) < 5 && !repeated(names) && hasCols(t, names)
}

func trueOrNull(p impl.Plan, t impl.Table, e impl.Expr) bool {
	got := shownSort(impl.SortOf(e, t.Cols, p.Enums))
	return got == "bool" || got == "null"
}

func (f faults) table(p impl.Plan, x impl.Table) {
	var cols, rules []string
	for _, y := range x.Cols {
		cols = append(cols, y.Name)
		f.unless(wantType(y.Type) != "", "type")
		f.unless(y.Type.Kind != impl.TyEnum || slices.Contains(namesIn(p)[0], y.Type.Name), "enum")
		f.unless(len(y.Default) < 2, "defaults")
		for _, e := range y.Default {
			f.unless(impl.Gives(e, y.Type, p.Enums), "default")
		}
	}
	f.list(cols, 12, "columns", "column-order", "column-name")
	primaries := 0
	for _, r := range x.Rules {
		rules = append(rules, r.Name)
		switch r.Kind {
		case 0:
			primaries++
			f.key(x, r)
			for _, s := range r.Cols {
				c, there := colByHand(x, s)
				f.unless(!there || c.NotNull, "key-null")
			}
		case 1:
			f.key(x, r)
		case 2:
			f.unless(len(r.Cols) == 0, "check-cols")
			f.unless(len(r.Expr) == 1, "check-number")
			for _, e := range r.Expr {
				f.unless(trueOrNull(p, x, e), "check-sort")
			}
			f.unless(r.Table == "" && len(r.To) == 0, "unused")
		case 3:
			f.reference(p, x, r)
		default:
			f["kind"]++
		}
	}
	f.unless(primaries < 2, "primaries")
	f.list(rules, 8, "rules", "rule-order", "rule-name")
}

func (f faults) key(x impl.Table, r impl.Rule) {
	f.unless(selection(x, r.Cols), "key-selection")
	f.unless(repeated(r.Cols) || ordered(r.Cols), "key-order")
	f.unless(len(r.Expr) == 0 && r.Table == "" && len(r.To) == 0, "unused")
}

// reference says ref-types of lists of different lengths too.
func (f faults) reference(p impl.Plan, x impl.Table, r impl.Rule) {
	f.unless(len(r.Expr) == 0, "unused")
	f.unless(selection(x, r.Cols), "ref-selection")
	target, there := tableByHand(p, r.Table)
	if !there {
		f["ref-table"]++
		return
	}
	keys := 0
	for _, y := range target.Rules {
		if (y.Kind == 0 || y.Kind == 1) && fmt.Sprintf("%q", y.Cols) == fmt.Sprintf("%q", r.To) {
			keys++
		}
	}
	f.unless(keys > 0, "ref-key")
	f.unless(len(r.To) == len(r.Cols), "ref-types")
	for i := range min(len(r.To), len(r.Cols)) {
		from, fromThere := colByHand(x, r.Cols[i])
		to, toThere := colByHand(target, r.To[i])
		f.unless(!fromThere || !toThere || from.Type == to.Type, "ref-types")
	}
}

func (f faults) view(p impl.Plan, on impl.Table, x impl.View) {
	f.unless(len(x.Cols) >= 1 && len(x.Cols) <= 12, "view-number")
	f.unless(hasCols(on, x.Cols), "view-names")
	f.unless(ordered(x.Cols), "view-order")
	f.unless(len(x.Where) < 2, "view-wheres")
	for _, e := range x.Where {
		f.unless(trueOrNull(p, on, e), "view-sort")
	}
}

// brokenPlans breaks one condition each, by as little as can be.
var brokenPlans = []struct {
	word   string
	change func(p *impl.Plan)
}{
	{"object-order", func(p *impl.Plan) { p.Enums[0], p.Enums[1] = p.Enums[1], p.Enums[0] }},
	{"object-order", func(p *impl.Plan) { p.Seqs[1].Name = "counter" }},
	{"object-order", func(p *impl.Plan) { p.Tables[0], p.Tables[1] = p.Tables[1], p.Tables[0] }},
	{"object-order", func(p *impl.Plan) { p.Indexes[1].Name = "bx" }},
	{"object-order", func(p *impl.Plan) { p.Views[1].Name = "loo" }},
	{"object-name", func(p *impl.Plan) { p.Seqs[0].Name = "" }},
	{"object-name", func(p *impl.Plan) { p.Views[1].Name = "peek\x00" }},
	{"taken", func(p *impl.Plan) { p.Seqs[1].Name = "one" }},
	{"taken", func(p *impl.Plan) { p.Tables[2].Name = "peek" }},
	{"label-number", func(p *impl.Plan) { p.Enums[1].List = nil }},
	{"label-twice", func(p *impl.Plan) { p.Enums[0].List = []string{"happy", "sad", "happy"} }},
	{"label-bytes", func(p *impl.Plan) { p.Enums[1].List[2] = "" }},
	{"start", func(p *impl.Plan) { p.Seqs[0].Start = -1 }},
	{"token", func(p *impl.Plan) { p.Tables[2].Token = 5 }},
	{"token", func(p *impl.Plan) { p.Next = 4 }},
	{"token-twice", func(p *impl.Plan) { p.Tables[2].Token = 4 }},
	{"column-order", func(p *impl.Plan) {
		p.Tables[0].Cols[5], p.Tables[0].Cols[6] = p.Tables[0].Cols[6], p.Tables[0].Cols[5]
	}},
	{"column-name", func(p *impl.Plan) { p.Tables[2].Cols = []impl.Col{{}} }},
	{"rule-order", func(p *impl.Plan) { p.Tables[1].Rules[0].Name = "v" }},
	{"rule-name", func(p *impl.Plan) { p.Tables[0].Rules[4].Name = "x" + letters(40) }},
	{"type", func(p *impl.Plan) { p.Tables[0].Cols[3].Type.Len = 1 }},
	{"enum", func(p *impl.Plan) { p.Tables[2].Cols = []impl.Col{column("x", enum("moo"))} }},
	{"defaults", func(p *impl.Plan) { p.Tables[0].Cols[3].Default = []impl.Expr{op(impl.EpTrue), op(impl.EpTrue)} }},
	{"default", func(p *impl.Plan) { p.Enums[0].List[1] = "glad" }},
	{"default", func(p *impl.Plan) { p.Tables[0].Cols[5].Default = []impl.Expr{col("a")} }},
	{"kind", func(p *impl.Plan) { p.Tables[0].Rules[0].Kind = 4 }},
	{"kind", func(p *impl.Plan) { p.Tables[0].Rules[0].Kind = -1 }},
	{"primaries", func(p *impl.Plan) { p.Tables[0].Rules[4].Kind, p.Tables[0].Cols[2].NotNull = impl.RuPrimary, true }},
	{"key-null", func(p *impl.Plan) { p.Tables[0].Cols[1].NotNull = false }},
	{"check-cols", func(p *impl.Plan) { p.Tables[0].Rules[0].Cols = []string{"a"} }},
	{"check-number", func(p *impl.Plan) { p.Tables[0].Rules[0].Expr = nil }},
	{"check-sort", func(p *impl.Plan) { p.Tables[0].Rules[0].Expr[0] = col("m") }},
	{"check-sort", func(p *impl.Plan) { p.Enums[0].List[0] = "glad" }},
	{"ref-selection", func(p *impl.Plan) { p.Tables[0].Rules[2].Cols[0] = "x" }},
	{"ref-table", func(p *impl.Plan) { p.Tables[0].Rules[2].Table = "look" }},
	{"ref-key", func(p *impl.Plan) { p.Tables[1].Rules = p.Tables[1].Rules[:1] }},
	{"ref-key", func(p *impl.Plan) { p.Tables[0].Rules[4].Cols = []string{"c", "d"} }},
	{"ref-types", func(p *impl.Plan) { p.Tables[0].Cols[6].Type = char(100) }},
	{"ref-types", func(p *impl.Plan) { p.Tables[0].Cols[2].Type = char(4) }},
	{"unused", func(p *impl.Plan) { p.Tables[0].Rules[1].Table = "item" }},
	{"unused", func(p *impl.Plan) { p.Tables[0].Rules[2].Expr = []impl.Expr{op(impl.EpTrue)} }},
	{"index-table", func(p *impl.Plan) { p.Indexes[1].Table = "" }},
	{"index-selection", func(p *impl.Plan) { p.Indexes[1].Table = "void" }},
	{"view-table", func(p *impl.Plan) { p.Views[1].Table = "peek" }},
	{"view-number", func(p *impl.Plan) { p.Views[0].Cols = nil }},
	{"view-names", func(p *impl.Plan) { p.Views[1].Cols = []string{"id", "k", "m"} }},
	{"view-order", func(p *impl.Plan) { p.Views[0].Cols = []string{"a", "m", "d"} }},
	{"view-order", func(p *impl.Plan) { p.Views[1].Cols = []string{"k", "k"} }},
	{"view-wheres", func(p *impl.Plan) { p.Views[0].Where = []impl.Expr{col("d"), col("d")} }},
	{"view-sort", func(p *impl.Plan) { p.Views[1].Where = []impl.Expr{col("d")} }},
}

func TestBrokenPlans(t *testing.T) {
	if got := planFaults(fullPlan()).words(); len(got) > 0 {
		t.Fatal(got)
	}
	for i, x := range brokenPlans {
		p := edited(x.change)
		if got := planFaults(p).words(); !slices.Equal(got, []string{x.word}) {
			t.Errorf("plan %d breaks %v, not %s alone", i, got, x.word)
		}
		checkPlan(t, p, false, i, x.word)
	}
}

// namedLists fills each list that is rising by Name; the lists after Tables lie in or refer to the first table.
var namedLists = []struct {
	word string
	most int
	fill func(p *impl.Plan, names []string)
}{
	{"Enums", 10, func(p *impl.Plan, names []string) {
		p.Enums = nil
		for _, s := range names {
			p.Enums = append(p.Enums, labels(s, "x"))
		}
	}},
	{"Seqs", 10, func(p *impl.Plan, names []string) {
		p.Seqs = nil
		for _, s := range names {
			p.Seqs = append(p.Seqs, impl.Seq{Name: s})
		}
	}},
	{"Tables", 10, func(p *impl.Plan, names []string) {
		p.Tables = nil
		for i, s := range names {
			p.Tables = append(p.Tables, impl.Table{Name: s, Token: i + 1, Cols: []impl.Col{{Name: "first"}}})
		}
	}},
	{"Cols", 12, func(p *impl.Plan, names []string) {
		p.Tables[0].Cols = nil
		for _, s := range names {
			p.Tables[0].Cols = append(p.Tables[0].Cols, impl.Col{Name: s})
		}
	}},
	{"Rules", 8, func(p *impl.Plan, names []string) {
		p.Tables[0].Rules = nil
		for _, s := range names {
			p.Tables[0].Rules = append(p.Tables[0].Rules, condition(s, op(impl.EpTrue)))
		}
	}},
	{"Indexes", 10, func(p *impl.Plan, names []string) {
		p.Indexes = nil
		for _, s := range names {
			p.Indexes = append(p.Indexes, impl.Index{Name: s, Table: p.Tables[0].Name, Cols: []string{p.Tables[0].Cols[0].Name}})
		}
	}},
	{"Views", 10, func(p *impl.Plan, names []string) {
		p.Views = nil
		for _, s := range names {
			p.Views = append(p.Views, impl.View{Name: s, Table: p.Tables[0].Name, Cols: []string{p.Tables[0].Cols[0].Name}})
		}
	}},
}

// basePlan has one table, whose Name no other list of the tests has.
func basePlan() impl.Plan {
	return impl.Plan{Tables: []impl.Table{{Name: "the base", Token: 99999, Cols: []impl.Col{{Name: "first"}}}}, Next: 100000}
}

func filled(list int, names ...string) impl.Plan {
	p := basePlan()
	namedLists[list].fill(&p, names)
	return p
}

func numbered(n int) []string {
	var out []string
	for i := range n {
		out = append(out, fmt.Sprintf("n%06d", i))
	}
	return out
}

func TestLengthsOfLists(t *testing.T) {
	for i, x := range namedLists {
		for n := range 15 {
			checkPlan(t, filled(i, numbered(n)...), n <= x.most, n, " ", x.word)
		}
		for _, n := range []int{20, 100, 300, 20000} {
			checkPlan(t, filled(i, numbered(n)...), false, n, " ", x.word)
		}
	}
	full := impl.Plan{Next: 1000}
	for i, x := range namedLists {
		names := numbered(x.most)
		for j := range names {
			names[j] += "_" + impl.DecText(i)
		}
		x.fill(&full, names)
	}
	checkPlan(t, full, true, "every list is full")
}

func TestOrderOfLists(t *testing.T) {
	good := [][]string{{"a", "b", "c"}, {"B", "a"}, {"Z", "_", "a"}, {"a", "a ", "aa"}, {"a", "ab", "b"}, {"1", "10", "2"}, {"\x7f", "\x80", "\xff"}, {" ", "  "}, {"\x01", "\x01\x01"}, {letters(39), letters(40)}, {"table", "view"}}
	for i, x := range namedLists {
		for _, names := range good {
			checkPlan(t, filled(i, names...), true, x.word, " ", names)
			back := slices.Clone(names)
			slices.Reverse(back)
			checkPlan(t, filled(i, back...), false, x.word, " ", back)
			for j, s := range names {
				checkPlan(t, filled(i, slices.Insert(slices.Clone(names), j, s)...), false, x.word, " has twice ", s)
			}
		}
		for _, names := range [][]string{{"a", "a"}, {"a", "b", "a"}, {"b", "a", "b"}, {"a", "c", "b"}, {"b", "a", "c"}, {"c", "a", "b"}, {"b", "c", "a"}, {"a", "b", "c", "d", "e", "g", "f"}} {
			checkPlan(t, filled(i, names...), false, x.word, " ", names)
		}
	}
}

func TestNamesInLists(t *testing.T) {
	for i, x := range namedLists {
		for _, s := range sampleNames() {
			checkPlan(t, filled(i, s), true, x.word, " ", s)
		}
		for _, s := range badNames() {
			checkPlan(t, filled(i, s), false, x.word, " ", s)
		}
		checkPlan(t, filled(i, "a", letters(41)), false, x.word)
		checkPlan(t, filled(i, "", "a"), false, x.word)
		checkPlan(t, filled(i, "a", "b\x00", "c"), false, x.word)
	}
}

// Seqs, Tables, Indexes and Views share their names; enumerations, columns and rules have names of their own.
func TestSameNameInTwoLists(t *testing.T) {
	shared := []string{"Seqs", "Tables", "Indexes", "Views"}
	for i, x := range namedLists {
		for j := i + 1; j < len(namedLists); j++ {
			y := namedLists[j]
			want := !slices.Contains(shared, x.word) || !slices.Contains(shared, y.word)
			for _, s := range []string{"same", "Two words", letters(40), "table"} {
				p := filled(i, s)
				y.fill(&p, []string{s})
				checkPlan(t, p, want, x.word, " and ", y.word, " ", s)
				y.fill(&p, []string{s + "!"})
				checkPlan(t, p, len(s) < 40, x.word, " and ", y.word, " ", s)
			}
			p := filled(i, numbered(5)...)
			y.fill(&p, append([]string{"m"}, numbered(5)[4]))
			checkPlan(t, p, want, x.word, " and ", y.word)
		}
	}
}

func TestLabels(t *testing.T) {
	with := func(list ...string) impl.Plan {
		return impl.Plan{Enums: []impl.Labels{labels("a", "x"), {Name: "e", List: list}}, Next: 1}
	}
	for n := range 15 {
		list := numbered(n)
		checkPlan(t, with(list...), n >= 1 && n <= 12, n, " labels")
		slices.Reverse(list)
		checkPlan(t, with(list...), n >= 1 && n <= 12, n, " labels in another order")
		for i := range list {
			for j := range i {
				twice := slices.Clone(list)
				twice[i] = twice[j]
				checkPlan(t, with(twice...), false, "labels ", i, " and ", j)
			}
		}
	}
	checkPlan(t, with(numbered(20000)...), false)
	for _, s := range sampleNames() {
		checkPlan(t, with(s), true, s)
		checkPlan(t, with("first", s, "last"), true, s)
	}
	for _, s := range badNames() {
		checkPlan(t, with(s), false, s)
		checkPlan(t, with("first", s, "last"), false, s)
	}
	checkPlan(t, with("b", "B", "a", "b "), true, "labels need not be rising")
	checkPlan(t, with("x"), true, "a label of another enumeration")
	checkPlan(t, with("a", "e"), true, "the names of enumerations")
}

func TestStarts(t *testing.T) {
	for _, n := range []int{math.MinInt, -1 << 32, -1, 0, 1, 999999998, 999999999, 1000000000, 1000000001, 1 << 32, math.MaxInt} {
		want := n >= 0 && n <= 999999999
		checkPlan(t, impl.Plan{Seqs: []impl.Seq{{Name: "s", Start: n}}, Next: 1}, want, n)
		checkPlan(t, edited(func(p *impl.Plan) { p.Seqs[1].Start = n }), want, n)
	}
}

func TestTokens(t *testing.T) {
	for _, next := range []int{math.MinInt, -1, 0, 1, 2, 3, 10, 999999999, 1000000000, 1000000001, math.MaxInt} {
		for _, token := range []int{math.MinInt, -1, 0, 1, 2, next - 2, next - 1, next, next + 1, 999999999, 1000000000, math.MaxInt} {
			want := next >= 1 && next <= 1000000000 && token >= 1 && token < next
			checkPlan(t, impl.Plan{Tables: []impl.Table{{Name: "t", Token: token}}, Next: next}, want, token, " of ", next)
		}
	}
	for a := 1; a <= 4; a++ {
		for b := 1; b <= 4; b++ {
			for c := 1; c <= 4; c++ {
				p := impl.Plan{Tables: []impl.Table{{Name: "t", Token: a}, {Name: "u", Token: b}, {Name: "v", Token: c}}, Next: 5}
				checkPlan(t, p, a != b && b != c && a != c, a, b, c)
			}
		}
	}
}

func TestColumnTypes(t *testing.T) {
	for _, x := range someTypes() {
		p := basePlan()
		p.Tables[0].Cols = []impl.Col{column("a", x)}
		right := wantType(x) != ""
		checkPlan(t, p, right && x.Kind != impl.TyEnum, x, " without enumerations")
		p.Enums = []impl.Labels{labels("A", "x"), labels("q", "x"), labels("z", "a", "b", "Mood")}
		checkPlan(t, p, right && x.Kind != impl.TyEnum, x, " with other enumerations")
		if nameByHand(x.Name) {
			p.Enums = []impl.Labels{labels(x.Name, "x")}
			checkPlan(t, p, right, x, " with this enumeration")
		}
	}
	for _, names := range [][]string{{"e"}, {"a", "e"}, {"e", "f"}, {"a", "e", "f"}} {
		p := filled(0, names...)
		p.Tables[0].Cols = []impl.Col{column("a", enum("e")), {Name: "b", Type: enum("e"), NotNull: true}}
		checkPlan(t, p, true, names)
	}
	for i, x := range namedLists[1:] {
		p := filled(1+i, "e")
		p.Tables = append(p.Tables, impl.Table{Name: "zz", Token: 90000, Cols: []impl.Col{column("a", enum("e"))}})
		checkPlan(t, p, false, "e is an enumeration, not one of ", x.word)
		p.Enums = []impl.Labels{labels("e", "x")}
		checkPlan(t, p, true, "e is both, in ", x.word)
	}
}

// defaultTypes stand above the columns of defaultTable.
var defaultTypes = []impl.Type{kindOf(impl.TyInt), kindOf(impl.TyText), kindOf(impl.TyBool), char(3), enum("mood"), enum("size")}

var defaultTable = []struct {
	text  string
	gives string
}{
	{"1", "+-----"}, {"1 + 2 * 3", "+-----"}, {"null + 1", "+-----"}, {"999999999", "+-----"},
	{"'abc'", "-+-+--"}, {"''", "-+-+--"}, {"'abcd'", "-+----"}, {"'sad'", "-+-++-"}, {"'happy'", "-+--+-"}, {"'both'", "-+--++"}, {"'big'", "-+-+-+"}, {"'Sad'", "-+-+--"},
	{"true", "--+---"}, {"false", "--+---"}, {"not null", "--+---"}, {"1 < 2", "--+---"}, {"'a' = 'b'", "--+---"}, {"null is null", "--+---"}, {"1 = 2 or true", "--+---"},
	{"null", "++++++"}, {"a", "------"}, {"a is null", "------"}, {"mood", "------"}, {"1 + true", "------"}, {"1 = 'a'", "------"}, {"not 1", "------"},
}

func TestDefaults(t *testing.T) {
	with := func(x impl.Type, list ...impl.Expr) impl.Plan {
		p := basePlan()
		p.Enums = []impl.Labels{labels("mood", "sad", "both", "happy"), labels("size", "big", "both")}
		p.Tables[0].Cols = []impl.Col{{Name: "a", Type: x, Default: list}, {Name: "b", Type: x, NotNull: true, Default: list}, column("c", x)}
		return p
	}
	for _, x := range defaultTable {
		e := parsed(t, x.text)
		for i, sign := range x.gives {
			checkPlan(t, with(defaultTypes[i], e), sign == '+', x.text, " for ", defaultTypes[i])
			checkPlan(t, with(defaultTypes[i], e, e), false, "two defaults")
			checkPlan(t, with(defaultTypes[i], op(impl.EpNull), e), false, "two defaults")
			checkPlan(t, with(defaultTypes[i], e, op(impl.EpNull), e), false, "three defaults")
		}
	}
	for _, x := range defaultTypes {
		checkPlan(t, with(x), true, "no default")
		checkPlan(t, with(x, []impl.Expr{}...), true, "no default")
		for _, e := range badNodes() {
			checkPlan(t, with(x, e), false, e)
		}
	}
	one := with(kindOf(impl.TyText))
	one.Tables[0].Cols[2].Default = []impl.Expr{lit(1)}
	checkPlan(t, one, false, "the last column counts as well")
}

// keyColumns are the columns of the tests of selections; the first four are NotNull.
func keyColumns() []impl.Col {
	var out []impl.Col
	for i, s := range strings.Fields("a b c d e f") {
		out = append(out, impl.Col{Name: s, NotNull: i < 4})
	}
	return out
}

// selections holds every list of at most three of the columns and some longer ones, with strangers among them.
func selections() [][]string {
	out := smallLists(strings.Fields("a b c e f A"), 3)
	for _, s := range []string{
		"a b c d", "a b c e", "a b d f", "a c d e", "c d e f", "d c b a", "a c b d", "b a c d", "a b d c", "a b c a", "a a b c", "a b c c", "a b b c", "a b c d e", "b c d e f", "a b c d e f",
		"a b c d d", "a b c d a", "a b c z", "a b c base", "z", "x", "aa", "first", "a b c d e f a b c d e f g", "a z", "0 a", "a b a b",
	} {
		out = append(out, strings.Fields(s))
	}
	return append(out, []string{""}, []string{"a", ""}, []string{"", "a"}, []string{"a\x00"}, []string{" a"}, []string{"a b"}, numbered(3000))
}

func hasStranger(list []string) bool {
	return slices.ContainsFunc(list, func(s string) bool { return !slices.Contains(strings.Fields("a b c d e f"), s) })
}

func TestSelections(t *testing.T) {
	met := map[string]int{}
	for _, list := range selections() {
		selected := len(list) >= 1 && len(list) <= 4 && !hasStranger(list) && !repeated(list)
		rising := selected && ordered(list)
		notNull := rising && !slices.Contains(list, "e") && !slices.Contains(list, "f")
		p := basePlan()
		p.Tables[0].Cols = keyColumns()
		p.Tables[0].Rules = []impl.Rule{key(impl.RuUnique, "k", list...)}
		checkPlan(t, p, rising, "unique ", list)
		p.Tables[0].Rules = []impl.Rule{key(impl.RuPrimary, "k", list...)}
		checkPlan(t, p, notNull, "primary ", list)
		p.Tables[0].Rules = nil
		for _, unique := range []bool{false, true} {
			p.Indexes = []impl.Index{{Name: "i", Table: "the base", Cols: list, Unique: unique}}
			checkPlan(t, p, selected, "index ", list)
		}
		met[fmt.Sprint(selected, rising, notNull)]++
	}
	if len(met) != 4 {
		t.Error(met)
	}
}

func TestPrimaryKeys(t *testing.T) {
	for mask := range 8 {
		var names []string
		p := basePlan()
		p.Tables[0].Cols = keyColumns()
		for i, s := range []string{"a", "b", "c"} {
			p.Tables[0].Cols[i].NotNull = mask&(1<<i) == 0
			names = append(names, s)
		}
		for n := 1; n <= 3; n++ {
			p.Tables[0].Rules = []impl.Rule{key(impl.RuPrimary, "k", names[:n]...)}
			checkPlan(t, p, mask&(1<<n-1) == 0, mask, " ", n)
		}
	}
	kinds := []int{impl.RuPrimary, impl.RuUnique}
	for mask := range 8 {
		p := basePlan()
		p.Tables[0].Cols = keyColumns()
		primaries := 0
		for i, cols := range [][]string{{"a"}, {"b"}, {"a"}} {
			kind := kinds[mask>>i&1]
			if kind == impl.RuPrimary {
				primaries++
			}
			p.Tables[0].Rules = append(p.Tables[0].Rules, key(kind, "k"+impl.DecText(i), cols...))
		}
		checkPlan(t, p, primaries <= 1, primaries, " primary keys")
	}
	p := basePlan()
	p.Tables = append(p.Tables, impl.Table{Name: "unlike", Token: 3, Cols: keyColumns(), Rules: []impl.Rule{key(impl.RuPrimary, "k", "a")}})
	p.Tables[0].Cols, p.Tables[0].Rules = keyColumns(), []impl.Rule{key(impl.RuPrimary, "k", "a")}
	checkPlan(t, p, true, "one primary key in each table, of one Name")
}

// conditionCols and conditionEnums are what the conditions below are about.
func conditionCols() []impl.Col {
	return []impl.Col{
		column("b", kindOf(impl.TyBool)), column("c", char(3)), column("m", enum("mood")), {Name: "n", NotNull: true}, column("s", kindOf(impl.TyText)), column("z", enum("size")),
	}
}

func conditionEnums() []impl.Labels {
	return []impl.Labels{labels("mood", "happy", "sad"), labels("size", "big")}
}

var goodConditions = []string{
	"true", "false", "null", "b", "not b", "not null", "b and null", "b is null", "n = 1", "n < n + 1", "s = c", "s < 'x'", "m = 'sad'", "'happy' <> m", "m = m", "z = 'big'", "m is null or z is null", "null = null", "n * null = 3", "b = b", "b = (n > 2)", "(n is null) is null",
}

var badConditions = []string{
	"1", "n", "n + 1", "'true'", "s", "c", "m", "z", "x", "n = s", "m = z", "m = 'big'", "m = 'glad'", "m < 'sad'", "not n", "b and n", "b or s", "b < b", "x is null", "b and x = 1", `"B"`, "s = m", "n and null", "null + null", "s + 1", "mood", "first",
}

// conditionsOf returns what may be a condition and what may not.
func conditionsOf(t *testing.T) (good []impl.Expr, bad []impl.Expr) {
	for _, s := range goodConditions {
		good = append(good, parsed(t, s))
	}
	for _, s := range badConditions {
		bad = append(bad, parsed(t, s))
	}
	return good, append(bad, badNodes()...)
}

func TestChecks(t *testing.T) {
	with := func(list ...impl.Expr) impl.Plan {
		p := basePlan()
		p.Enums = conditionEnums()
		p.Tables[0].Cols = conditionCols()
		p.Tables[0].Rules = []impl.Rule{condition("a", op(impl.EpTrue)), condition("c", list...)}
		return p
	}
	good, bad := conditionsOf(t)
	for i, e := range good {
		checkPlan(t, with(e), true, impl.PutExpr(e))
		checkPlan(t, with(e, e), false, "twice ", impl.PutExpr(e))
		checkPlan(t, with(e, good[(i+1)%len(good)]), false, "two")
		checkPlan(t, with(op(impl.EpNot, e)), true, "not ", impl.PutExpr(e))
	}
	for _, e := range bad {
		checkPlan(t, with(e), false, e)
		checkPlan(t, with(e, op(impl.EpTrue)), false, e)
		checkPlan(t, with(op(impl.EpTrue), e), false, e)
	}
	checkPlan(t, with(), false, "no Expr")
	checkPlan(t, with([]impl.Expr{}...), false, "no Expr")
	two := with(col("b"))
	two.Tables = append(two.Tables, impl.Table{Name: "x", Token: 1, Cols: []impl.Col{column("x", kindOf(impl.TyBool))}})
	two.Tables[0].Rules[1].Expr[0] = col("x")
	checkPlan(t, two, false, "a column of another table")
	two.Tables[1].Rules = []impl.Rule{condition("c", col("x"))}
	two.Tables[0].Rules = nil
	checkPlan(t, two, true, "a column of its own table")
	two.Tables[1].Cols = nil
	checkPlan(t, two, false, "a column of no table")
	two.Tables[1].Rules = []impl.Rule{condition("c", op(impl.EpNull))}
	checkPlan(t, two, true, "a table without columns")
}

func TestViews(t *testing.T) {
	with := func(cols []string, list ...impl.Expr) impl.Plan {
		p := basePlan()
		p.Enums = conditionEnums()
		p.Tables[0].Cols = conditionCols()
		p.Views = []impl.View{{Name: "a", Table: "the base", Cols: []string{"n"}}, {Name: "v", Table: "the base", Cols: cols, Where: list}}
		return p
	}
	some := []string{"n"}
	good, bad := conditionsOf(t)
	for i, e := range good {
		checkPlan(t, with(some, e), true, impl.PutExpr(e))
		checkPlan(t, with(some, e, e), false, "twice ", impl.PutExpr(e))
		checkPlan(t, with(some, e, good[(i+1)%len(good)]), false, "two")
	}
	for _, e := range bad {
		checkPlan(t, with(some, e), false, e)
		checkPlan(t, with(some, op(impl.EpTrue), e), false, e)
	}
	checkPlan(t, with(some), true, "no Where")
	checkPlan(t, with(some, []impl.Expr{}...), true, "no Where")
	checkPlan(t, with(some, col("b")), true, "a condition on a column that is not selected")
	for _, list := range selections() {
		p := with(list)
		p.Tables[0].Cols = keyColumns()
		p.Views = p.Views[1:]
		checkPlan(t, p, len(list) >= 1 && !hasStranger(list) && ordered(list), "view ", list)
	}
	for n := range 15 {
		p := filled(3, append([]string{"first"}, numbered(n)...)[:min(n, 12)]...)
		p.Views = []impl.View{{Name: "v", Table: "the base", Cols: append([]string{"first"}, numbered(n)...)[:n]}}
		checkPlan(t, p, n >= 1 && n <= 12, "a view of ", n, " columns")
	}
}

func TestTablesOfIndexesAndViews(t *testing.T) {
	for _, x := range []struct {
		table string
		cols  string
		want  bool
	}{
		{"item", "a", true}, {"item", "n", true}, {"part", "id", true}, {"part", "k", true}, {"part", "id k", true}, {"part", "a", false}, {"item", "id", false}, {"item", "a id", false}, {"void", "a", false}, {"void", "id", false}, {"void", "", false},
		{"", "a", false}, {"", "", false}, {"items", "a", false}, {"ite", "a", false}, {"Item", "a", false}, {"item ", "a", false}, {"item\x00", "a", false}, {letters(41), "a", false},
		{"counter", "a", false}, {"by", "a", false}, {"look", "a", false}, {"peek", "k", false}, {"mood", "a", false}, {"ck", "a", false}, {"a", "a", false},
	} {
		checkPlan(t, edited(func(p *impl.Plan) {
			p.Indexes[1].Table, p.Indexes[1].Cols = x.table, strings.Fields(x.cols)
		}), x.want, "index ", x)
		checkPlan(t, edited(func(p *impl.Plan) {
			p.Views[1].Table, p.Views[1].Cols = x.table, strings.Fields(x.cols)
		}), x.want, "view ", x)
		checkPlan(t, edited(func(p *impl.Plan) {
			p.Indexes = append(p.Indexes, impl.Index{Name: "zz", Table: x.table, Cols: strings.Fields(x.cols), Unique: true})
			p.Views = append(p.Views, impl.View{Name: "zzz", Table: x.table, Cols: strings.Fields(x.cols)})
		}), x.want, "both ", x)
	}
	checkPlan(t, edited(func(p *impl.Plan) { p.Views[1].Where = []impl.Expr{op(impl.EpEq, col("k"), quoted("x"))} }), true)
	checkPlan(t, edited(func(p *impl.Plan) { p.Views[1].Where = []impl.Expr{op(impl.EpEq, col("a"), lit(1))} }), false, "a column of another table")
	checkPlan(t, edited(func(p *impl.Plan) {
		p.Indexes = append(p.Indexes, impl.Index{Name: "zz", Table: "item", Cols: []string{"n", "a"}})
		p.Views = append(p.Views, impl.View{Name: "zzz", Table: "part", Cols: []string{"k"}})
	}), true, "an index and a view like another")
}

// ruleFields are what the fields of a rule are filled with in turn.
var ruleFields = struct {
	kinds  []int
	cols   []string
	exprs  [][]impl.Expr
	tables []string
	tos    []string
}{
	[]int{math.MinInt, -1, 0, 1, 2, 3, 4, 5, 256, math.MaxInt},
	[]string{"", "a", "a b", "b a", "e", "z"},
	[][]impl.Expr{nil, {}, {{Kind: impl.EpTrue}}, {{Kind: impl.EpNull}}, {lit(1)}, {{Kind: impl.EpTrue}, {Kind: impl.EpTrue}}, {{}}},
	[]string{"", "far", "the base", "none"},
	[]string{"", "a", "b", "a b", "c d", "z"},
}

// ruleByHand tells for the fields above. The keys are c d of the base itself, and a and a b of far.
func ruleByHand(kind int, cols string, exprs []impl.Expr, table string, to string) bool {
	switch kind {
	case 0:
		return (cols == "a" || cols == "a b") && len(exprs) == 0 && table == "" && to == ""
	case 1:
		return (cols == "a" || cols == "a b" || cols == "e") && len(exprs) == 0 && table == "" && to == ""
	case 2:
		return cols == "" && len(exprs) == 1 && (exprs[0].Kind == impl.EpTrue || exprs[0].Kind == impl.EpNull) && table == "" && to == ""
	case 3:
		one := (cols == "a" || cols == "e") && table == "far" && to == "a"
		two := (cols == "a b" || cols == "b a") && (table == "far" && to == "a b" || table == "the base" && to == "c d")
		return (one || two) && len(exprs) == 0
	}
	return false
}

func TestRulesOfEveryShape(t *testing.T) {
	valid := map[int]int{}
	for _, kind := range ruleFields.kinds {
		for _, cols := range ruleFields.cols {
			for _, exprs := range ruleFields.exprs {
				for _, table := range ruleFields.tables {
					for _, to := range ruleFields.tos {
						p := basePlan()
						r := impl.Rule{Name: "r", Kind: kind, Cols: strings.Fields(cols), Expr: exprs, Table: table, To: strings.Fields(to)}
						p.Tables[0].Cols = keyColumns()
						p.Tables[0].Rules = []impl.Rule{r, key(impl.RuUnique, "s", "c", "d")}
						p.Tables = append([]impl.Table{{Name: "far", Token: 1, Cols: keyColumns(), Rules: []impl.Rule{key(impl.RuPrimary, "p", "a", "b"), key(impl.RuUnique, "u", "a")}}}, p.Tables...)
						want := ruleByHand(kind, cols, exprs, table, to)
						checkPlan(t, p, want, fmt.Sprintf("%+v", r))
						if want {
							valid[kind]++
						}
					}
				}
			}
		}
	}
	if valid[0] != 4 || valid[1] != 6 || valid[2] != 2 || valid[3] != 12 {
		t.Error(valid)
	}
}

// refPlan has references from own to other in mind; the columns of own have the types of those of other.
func refPlan(r impl.Rule) impl.Plan {
	return impl.Plan{
		Enums: conditionEnums(),
		Tables: []impl.Table{
			{Name: "empty", Token: 3},
			{Name: "other", Token: 2, Cols: []impl.Col{
				{Name: "p", NotNull: true}, {Name: "q", Type: kindOf(impl.TyText), NotNull: true}, {Name: "r"}, column("s", char(3)), column("t", enum("mood")), column("u", kindOf(impl.TyBool)), column("v", kindOf(impl.TyText)),
			}, Rules: []impl.Rule{
				condition("check", op(impl.EpIsNull, col("v"))), key(impl.RuPrimary, "pk", "p", "q"), reference("ref", []string{"v"}, "own", "b"),
				key(impl.RuUnique, "u1", "r"), key(impl.RuUnique, "u2", "p", "r"), key(impl.RuUnique, "u3", "r", "s"), key(impl.RuUnique, "u4", "p", "q", "r", "s"), key(impl.RuUnique, "u5", "t"),
			}},
			{Name: "own", Token: 1, Cols: []impl.Col{
				{Name: "a", NotNull: true}, column("b", kindOf(impl.TyText)), {Name: "c"}, column("d", char(3)), column("e", char(4)), column("f", enum("mood")), column("g", enum("size")), column("h", kindOf(impl.TyBool)), column("i", kindOf(impl.TyText)),
			}, Rules: []impl.Rule{key(impl.RuUnique, "k1", "a", "b"), key(impl.RuUnique, "k2", "b"), key(impl.RuPrimary, "k3", "a"), r}},
		},
		Indexes: []impl.Index{{Name: "idx", Table: "other", Cols: []string{"s"}, Unique: true}},
		Views:   []impl.View{{Name: "see", Table: "other", Cols: []string{"r"}}},
		Next:    10,
	}
}

var refTable = []struct {
	cols  string
	table string
	to    string
	want  bool
}{
	{"a", "other", "r", true}, {"c", "other", "r", true}, {"a b", "other", "p q", true}, {"c b", "other", "p q", true}, {"c i", "other", "p q", true}, {"f", "other", "t", true},
	{"a c", "other", "p r", true}, {"c a", "other", "p r", true}, {"a d", "other", "r s", true}, {"a b c d", "other", "p q r s", true}, {"c i a d", "other", "p q r s", true},
	{"a", "own", "a", true}, {"c", "own", "a", true}, {"b", "own", "b", true}, {"i", "own", "b", true}, {"a b", "own", "a b", true}, {"c i", "own", "a b", true}, {"a i", "own", "a b", true},
	{"b a", "other", "q p", false}, {"c a", "other", "r p", false}, {"d a", "other", "s r", false}, {"b a", "own", "b a", false}, {"d c b a", "other", "s r q p", false}, // the key has another order
	{"a", "other", "p", false}, {"b", "other", "q", false}, {"d", "other", "s", false}, {"h", "other", "u", false}, {"b", "other", "v", false}, {"c", "own", "c", false}, {"a b c", "other", "p q r", false}, {"b c", "other", "q r", false}, // no key
	{"a a", "other", "r r", false}, {"a c", "other", "r r", false}, {"a b a b", "other", "p q p q", false},
	{"a", "other", "p q", false}, {"a", "other", "r s", false}, {"b", "other", "p q", false}, {"", "other", "r", false}, {"", "other", "", false}, {"", "other", "p q", false}, // more columns in To
	{"a b", "other", "r", false}, {"a c", "other", "r", false}, {"a b c", "other", "p q", false}, {"a", "other", "", false}, {"a b c d e", "other", "p q r s", false}, // fewer
	{"b", "other", "r", false}, {"h", "other", "r", false}, {"f", "other", "r", false}, {"g", "other", "t", false}, {"b", "other", "t", false}, {"b a", "other", "p q", false}, {"a d", "other", "p q", false}, {"a e", "other", "p q", false}, {"a e", "other", "r s", false}, {"a b", "other", "r s", false}, {"a b c e", "other", "p q r s", false}, {"d", "own", "b", false}, {"a f", "own", "a b", false}, // other types
	{"a a", "other", "p r", false}, {"c c", "other", "p r", false}, {"z", "other", "r", false}, {"a z", "other", "p r", false}, {"z c", "other", "p r", false}, {"r", "other", "r", false}, {"p q", "other", "p q", false}, // no selection of own
	{"a", "other", "z", false}, {"a c", "other", "p z", false}, {"a", "other", "a", false}, {"a", "own", "r", false},
	{"a", "", "r", false}, {"a", "none", "r", false}, {"a", "Other", "r", false}, {"a", "other ", "r", false}, {"a", "othe", "r", false}, {"a", "idx", "s", false}, {"a", "see", "r", false}, {"f", "mood", "t", false}, {"a", "empty", "r", false}, {"a", "empty", "", false}, {"", "empty", "", false}, {"", "", "", false}, {"a", "pk", "p", false},
}

func TestReferences(t *testing.T) {
	checkPlan(t, refPlan(condition("r", op(impl.EpTrue))), true)
	for _, x := range refTable {
		r := reference("r", strings.Fields(x.cols), x.table, strings.Fields(x.to)...)
		p := refPlan(r)
		checkPlan(t, p, x.want, fmt.Sprintf("%+v", r))
		if got := len(planFaults(p)) == 0; got != x.want {
			t.Errorf("%+v: %v", r, planFaults(p).words())
		}
		r.Expr = []impl.Expr{}
		checkPlan(t, refPlan(r), x.want, fmt.Sprintf("%+v", r))
		r.Expr = []impl.Expr{op(impl.EpTrue)}
		checkPlan(t, refPlan(r), false, fmt.Sprintf("%+v", r))
	}
}

// A reference needs a key; which kind of key, which of several and where it lies among the rules does not matter.
func TestKeysThatAReferenceNeeds(t *testing.T) {
	with := func(rules ...impl.Rule) impl.Plan {
		cols := []impl.Col{{Name: "a", NotNull: true}, {Name: "b", NotNull: true}, {Name: "c", NotNull: true}}
		return impl.Plan{Next: 3, Tables: []impl.Table{
			{Name: "from", Token: 1, Cols: cols, Rules: []impl.Rule{key(impl.RuPrimary, "mine", "a", "b"), reference("r", []string{"c", "a"}, "to", "a", "b")}},
			{Name: "to", Token: 2, Cols: cols, Rules: rules},
		}}
	}
	ab, ab2 := key(impl.RuUnique, "k", "a", "b"), key(impl.RuUnique, "l", "a", "b")
	primary, primary2 := key(impl.RuPrimary, "k", "a", "b"), key(impl.RuPrimary, "l", "a", "b")
	abc, a, ac := key(impl.RuUnique, "m", "a", "b", "c"), key(impl.RuUnique, "n", "a"), key(impl.RuUnique, "o", "a", "c")
	b, always := key(impl.RuUnique, "p", "b"), condition("q", op(impl.EpTrue))
	other := reference("r", []string{"a", "b"}, "from", "a", "b")
	for i, rules := range [][]impl.Rule{
		{ab}, {ab2}, {primary}, {primary2}, {ab, ab2}, {ab, primary2}, {primary, ab2}, {ab, abc, a, ac, b, always, other}, {ab2, abc, a}, {primary2, abc, a, always, other}, {ab2, other},
	} {
		checkPlan(t, with(rules...), true, "rules ", i)
	}
	for i, rules := range [][]impl.Rule{
		{}, {abc}, {a}, {ac}, {b}, {a, b}, {always}, {other}, {abc, a, ac, b, always, other}, {primary, primary2},
	} {
		checkPlan(t, with(rules...), false, "rules ", i)
	}
	for _, kind := range []int{impl.RuCheck, impl.RuRef, 4, -1} {
		r := ab
		r.Kind = kind
		checkPlan(t, with(r), false, kind)
	}
	back := key(impl.RuUnique, "k", "b", "a")
	p := with(back)
	p.Tables[0].Rules[1].To = []string{"b", "a"}
	checkPlan(t, p, false, "the key itself is out of order")
	missing := key(impl.RuUnique, "k", "a", "z")
	p = with(missing)
	p.Tables[0].Rules[1].To = []string{"a", "z"}
	checkPlan(t, p, false, "the key itself is of a column that is not there")
	twice := key(impl.RuUnique, "k", "a", "a")
	p = with(twice)
	p.Tables[0].Rules[1].To = []string{"a", "a"}
	checkPlan(t, p, false, "the key itself has a column twice")
	p = with(ab)
	p.Tables = p.Tables[:1]
	checkPlan(t, p, false, "the table of the key is gone")
	p = with(ab)
	p.Tables[1].Cols = []impl.Col{{Name: "a"}, column("b", kindOf(impl.TyText)), {Name: "c"}}
	checkPlan(t, p, false, "a column of the key has another type")
	checkPlan(t, with(key(impl.RuUnique, "k", "a", "b")), true, "NotNull does not matter to a reference")
	p.Tables[1].Cols[1].Type = impl.Type{}
	checkPlan(t, p, true, "NotNull does not matter to a reference")
}

// Where a reference leads need not stand before it, and tables may refer to each other in a ring.
func TestRingsOfReferences(t *testing.T) {
	for n := 1; n <= 10; n++ {
		for step := range n {
			p := impl.Plan{Next: 100}
			for i, s := range numbered(n) {
				to := numbered(n)[(i+step)%n]
				p.Tables = append(p.Tables, impl.Table{Name: s, Token: 50 - i, Cols: []impl.Col{{Name: "k"}, {Name: "x"}}, Rules: []impl.Rule{key(impl.RuUnique, "key", "k"), reference("ref", []string{"x"}, to, "k")}})
			}
			checkPlan(t, p, true, n, " ", step)
			for i := range p.Tables {
				rules := p.Tables[i].Rules
				p.Tables[i].Rules = rules[1:]
				checkPlan(t, p, false, n, " ", step, " without key ", i)
				p.Tables[i].Rules = rules[:1]
				checkPlan(t, p, true, n, " ", step, " without reference ", i)
				p.Tables[i].Rules = rules
			}
		}
	}
}

// planMaker makes valid plans of every size.
type planMaker struct {
	*rand.Rand
}

var planNames = slices.Compact(slices.Sorted(slices.Values(append(strings.Fields("a b c d e f g h item part mood size by look u v w x y z Item"), sampleNames()[:40]...))))

// names returns n different names in order.
func (r planMaker) names(n int) []string {
	pool := slices.Clone(planNames)
	r.Shuffle(len(pool), func(i, j int) { pool[i], pool[j] = pool[j], pool[i] })
	out := pool[:n]
	slices.Sort(out)
	return out
}

// some returns n of the names, in any order.
func (r planMaker) some(names []string, n int) []string {
	var out []string
	for _, i := range r.Perm(len(names))[:n] {
		out = append(out, names[i])
	}
	return out
}

func (r planMaker) plan() impl.Plan {
	p := impl.Plan{Next: 20 + r.Intn(5)}
	for _, s := range r.names(r.Intn(4)) {
		p.Enums = append(p.Enums, impl.Labels{Name: s, List: r.some(numbered(12), 1+r.Intn(12))})
	}
	sizes := []int{r.Intn(4), r.Intn(5), r.Intn(5), r.Intn(5)}
	if r.Intn(20) == 0 {
		sizes[r.Intn(4)] = 10
	}
	pool := r.names(sizes[0] + sizes[1] + sizes[2] + sizes[3])
	r.Shuffle(len(pool), func(i, j int) { pool[i], pool[j] = pool[j], pool[i] })
	take := func(n int) []string {
		out := slices.Sorted(slices.Values(pool[:n]))
		pool = pool[n:]
		return out
	}
	for _, s := range take(sizes[0]) {
		p.Seqs = append(p.Seqs, impl.Seq{Name: s, Start: r.Intn(1000000000)})
	}
	tokens := r.Perm(p.Next - 1)
	for i, s := range take(sizes[1]) {
		p.Tables = append(p.Tables, impl.Table{Name: s, Token: 1 + tokens[i], Cols: r.cols(p)})
	}
	for i := range p.Tables {
		r.rules(&p.Tables[i])
	}
	for i := range p.Tables {
		r.references(p, &p.Tables[i])
	}
	for i, x := range p.Tables {
		names := r.names(len(x.Rules))
		for j := range names {
			p.Tables[i].Rules[j].Name = names[j]
		}
	}
	for _, s := range take(sizes[2]) {
		if on, ok := r.table(p); ok {
			p.Indexes = append(p.Indexes, impl.Index{Name: s, Table: on.Name, Cols: r.some(colNames(on), 1+r.Intn(min(4, len(on.Cols)))), Unique: r.Intn(2) == 0})
		}
	}
	for _, s := range take(sizes[3]) {
		if on, ok := r.table(p); ok {
			view := impl.View{Name: s, Table: on.Name, Cols: r.some(colNames(on), 1+r.Intn(len(on.Cols)))}
			slices.Sort(view.Cols)
			if r.Intn(2) == 0 {
				view.Where = []impl.Expr{r.condition(on)}
			}
			p.Views = append(p.Views, view)
		}
	}
	return p
}

// table returns a table with columns, if it finds one.
func (r planMaker) table(p impl.Plan) (impl.Table, bool) {
	for _, i := range r.Perm(len(p.Tables)) {
		if len(p.Tables[i].Cols) > 0 {
			return p.Tables[i], true
		}
	}
	return impl.Table{}, false
}

func colNames(t impl.Table) []string {
	var out []string
	for _, x := range t.Cols {
		out = append(out, x.Name)
	}
	return out
}

func (r planMaker) cols(p impl.Plan) []impl.Col {
	var out []impl.Col
	for _, s := range r.names(r.Intn(13)) {
		x := impl.Col{Name: s, Type: kindOf(r.Intn(3)), NotNull: r.Intn(3) > 0}
		value := []impl.Expr{lit(7), quoted("text"), op(impl.EpFalse)}[x.Type.Kind]
		switch n := r.Intn(6); {
		case n == 0:
			x.Type, value = char(1+r.Intn(3)), quoted("x")
		case n == 1 && len(p.Enums) > 0:
			e := p.Enums[r.Intn(len(p.Enums))]
			x.Type, value = enum(e.Name), quoted(e.List[r.Intn(len(e.List))])
		}
		if r.Intn(3) == 0 {
			x.Default = []impl.Expr{value}
		}
		out = append(out, x)
	}
	return out
}

func (r planMaker) condition(t impl.Table) impl.Expr {
	if len(t.Cols) == 0 || r.Intn(4) == 0 {
		return op([]int{impl.EpTrue, impl.EpFalse, impl.EpNull}[r.Intn(3)])
	}
	x := t.Cols[r.Intn(len(t.Cols))]
	switch e := col(x.Name); {
	case len(x.Default) > 0:
		return op(impl.EpNe, e, x.Default[0])
	case x.Type.Kind == impl.TyInt:
		return op(impl.EpGt, op(impl.EpMul, e, lit(2)), e)
	case x.Type.Kind == impl.TyBool:
		return e
	default:
		return op(impl.EpIsNull, e)
	}
}

func (r planMaker) rules(t *impl.Table) {
	for range r.Intn(4) {
		if r.Intn(3) == 0 || len(t.Cols) == 0 {
			t.Rules = append(t.Rules, condition("", r.condition(*t)))
			continue
		}
		cols := r.some(colNames(*t), 1+r.Intn(min(4, len(t.Cols))))
		slices.Sort(cols)
		t.Rules = append(t.Rules, key(impl.RuUnique, "", cols...))
	}
	for i, rule := range t.Rules {
		nullable := slices.ContainsFunc(rule.Cols, func(s string) bool {
			x, _ := colByHand(*t, s)
			return !x.NotNull
		})
		if rule.Kind == impl.RuUnique && !nullable {
			t.Rules[i].Kind = impl.RuPrimary
			return
		}
	}
}

// references looks for columns of t that have the types of a key.
func (r planMaker) references(p impl.Plan, t *impl.Table) {
	for range 5 {
		target := p.Tables[r.Intn(len(p.Tables))]
		if len(target.Rules) == 0 || len(t.Rules) == 8 {
			continue
		}
		k := target.Rules[r.Intn(len(target.Rules))]
		if k.Kind > impl.RuUnique {
			continue
		}
		var cols []string
		for _, s := range k.Cols {
			to, _ := colByHand(target, s)
			for _, i := range r.Perm(len(t.Cols)) {
				if x := t.Cols[i]; x.Type == to.Type && !slices.Contains(cols, x.Name) {
					cols = append(cols, x.Name)
					break
				}
			}
		}
		if len(cols) == len(k.Cols) {
			t.Rules = append(t.Rules, reference("", cols, target.Name, slices.Clone(k.Cols)...))
		}
	}
}

// somePlans returns valid plans, the same ones every time.
func somePlans(t *testing.T, n int) []impl.Plan {
	t.Helper()
	out := []impl.Plan{fullPlan(), {Next: 1}}
	for i := range n {
		p := planMaker{rand.New(rand.NewSource(int64(i)))}.plan()
		if f := planFaults(p).words(); len(f) > 0 {
			t.Fatalf("plan %d breaks %v: %+v", i, f, p)
		}
		out = append(out, p)
	}
	return out
}

func TestRandomPlansAreValid(t *testing.T) {
	met := map[string]int{}
	for i, p := range somePlans(t, 4000) {
		checkPlan(t, p, true, i)
		for _, x := range p.Tables {
			for _, r := range x.Rules {
				met[fmt.Sprint("rules of kind ", r.Kind, " with columns ", len(r.Cols))]++
			}
		}
		met["views"] += len(p.Views)
		met["indexes"] += len(p.Indexes)
	}
	if len(met) != 2+4+4+1+4 {
		t.Error(met)
	}
}

// planBreaker makes small changes anywhere in a plan, most of which break a condition.
type planBreaker struct {
	*rand.Rand
}

// change picks one thing of the plan; where a list that it needs is empty, it changes nothing.
func (r planBreaker) change(p *impl.Plan) {
	edits := []func(*impl.Plan){r.changeList, r.changeEnum, r.changeSeq, r.changeTokens, r.changeCol, r.changeRule, r.changeRule, r.changeReference, r.changeIndex, r.changeView}
	edits[r.Intn(len(edits))](p)
}

// anyOf returns an index of a list of that length, and whether there is one.
func (r planBreaker) anyOf(length int) (int, bool) {
	return r.Intn(max(length, 1)), length > 0
}

func (r planBreaker) name(p *impl.Plan) string {
	pool := append(strings.Fields("a b c d e f g item part mood size u z"), "", letters(41), "a\x00")
	for _, list := range namesIn(*p) {
		pool = append(pool, list...)
	}
	return pool[r.Intn(len(pool))]
}

func (r planBreaker) expr() impl.Expr {
	return []impl.Expr{lit(1), op(impl.EpTrue), op(impl.EpNull), quoted("x"), quoted("n000003"), col("a"), {}, op(impl.EpNot, lit(1)), op(impl.EpIsNull, col("b"))}[r.Intn(9)]
}

func (r planBreaker) exprs(list []impl.Expr) []impl.Expr {
	switch r.Intn(4) {
	case 0:
		return nil
	case 1:
		return append(slices.Clone(list), r.expr())
	default:
		return []impl.Expr{r.expr()}
	}
}

// strings drops, doubles, swaps or replaces a string of a list.
func (r planBreaker) strings(p *impl.Plan, list []string) []string {
	out := slices.Clone(list)
	i, ok := r.anyOf(len(out))
	switch n := r.Intn(6); {
	case n == 0 || !ok:
		return slices.Insert(out, r.Intn(len(out)+1), r.name(p))
	case n == 1:
		return slices.Delete(out, i, i+1)
	case n == 2:
		return slices.Insert(out, i, out[i])
	case n == 3:
		j := r.Intn(len(out))
		out[i], out[j] = out[j], out[i]
	case n == 4:
		return nil
	default:
		out[i] = r.name(p)
	}
	return out
}

// swapped exchanges two elements that are side by side.
func swapped[T any](r planBreaker, list []T) {
	if i := r.Intn(len(list) + 1); i > 0 && i < len(list) {
		list[i-1], list[i] = list[i], list[i-1]
	}
}

func (r planBreaker) changeList(p *impl.Plan) {
	switch r.Intn(6) {
	case 0:
		swapped(r, p.Enums)
	case 1:
		swapped(r, p.Seqs)
	case 2:
		swapped(r, p.Tables)
	case 3:
		swapped(r, p.Indexes)
	case 4:
		swapped(r, p.Views)
	case 5:
		x := namedLists[r.Intn(2)]
		x.fill(p, numbered(9+r.Intn(3)))
	}
}

func (r planBreaker) changeEnum(p *impl.Plan) {
	i, ok := r.anyOf(len(p.Enums))
	switch n := r.Intn(3); {
	case !ok:
	case n == 0:
		p.Enums[i].Name = r.name(p)
	case n == 1:
		p.Enums = slices.Delete(p.Enums, i, i+1)
	default:
		p.Enums[i].List = r.strings(p, p.Enums[i].List)
	}
}

func (r planBreaker) changeSeq(p *impl.Plan) {
	if i, ok := r.anyOf(len(p.Seqs)); ok && r.Intn(2) == 0 {
		p.Seqs[i].Start = []int{-1, 0, 999999999, 1000000000}[r.Intn(4)]
	} else if ok {
		p.Seqs[i].Name = r.name(p)
	}
}

func (r planBreaker) changeTokens(p *impl.Plan) {
	i, ok := r.anyOf(len(p.Tables))
	switch n := r.Intn(4); {
	case n == 0 || !ok:
		p.Next = []int{-1, 0, 1, 5, 15, 20, 1000000000, 1000000001}[r.Intn(8)]
	case n == 1:
		p.Tables[i].Token = r.Intn(p.Next + 2)
	case n == 2:
		p.Tables[i].Name = r.name(p)
	default:
		p.Tables = slices.Delete(p.Tables, i, i+1)
	}
}

func (r planBreaker) changeCol(p *impl.Plan) {
	i, ok := r.anyOf(len(p.Tables))
	if !ok {
		return
	}
	x := &p.Tables[i]
	j, ok := r.anyOf(len(x.Cols))
	switch n := r.Intn(9); {
	case n == 0 || !ok:
		for _, s := range numbered(13 - len(x.Cols)) {
			x.Cols = append(x.Cols, impl.Col{Name: "zzzz" + s})
		}
	case n == 1:
		x.Cols[j].Name = []string{r.name(p), x.Cols[j].Name + "\x00"}[r.Intn(2)]
	case n == 2:
		x.Cols[j].Type = []impl.Type{{}, kindOf(1), kindOf(2), char(2), enum("mood"), enum("none"), char(0), kindOf(5), enum("")}[r.Intn(9)]
	case n == 3:
		x.Cols[j].NotNull = !x.Cols[j].NotNull
	case n <= 5:
		x.Cols[j].Default = r.exprs(x.Cols[j].Default)
	case n == 6:
		x.Cols = slices.Delete(x.Cols, j, j+1)
	default:
		swapped(r, x.Cols)
	}
}

func (r planBreaker) changeRule(p *impl.Plan) {
	i, ok := r.anyOf(len(p.Tables))
	if !ok {
		return
	}
	x := &p.Tables[i]
	j, ok := r.anyOf(len(x.Rules))
	switch n := r.Intn(12); {
	case n == 0 || !ok:
		for _, s := range numbered(9 - len(x.Rules)) {
			x.Rules = append(x.Rules, condition("zzzz"+s, op(impl.EpTrue)))
		}
	case n == 1:
		x.Rules[j].Name = r.name(p)
	case n <= 3:
		x.Rules[j].Kind = r.Intn(6) - 1
	case n <= 5:
		x.Rules[j].Cols = r.strings(p, x.Rules[j].Cols)
	case n <= 7:
		x.Rules[j].Expr = r.exprs(x.Rules[j].Expr)
	case n == 8:
		x.Rules[j].Table = r.name(p)
	case n == 9:
		x.Rules[j].To = r.strings(p, x.Rules[j].To)
	case n == 10:
		x.Rules = slices.Delete(x.Rules, j, j+1)
	default:
		swapped(r, x.Rules)
	}
}

func (r planBreaker) changeReference(p *impl.Plan) {
	for _, i := range r.Perm(len(p.Tables)) {
		for _, j := range r.Perm(len(p.Tables[i].Rules)) {
			x := &p.Tables[i].Rules[j]
			switch n := r.Intn(4); {
			case x.Kind != impl.RuRef:
				continue
			case n == 0:
				x.Table = r.name(p)
			case n == 1:
				x.To = r.strings(p, x.To)
			case n == 2:
				x.Cols = r.strings(p, x.Cols)
			default:
				swapped(r, x.Cols)
				swapped(r, x.To)
			}
			return
		}
	}
}

func (r planBreaker) changeIndex(p *impl.Plan) {
	i, ok := r.anyOf(len(p.Indexes))
	switch n := r.Intn(3); {
	case !ok:
	case n == 0:
		p.Indexes[i].Name = r.name(p)
	case n == 1:
		p.Indexes[i].Table = r.name(p)
	default:
		p.Indexes[i].Cols = r.strings(p, p.Indexes[i].Cols)
	}
}

func (r planBreaker) changeView(p *impl.Plan) {
	i, ok := r.anyOf(len(p.Views))
	switch n := r.Intn(5); {
	case !ok:
	case n == 0:
		p.Views[i].Name = r.name(p)
	case n == 1:
		p.Views[i].Table = r.name(p)
	case n == 2:
		p.Views[i].Where = r.exprs(p.Views[i].Where)
	default:
		p.Views[i].Cols = r.strings(p, p.Views[i].Cols)
	}
}

// Every condition is met as the only one that a plan breaks, and many plans break none.
func TestRandomChanges(t *testing.T) {
	alone := map[string]int{}
	valid := 0
	for i := range 60000 {
		random := rand.New(rand.NewSource(int64(i)))
		p := planMaker{random}.plan()
		for range 1 + i%3/2 {
			planBreaker{random}.change(&p)
		}
		found := planFaults(p).words()
		if got := impl.PlanOk(p); got != (len(found) == 0) {
			t.Fatalf("PlanOk = %v of plan %d, which breaks %v: %+v", got, i, found, p)
		}
		switch len(found) {
		case 0:
			valid++
		case 1:
			alone[found[0]]++
		}
	}
	if valid < 5000 {
		t.Error(valid)
	}
	for _, word := range faultWords {
		if alone[word] < 5 {
			t.Errorf("%s is alone in %d plans", word, alone[word])
		}
		delete(alone, word)
	}
	if len(alone) > 0 {
		t.Error(alone)
	}
}

// without returns a list without the element at i, in new memory.
func without[T any](list []T, i int) []T {
	return slices.Concat(list[:i], list[i+1:])
}

// otherNames are hardly those of an object of a plan.
func otherNames(s string) []string {
	return []string{s + "_", s + "\x00", " " + s, strings.ToUpper(s) + "!", "", "no such name", letters(41), "\x00"}
}

func TestEveryNameDenotesOneObject(t *testing.T) {
	for _, p := range somePlans(t, 2000) {
		lists := namesIn(p)
		owners := map[string]int{}
		for i, list := range lists {
			for j, s := range list {
				if i > 0 {
					owners[s]++
				}
				want := slices.Contains(slices.Concat(lists[1:]...), s)
				if got := impl.Taken(p, s); got != want || i > 0 && !got {
					t.Errorf("Taken(%q) = %v", s, got)
				}
				at := impl.TableAt(p, s)
				if i == 2 && at != j || i == 1 && at != -1 || i > 2 && at != -1 {
					t.Errorf("TableAt(%q) = %d", s, at)
				}
				if i == 0 && at != slices.Index(lists[2], s) {
					t.Errorf("TableAt(%q) = %d of an enumeration", s, at)
				}
				for _, other := range otherNames(s) {
					want := slices.Contains(slices.Concat(lists[1:]...), other)
					if got := impl.Taken(p, other); got != want {
						t.Errorf("Taken(%q) = %v", other, got)
					}
					if got := impl.TableAt(p, other); got != slices.Index(lists[2], other) {
						t.Errorf("TableAt(%q) = %d", other, got)
					}
				}
			}
		}
		for s, n := range owners {
			if n != 1 {
				t.Errorf("%q denotes %d objects", s, n)
			}
		}
		for _, x := range p.Tables {
			checkParts(t, x)
			if repeated(colNames(x)) || repeated(ruleNames(x)) {
				t.Errorf("a name denotes two parts of %+v", x)
			}
		}
	}
}

// checkParts looks for the columns and rules of a table by their names and by others.
func checkParts(t *testing.T, x impl.Table) {
	t.Helper()
	cols, rules := colNames(x), ruleNames(x)
	for _, s := range slices.Concat(cols, rules, otherNames(x.Name), []string{x.Name}) {
		if got := impl.ColAt(x, s); got != slices.Index(cols, s) {
			t.Errorf("ColAt(%q) = %d in %q", s, got, cols)
		}
		if got := impl.RuleAt(x, s); got != slices.Index(rules, s) {
			t.Errorf("RuleAt(%q) = %d in %q", s, got, rules)
		}
	}
}

func ruleNames(t impl.Table) []string {
	var out []string
	for _, r := range t.Rules {
		out = append(out, r.Name)
	}
	return out
}

// A plan remains valid without its views, one by one and in every choice of some; and so it does without its indexes.
func TestPlansWithoutViewsAndIndexes(t *testing.T) {
	removed := 0
	for _, p := range somePlans(t, 2000) {
		for i := range p.Views {
			q := p
			q.Views = without(p.Views, i)
			checkPlan(t, q, true, "without view ", i)
			if name := p.Views[i].Name; impl.Taken(q, name) {
				t.Errorf("%q is still taken", name)
			}
			removed++
		}
		for i := range p.Indexes {
			q := p
			q.Indexes = without(p.Indexes, i)
			checkPlan(t, q, true, "without index ", i)
		}
		for i := range p.Seqs {
			q := p
			q.Seqs = without(p.Seqs, i)
			checkPlan(t, q, true, "without sequence ", i)
		}
		for mask := range 1 << min(len(p.Views), 5) {
			q := p
			q.Views = nil
			for i, x := range p.Views {
				if mask>>i&1 == 1 {
					q.Views = append(q.Views, x)
				}
			}
			checkPlan(t, q, true, "with views ", mask)
		}
		q := p
		q.Views, q.Indexes, q.Seqs = nil, nil, nil
		checkPlan(t, q, true, "without any")
	}
	if removed < 1000 {
		t.Error(removed)
	}
}

// What else refers to a table or an enumeration keeps it from going.
func TestPlansWithoutWhatIsUsed(t *testing.T) {
	for i, want := range []bool{false, false, true} {
		checkPlan(t, edited(func(p *impl.Plan) { p.Tables = without(p.Tables, i) }), want, "without table ", i)
	}
	for i, want := range []bool{false, true} {
		checkPlan(t, edited(func(p *impl.Plan) { p.Enums = without(p.Enums, i) }), want, "without enumeration ", i)
	}
	for i, want := range []bool{false, false, false, false, false, false, false} {
		checkPlan(t, edited(func(p *impl.Plan) { p.Tables[0].Cols = without(p.Tables[0].Cols, i) }), want, "without column ", i)
	}
	for i, want := range []bool{true, false, true, true, false} {
		checkPlan(t, edited(func(p *impl.Plan) { p.Tables[0].Rules = without(p.Tables[0].Rules, i) }), want, "without rule ", i)
	}
}

type lookCase struct {
	name  string
	table int
	taken bool
}

func checkLook(t *testing.T, p impl.Plan, cases []lookCase) {
	t.Helper()
	for _, x := range cases {
		if got := impl.TableAt(p, x.name); got != x.table {
			t.Errorf("TableAt(%q) = %d, want %d", x.name, got, x.table)
		}
		if got := impl.Taken(p, x.name); got != x.taken {
			t.Errorf("Taken(%q) = %v", x.name, got)
		}
	}
}

func TestTableAtAndTaken(t *testing.T) {
	checkLook(t, fullPlan(), []lookCase{
		{"item", 0, true}, {"part", 1, true}, {"void", 2, true}, {"counter", -1, true}, {"last", -1, true}, {"by", -1, true}, {"one", -1, true}, {"look", -1, true}, {"peek", -1, true},
		{"mood", -1, false}, {"size", -1, false}, {"happy", -1, false}, {"a", -1, false}, {"id", -1, false}, {"pk", -1, false}, {"u", -1, false},
		{"", -1, false}, {"Item", -1, false}, {"ite", -1, false}, {"items", -1, false}, {"item ", -1, false}, {"item\x00", -1, false}, {"item.a", -1, false}, {letters(41), -1, false},
	})
	for _, p := range []impl.Plan{{}, {Next: 1}, {Tables: []impl.Table{}, Seqs: []impl.Seq{}, Indexes: []impl.Index{}, Views: []impl.View{}}, {Enums: []impl.Labels{labels("a"), labels("")}}} {
		checkLook(t, p, []lookCase{{"a", -1, false}, {"", -1, false}})
	}
}

// An invalid plan may have a name twice, in one list and in several, names that are no names, and no order.
func TestTableAtAndTakenOfInvalidPlans(t *testing.T) {
	p := impl.Plan{
		Enums:   []impl.Labels{{Name: "e"}, {Name: "t"}},
		Seqs:    []impl.Seq{{Name: "z", Start: -1}, {Name: "s"}, {Name: "s"}, {Name: "t"}},
		Tables:  []impl.Table{{Name: "z"}, {Name: "t", Token: 1}, {Name: "a"}, {Name: "t", Token: 2}, {Name: ""}, {Name: ""}, {Name: "x\x00"}, {Name: letters(41)}, {Name: "z"}, {Name: "b"}, {Name: "c"}, {Name: "last"}},
		Indexes: []impl.Index{{Name: "i", Table: "none"}, {Name: "a"}, {Name: "\x00"}},
		Views:   []impl.View{{Name: "w"}, {Name: "v"}, {Name: letters(50)}},
	}
	checkPlan(t, p, false)
	checkLook(t, p, []lookCase{
		{"z", 0, true}, {"t", 1, true}, {"a", 2, true}, {"", 4, true}, {"x\x00", 6, true}, {letters(41), 7, true}, {"b", 9, true}, {"c", 10, true}, {"last", 11, true},
		{"s", -1, true}, {"i", -1, true}, {"\x00", -1, true}, {"w", -1, true}, {"v", -1, true}, {letters(50), -1, true}, {"e", -1, false}, {"none", -1, false}, {"x", -1, false}, {letters(40), -1, false},
	})
	long := filled(2, numbered(30000)...)
	checkLook(t, long, []lookCase{{"n000000", 0, true}, {"n029999", 29999, true}, {"n030000", -1, false}})
}

func TestColAtAndRuleAt(t *testing.T) {
	for _, x := range fullPlan().Tables {
		checkParts(t, x)
	}
	bad := impl.Table{
		Name: "t", Token: -1,
		Cols:  []impl.Col{{Name: "b"}, column("a", kindOf(9)), {Name: "b"}, {Name: ""}, {Name: "both"}, {Name: ""}, {Name: "a\x00"}, {Name: letters(41)}, {Name: "a"}, {Name: "c"}, {Name: "d"}, {Name: "e"}, {Name: "f"}, {Name: "g"}},
		Rules: []impl.Rule{{Name: "r", Kind: 7}, {Name: "both"}, {Name: "q"}, {Name: "r"}, {Name: ""}, {Name: "\x00"}, {Name: "both"}, {Name: "1"}, {Name: "2"}, {Name: "3"}},
	}
	for _, x := range []struct {
		name string
		col  int
		rule int
	}{
		{"b", 0, -1}, {"a", 1, -1}, {"", 3, 4}, {"both", 4, 1}, {"a\x00", 6, -1}, {letters(41), 7, -1}, {"c", 9, -1}, {"g", 13, -1},
		{"r", -1, 0}, {"q", -1, 2}, {"\x00", -1, 5}, {"1", -1, 7}, {"3", -1, 9}, {"t", -1, -1}, {"B", -1, -1}, {"x", -1, -1}, {letters(40), -1, -1},
	} {
		if got := impl.ColAt(bad, x.name); got != x.col {
			t.Errorf("ColAt(%q) = %d, want %d", x.name, got, x.col)
		}
		if got := impl.RuleAt(bad, x.name); got != x.rule {
			t.Errorf("RuleAt(%q) = %d, want %d", x.name, got, x.rule)
		}
	}
	for _, x := range []impl.Table{{}, {Name: "a"}, {Cols: []impl.Col{}, Rules: []impl.Rule{}}} {
		for _, s := range []string{"", "a", "x"} {
			if impl.ColAt(x, s) != -1 || impl.RuleAt(x, s) != -1 {
				t.Errorf("%q is found in %+v", s, x)
			}
		}
	}
}

// filledIn returns the plan with empty lists where it has nil lists, or the other way round.
func filledIn(p impl.Plan, empty bool) impl.Plan {
	p.Enums, p.Seqs, p.Tables = emptied(p.Enums, empty), emptied(p.Seqs, empty), emptied(p.Tables, empty)
	p.Indexes, p.Views = emptied(p.Indexes, empty), emptied(p.Views, empty)
	for i, x := range p.Enums {
		p.Enums[i].List = emptied(x.List, empty)
	}
	for i, x := range p.Tables {
		p.Tables[i].Cols, p.Tables[i].Rules = emptied(x.Cols, empty), emptied(x.Rules, empty)
		for j, y := range p.Tables[i].Cols {
			p.Tables[i].Cols[j].Default = emptied(y.Default, empty)
		}
		for j, r := range p.Tables[i].Rules {
			r.Cols, r.Expr, r.To = emptied(r.Cols, empty), emptied(r.Expr, empty), emptied(r.To, empty)
			p.Tables[i].Rules[j] = r
		}
	}
	for i, x := range p.Indexes {
		p.Indexes[i].Cols = emptied(x.Cols, empty)
	}
	for i, x := range p.Views {
		p.Views[i].Cols, p.Views[i].Where = emptied(x.Cols, empty), emptied(x.Where, empty)
	}
	return p
}

func emptied[T any](list []T, empty bool) []T {
	switch {
	case len(list) > 0:
		return slices.Clone(list)
	case empty:
		return []T{}
	}
	return nil
}

func TestNilAndEmptyListsInPlans(t *testing.T) {
	plans := somePlans(t, 500)
	plans = append(plans, impl.Plan{}, impl.Plan{Tables: []impl.Table{{}}, Next: 9})
	for _, x := range brokenPlans {
		plans = append(plans, edited(x.change))
	}
	for _, p := range plans {
		want := impl.PlanOk(p)
		checkPlan(t, filledIn(p, true), want, "with empty lists")
		checkPlan(t, filledIn(p, false), want, "with nil lists")
	}
	checkPlan(t, impl.Plan{Enums: []impl.Labels{}, Seqs: []impl.Seq{}, Tables: []impl.Table{}, Indexes: []impl.Index{}, Views: []impl.View{}, Next: 1}, true)
	checkPlan(t, impl.Plan{Enums: []impl.Labels{}, Seqs: []impl.Seq{}, Tables: []impl.Table{}, Indexes: []impl.Index{}, Views: []impl.View{}}, false)
}

// roomyList copies a list and adds elements in its spare capacity.
func roomyList[T any](list []T, spare ...T) []T {
	out := append(append(make([]T, 0, len(list)+len(spare)), list...), spare...)
	return out[: len(list) : len(list)+len(spare)]
}

func roomyExprs(list []impl.Expr) []impl.Expr {
	out := roomyList(list, col("spare"))
	for i := range out {
		out[i] = withRoom(out[i])
	}
	return out
}

// roomyPlan copies a plan; each of its lists has spare capacity, with what would matter in it.
func roomyPlan(p impl.Plan) impl.Plan {
	p.Enums = roomyList(p.Enums, labels("spare", "spare"))
	p.Seqs = roomyList(p.Seqs, impl.Seq{Name: "spare", Start: -1})
	p.Tables = roomyList(p.Tables, impl.Table{Name: "spare", Cols: []impl.Col{{Name: "spare"}}})
	p.Indexes = roomyList(p.Indexes, impl.Index{Name: "spare index"})
	p.Views = roomyList(p.Views, impl.View{Name: "spare view"})
	for i, x := range p.Enums {
		p.Enums[i].List = roomyList(x.List, "spare", "spare")
	}
	for i, x := range p.Tables {
		p.Tables[i].Cols = roomyList(x.Cols, impl.Col{Name: "spare", NotNull: true})
		p.Tables[i].Rules = roomyList(x.Rules, key(impl.RuPrimary, "spare", "spare"), key(impl.RuPrimary, "spare", "spare"))
		for j, y := range p.Tables[i].Cols {
			p.Tables[i].Cols[j].Default = roomyExprs(y.Default)
		}
		for j, r := range p.Tables[i].Rules {
			r.Cols, r.Expr, r.To = roomyList(r.Cols, "spare"), roomyExprs(r.Expr), roomyList(r.To, "spare")
			p.Tables[i].Rules[j] = r
		}
	}
	for i, x := range p.Indexes {
		p.Indexes[i].Cols = roomyList(x.Cols, "spare")
	}
	for i, x := range p.Views {
		p.Views[i].Cols, p.Views[i].Where = roomyList(x.Cols, "spare"), roomyExprs(x.Where)
	}
	return p
}

// wholePlan writes a plan with all the spare capacity of its lists.
func wholePlan(p impl.Plan) string {
	var out strings.Builder
	texts := func(list []string) { fmt.Fprintf(&out, "%q\n", list[:cap(list)]) }
	exprs := func(list []impl.Expr) {
		for _, e := range list[:cap(list)] {
			out.WriteString(wholeText(e) + "\n")
		}
	}
	for _, x := range p.Seqs[:cap(p.Seqs)] {
		fmt.Fprintf(&out, "%q %d %d\n", x.Name, x.Start, p.Next)
	}
	for _, x := range p.Tables[:cap(p.Tables)] {
		fmt.Fprintf(&out, "%q %d %s\n", x.Name, x.Token, wholeSchema(x.Cols, p.Enums))
		for _, r := range x.Rules[:cap(x.Rules)] {
			fmt.Fprintf(&out, "%q %d %q\n", r.Name, r.Kind, r.Table)
			texts(r.Cols)
			exprs(r.Expr)
			texts(r.To)
		}
	}
	for _, x := range p.Indexes[:cap(p.Indexes)] {
		fmt.Fprintf(&out, "%q %q %v\n", x.Name, x.Table, x.Unique)
		texts(x.Cols)
	}
	for _, x := range p.Views[:cap(p.Views)] {
		fmt.Fprintf(&out, "%q %q\n", x.Name, x.Table)
		texts(x.Cols)
		exprs(x.Where)
	}
	return out.String()
}

// The spare capacity of a list is no part of it, and nothing is written there.
func TestPlanArgumentsAreUnchanged(t *testing.T) {
	plans := somePlans(t, 400)
	for _, x := range brokenPlans {
		plans = append(plans, edited(x.change))
	}
	for i := range 400 {
		random := rand.New(rand.NewSource(int64(i)))
		p := planMaker{random}.plan()
		planBreaker{random}.change(&p)
		plans = append(plans, p)
	}
	for _, given := range plans {
		p := roomyPlan(given)
		before := wholePlan(p)
		checkPlan(t, p, impl.PlanOk(given), "with spare capacity")
		checkPlan(t, p, impl.PlanOk(given), "a second time")
		for _, list := range namesIn(p) {
			for _, s := range append(list, "spare", "spare index", "spare view", "") {
				if got := impl.TableAt(p, s); got != slices.Index(namesIn(given)[2], s) {
					t.Errorf("TableAt(%q) = %d", s, got)
				}
				if got := impl.Taken(p, s); got != impl.Taken(given, s) || got && strings.HasPrefix(s, "spare") {
					t.Errorf("Taken(%q) = %v", s, got)
				}
			}
		}
		for _, x := range p.Tables {
			checkParts(t, x)
			if impl.ColAt(x, "spare") != -1 || impl.RuleAt(x, "spare") != -1 {
				t.Error("found in the spare capacity")
			}
		}
		if after := wholePlan(p); after != before {
			t.Fatalf("%s became %s", before, after)
		}
	}
}

// endlessExprs has an expression that contains itself, one with more nodes than can be counted, and a deep one.
func endlessExprs() []impl.Expr {
	within := []impl.Expr{{Kind: impl.EpNot}}
	within[0].Kids = within
	doubled := op(impl.EpTrue)
	for range 80 {
		doubled = op(impl.EpAnd, doubled, doubled)
	}
	return []impl.Expr{within[0], doubled, chain(impl.EpNot, 1000000, op(impl.EpTrue))}
}

func TestLargeInvalidPlans(t *testing.T) {
	for _, e := range endlessExprs() {
		checkPlan(t, edited(func(p *impl.Plan) { p.Tables[0].Cols[3].Default[0] = e }), false)
		checkPlan(t, edited(func(p *impl.Plan) { p.Tables[0].Rules[0].Expr[0] = e }), false)
		checkPlan(t, edited(func(p *impl.Plan) { p.Views[0].Where[0] = e }), false)
	}
	many := numbered(200000)
	huge := strings.Repeat("a", 1<<20)
	for i, change := range []func(p *impl.Plan){
		func(p *impl.Plan) { namedLists[3].fill(p, many) },
		func(p *impl.Plan) { namedLists[4].fill(p, many) },
		func(p *impl.Plan) { p.Tables[0].Rules[1].Cols = many },
		func(p *impl.Plan) { p.Tables[0].Rules[2].Cols = many },
		func(p *impl.Plan) { p.Tables[0].Rules[2].To = many },
		func(p *impl.Plan) { p.Tables[1].Rules[1].Cols, p.Tables[0].Rules[2].To = many, many },
		func(p *impl.Plan) { p.Enums[0].List = many },
		func(p *impl.Plan) { p.Indexes[0].Cols = many },
		func(p *impl.Plan) { p.Views[0].Cols = many },
		func(p *impl.Plan) { p.Views[0].Where = make([]impl.Expr, 100000) },
		func(p *impl.Plan) { p.Tables[2].Name = huge },
		func(p *impl.Plan) { p.Tables[0].Rules[2].Table = huge },
		func(p *impl.Plan) { p.Tables[0].Cols[4].Type.Name = huge },
		func(p *impl.Plan) { p.Enums[0].List[0] = huge },
		func(p *impl.Plan) { p.Tables[0].Cols[1].Default[0].Text = huge },
	} {
		checkPlan(t, edited(change), false, i)
	}
}
