package tests

import (
	"fmt"
	"math"
	"math/rand"
	"slices"
	"strings"
	"testing"
	"unsafe"

	"loop.example/g00751/impl"
)

func column(name string, x impl.Type) impl.Col {
	return impl.Col{Name: name, Type: x}
}

func labels(name string, list ...string) impl.Labels {
	return impl.Labels{Name: name, List: list}
}

func sortCols() []impl.Col {
	return []impl.Col{
		column("n", kindOf(impl.TyInt)), column("s", kindOf(impl.TyText)), column("c", char(3)), column("b", kindOf(impl.TyBool)),
		column("m", enum("mood")), column("k", enum("mood")), column("z", enum("size")), column("u", enum("bare")), column("f", enum("flat")), column("d", enum("twice")),
	}
}

// sortEnums has no Labels named bare, none in flat, and two Labels named twice, of which the first counts.
func sortEnums() []impl.Labels {
	return []impl.Labels{
		labels("mood", "happy", "sad", "both"), labels("size", "big", "both", "mood", ""), labels("flat"), labels("twice", "one"), labels("twice", "two", "sad"),
	}
}

// parsed reads an expression that the test writes out.
func parsed(t *testing.T, s string) impl.Expr {
	t.Helper()
	list := tokensOf(t, s)
	e, next := impl.ParseExpr(list, 0)
	if next != len(list) {
		t.Fatalf("%q is read up to %d of %d", s, next, len(list))
	}
	return e
}

var (
	intSort  = impl.Sort{Kind: impl.SkInt}
	textSort = impl.Sort{Kind: impl.SkText}
	boolSort = impl.Sort{Kind: impl.SkBool}
	nullSort = impl.Sort{Kind: impl.SkNull}
)

func enumSort(name string) impl.Sort {
	return impl.Sort{Kind: impl.SkEnum, Name: name}
}

func checkSort(t *testing.T, e impl.Expr, cols []impl.Col, enums []impl.Labels, want impl.Sort, code int) {
	t.Helper()
	if got, is := impl.SortOf(e, cols, enums); got != want || is != code {
		t.Errorf("SortOf(%.300s) = %v, %d, want %v, %d", fmt.Sprint(e), got, is, want, code)
	}
}

func TestSortConstants(t *testing.T) {
	got := []int{impl.SkInt, impl.SkText, impl.SkBool, impl.SkEnum, impl.SkNull, impl.SoOk, impl.SoName, impl.SoSort}
	if !slices.Equal(got, []int{0, 1, 2, 3, 4, 0, 1, 2}) {
		t.Error(got)
	}
}

func TestSortOfConstants(t *testing.T) {
	for _, cols := range [][]impl.Col{nil, {}, sortCols()} {
		for _, enums := range [][]impl.Labels{nil, {}, sortEnums()} {
			for _, n := range []int{0, 1, 999999999} {
				checkSort(t, lit(n), cols, enums, intSort, impl.SoOk)
			}
			for _, s := range []string{"", "a", "sad", "big", "n", "mood", "null", letters(100)} {
				checkSort(t, quoted(s), cols, enums, textSort, impl.SoOk)
			}
			checkSort(t, op(impl.EpTrue), cols, enums, boolSort, impl.SoOk)
			checkSort(t, op(impl.EpFalse), cols, enums, boolSort, impl.SoOk)
			checkSort(t, op(impl.EpNull), cols, enums, nullSort, impl.SoOk)
		}
	}
}

// wantColumnSort has a Sort for every valid type.
func wantColumnSort(x impl.Type) impl.Sort {
	if x.Kind == impl.TyEnum {
		return enumSort(x.Name)
	}
	return impl.Sort{Kind: []int{impl.SkInt, impl.SkText, impl.SkBool, impl.SkText}[x.Kind]}
}

func TestSortOfColumnsOfEveryType(t *testing.T) {
	for _, x := range validTypes() {
		for _, s := range []string{"a", "Two words", "null", letters(40)} {
			want := wantColumnSort(x)
			checkSort(t, col(s), []impl.Col{column(s, x)}, nil, want, impl.SoOk)
			checkSort(t, col(s), []impl.Col{{Name: s, Type: x, NotNull: true, Default: []impl.Expr{quoted("x"), col("y")}}}, sortEnums(), want, impl.SoOk)
			if (want.Name != "") != (want.Kind == impl.SkEnum) {
				t.Errorf("the Sort of %v has the Name %q", x, want.Name)
			}
		}
	}
	for _, s := range sampleNames() {
		checkSort(t, col(s), []impl.Col{column("other", kindOf(impl.TyInt)), column(s, kindOf(impl.TyBool))}, nil, boolSort, impl.SoOk)
	}
}

// The chapter looks at the kind of a type alone; a kind that is none of its kinds has no sort.
func TestSortOfColumnsOfInvalidTypes(t *testing.T) {
	for _, x := range someTypes() {
		cols := []impl.Col{column("a", x)}
		if x.Kind < 0 || x.Kind > impl.TyEnum {
			checkSort(t, col("a"), cols, nil, impl.Sort{}, impl.SoSort)
			checkSort(t, op(impl.EpIsNull, col("a")), cols, nil, impl.Sort{}, impl.SoSort)
			checkSort(t, op(impl.EpEq, col("a"), col("a")), cols, nil, impl.Sort{}, impl.SoSort)
			checkSort(t, op(impl.EpEq, op(impl.EpNull), col("a")), cols, nil, impl.Sort{}, impl.SoSort)
			checkSort(t, op(impl.EpAnd, col("a"), col("b")), cols, nil, impl.Sort{}, impl.SoName)
			continue
		}
		checkSort(t, col("a"), cols, nil, wantColumnSort(x), impl.SoOk)
	}
}

func TestFirstColumnWithTheNameCounts(t *testing.T) {
	types := []impl.Type{kindOf(impl.TyInt), kindOf(impl.TyText), kindOf(impl.TyBool), char(7), enum("mood"), enum("size")}
	for _, x := range types {
		for _, y := range types {
			cols := []impl.Col{column("aa", y), column("A", y), column("a", x), column("a", y), column("a ", y), column("", y), column("a", x)}
			checkSort(t, col("a"), cols, sortEnums(), wantColumnSort(x), impl.SoOk)
			checkSort(t, op(impl.EpIsNull, col("a")), cols, sortEnums(), boolSort, impl.SoOk)
			if x.Kind == impl.TyEnum {
				label := map[string]string{"mood": "sad", "size": "big"}[x.Name]
				checkSort(t, op(impl.EpEq, col("a"), quoted(label)), cols, sortEnums(), boolSort, impl.SoOk)
			}
		}
	}
}

func TestMissingColumns(t *testing.T) {
	cols, enums := sortCols(), sortEnums()
	x := col("x")
	missing := []impl.Expr{
		x, op(impl.EpNot, x), op(impl.EpIsNull, x), op(impl.EpEq, x, x), chain(impl.EpNot, 40, x), chain(impl.EpIsNull, 40, x),
		op(impl.EpIsNull, op(impl.EpIsNull, op(impl.EpAdd, lit(1), op(impl.EpMul, col("n"), x)))),
		op(impl.EpAnd, op(impl.EpNot, lit(1)), x), op(impl.EpAnd, x, op(impl.EpNot, lit(1))), op(impl.EpOr, op(impl.EpAdd, col("s"), lit(1)), op(impl.EpIsNull, x)),
		op(impl.EpEq, col("m"), x), op(impl.EpEq, x, quoted("sad")), op(impl.EpLt, col("b"), x), op(impl.EpLt, x, col("b")), op(impl.EpMul, op(impl.EpTrue), op(impl.EpSub, quoted("a"), x)),
		op(impl.EpNot, op(impl.EpAdd, x, quoted("a"))), op(impl.EpEq, op(impl.EpNull), x), op(impl.EpAnd, op(impl.EpFalse), x),
		col("N"), col("n "), col("nn"), col("mood"), col("sad"), col("null"), col(letters(40)),
	}
	for _, e := range missing {
		checkSort(t, e, cols, enums, impl.Sort{}, impl.SoName)
		checkSort(t, e, nil, nil, impl.Sort{}, impl.SoName)
		checkSort(t, e, []impl.Col{}, enums, impl.Sort{}, impl.SoName)
		checkSort(t, e, []impl.Col{{}}, enums, impl.Sort{}, impl.SoName)
	}
	// With the column there, what has no sort besides is told.
	cols = append(cols, column("x", kindOf(impl.TyInt)))
	checkSort(t, x, cols, enums, intSort, impl.SoOk)
	checkSort(t, op(impl.EpAnd, op(impl.EpNot, lit(1)), x), cols, enums, impl.Sort{}, impl.SoSort)
	checkSort(t, op(impl.EpNot, op(impl.EpAdd, x, quoted("a"))), cols, enums, impl.Sort{}, impl.SoSort)
}

// badNodes holds invalid expressions, and some that lack a column or a sort as well.
func badNodes() []impl.Expr {
	return []impl.Expr{
		{}, {Kind: -1}, {Kind: 19}, {Kind: 256}, {Kind: math.MinInt}, {Kind: math.MaxInt}, col(""), col(letters(41)), col("n\x00"), {Kind: impl.EpCol, Text: "n", Num: 1}, op(impl.EpCol, col("n")),
		{Kind: impl.EpCol, Text: "n", Kids: []impl.Expr{col("s")}}, lit(-1), lit(1000000000), {Kind: impl.EpNum, Text: "1"}, op(impl.EpNum, lit(1)), quoted(letters(101)), {Kind: impl.EpText, Num: 1}, op(impl.EpText, lit(1)),
		{Kind: impl.EpNull, Num: 1}, {Kind: impl.EpTrue, Text: "true"}, op(impl.EpFalse, lit(0)), op(impl.EpNot), op(impl.EpNot, col("b"), col("b")), op(impl.EpIsNull), op(impl.EpIsNull, col("n"), col("s")),
		op(impl.EpAnd), op(impl.EpAnd, col("b")), op(impl.EpEq, col("m")), op(impl.EpEq, col("m"), col("m"), col("m")), op(impl.EpAdd, col("n"), col("n"), col("n")),
		{Kind: impl.EpAnd, Text: "and", Kids: []impl.Expr{col("b"), col("b")}}, {Kind: impl.EpNot, Num: 1, Kids: []impl.Expr{col("b")}},
		op(impl.EpAnd, lit(-1), op(impl.EpNot, lit(1))), op(impl.EpNot, lit(1), lit(2)), op(impl.EpAdd, quoted("a"), lit(-1)), op(impl.EpAnd, col("x"), lit(-1)), op(impl.EpMul, col("x"), op(impl.EpTrue), quoted("a")),
		chain(impl.EpNot, 41, col("b")), chain(impl.EpIsNull, 41, col("n")), chain(impl.EpNot, 41, col("x")), chain(impl.EpNot, 41, lit(1)), leftComb(impl.EpAdd, 20), rightComb(impl.EpAnd, 20),
	}
}

func TestSortOfInvalidExpressions(t *testing.T) {
	for _, x := range badNodes() {
		if impl.ExprOk(x) {
			t.Errorf("%v is valid", x)
		}
		for _, e := range []impl.Expr{
			x, op(impl.EpNot, x), op(impl.EpIsNull, x), op(impl.EpEq, op(impl.EpNull), x), op(impl.EpAnd, x, op(impl.EpTrue)), op(impl.EpAdd, lit(1), x), chain(impl.EpIsNull, 39, x),
			op(impl.EpAnd, op(impl.EpNot, lit(1)), x), op(impl.EpAnd, x, op(impl.EpNot, lit(1))), op(impl.EpOr, x, col("x")), op(impl.EpOr, col("x"), x),
		} {
			checkSort(t, e, sortCols(), sortEnums(), impl.Sort{}, impl.SoName)
			checkSort(t, e, append(sortCols(), column("", kindOf(impl.TyInt)), column(letters(41), kindOf(impl.TyInt)), column("n\x00", kindOf(impl.TyInt))), sortEnums(), impl.Sort{}, impl.SoName)
			checkSort(t, e, nil, nil, impl.Sort{}, impl.SoName)
		}
	}
}

// sortClasses has operands for each column of the tables below.
var sortClasses = []struct {
	sign string
	list []string
}{
	{"int", []string{"n", "7", "n + 1", "null + null", "n * n - 2"}}, {"text", []string{"s", "c"}}, {"bool", []string{"b", "true", "false", "n = 1", "s is null", "not null", "null or null", "null < null"}},
	{"null", []string{"null"}}, {"mood", []string{"m", "k"}}, {"size", []string{"z"}}, {"bare", []string{"u"}}, {"flat", []string{"f"}}, {"twice", []string{"d"}},
	{"label of mood", []string{"'happy'"}}, {"label of size", []string{"'big'", "''", "'mood'"}}, {"label of both", []string{"'both'"}}, {"first label of twice", []string{"'one'"}},
	{"second label of twice", []string{"'two'"}}, {"label of mood and second label of twice", []string{"'sad'"}}, {"no label", []string{"'none'", "'Happy'", "'happy '", "'n'", "'flat'"}},
}

// A row for each class as the first operand and a letter for each as the second: y if the operator takes the two.
var (
	equalPairs = []string{
		"y--y------------", "-y-y-----yyyyyyy", "--yy------------", "yyyyyyyyyyyyyyyy", "---yy----y-y--y-", "---y-y----yy----", "---y--y---------", "---y---y--------", "---y----y---y---",
		"-y-yy----yyyyyyy", "-y-y-y---yyyyyyy", "-y-yyy---yyyyyyy", "-y-y----yyyyyyyy", "-y-y-----yyyyyyy", "-y-yy----yyyyyyy", "-y-y-----yyyyyyy",
	}
	orderPairs = []string{
		"y--y------------", "-y-y-----yyyyyyy", "----------------", "yy-y-----yyyyyyy", "----------------", "----------------", "----------------", "----------------", "----------------",
		"-y-y-----yyyyyyy", "-y-y-----yyyyyyy", "-y-y-----yyyyyyy", "-y-y-----yyyyyyy", "-y-y-----yyyyyyy", "-y-y-----yyyyyyy", "-y-y-----yyyyyyy",
	}
	boolOperands = "--yy------------"
	intOperands  = "y--y------------"
)

// takesPair says what the tables say.
func takesPair(kind int, first int, second int) bool {
	switch {
	case kind == impl.EpAnd || kind == impl.EpOr:
		return boolOperands[first] == 'y' && boolOperands[second] == 'y'
	case kind == impl.EpEq || kind == impl.EpNe:
		return equalPairs[first][second] == 'y'
	case kind < impl.EpAdd:
		return orderPairs[first][second] == 'y'
	}
	return intOperands[first] == 'y' && intOperands[second] == 'y'
}

func TestSortOfEveryPair(t *testing.T) {
	cols, enums := sortCols(), sortEnums()
	for i, first := range sortClasses {
		if len(equalPairs[i]) != len(sortClasses) || len(orderPairs[i]) != len(sortClasses) {
			t.Fatal(first.sign)
		}
		for j, second := range sortClasses {
			for _, x := range first.list {
				for _, y := range second.list {
					left, right := parsed(t, x), parsed(t, y)
					for kind := impl.EpAnd; kind <= impl.EpMul; kind++ {
						want, code := boolSort, impl.SoOk
						if kind >= impl.EpAdd {
							want = intSort
						}
						if !takesPair(kind, i, j) {
							want, code = impl.Sort{}, impl.SoSort
						}
						checkSort(t, op(kind, left, right), cols, enums, want, code)
					}
				}
			}
		}
	}
}

func TestSortOfOneOperand(t *testing.T) {
	for i, class := range sortClasses {
		for _, x := range class.list {
			e := parsed(t, x)
			checkSort(t, op(impl.EpIsNull, e), sortCols(), sortEnums(), boolSort, impl.SoOk)
			if boolOperands[i] == 'y' {
				checkSort(t, op(impl.EpNot, e), sortCols(), sortEnums(), boolSort, impl.SoOk)
			} else {
				checkSort(t, op(impl.EpNot, e), sortCols(), sortEnums(), impl.Sort{}, impl.SoSort)
			}
		}
	}
}

// A part that has no sort leaves the whole without one, whatever stands around it.
func TestPartsWithoutASort(t *testing.T) {
	for _, s := range []string{"1 + 'a'", "not 1", "m = z", "m = 'none'", "m < m", "b < true", "n = s", "1 and true", "u = 'sad'", "'sad' = d", "m = s", "m + null", "true * 1", "not m", "null or ''"} {
		x := parsed(t, s)
		for _, e := range []impl.Expr{
			x, op(impl.EpNot, x), op(impl.EpIsNull, x), chain(impl.EpNot, 30, x), chain(impl.EpIsNull, 30, x), op(impl.EpIsNull, op(impl.EpNot, x)),
		} {
			checkSort(t, e, sortCols(), sortEnums(), impl.Sort{}, impl.SoSort)
		}
		for kind := impl.EpAnd; kind <= impl.EpMul; kind++ {
			for _, class := range sortClasses {
				other := parsed(t, class.list[0])
				for _, e := range []impl.Expr{op(kind, x, other), op(kind, other, x), op(kind, x, x), op(impl.EpIsNull, op(kind, other, x))} {
					checkSort(t, e, sortCols(), sortEnums(), impl.Sort{}, impl.SoSort)
				}
			}
		}
	}
}

func TestLabelsInComparisons(t *testing.T) {
	long := strings.Repeat("\xff", 100)
	cases := []struct {
		list  []impl.Labels
		label string
		ok    bool
	}{
		{nil, "a", false}, {[]impl.Labels{}, "a", false}, {[]impl.Labels{{}}, "a", false}, {[]impl.Labels{labels("e")}, "a", false}, {[]impl.Labels{{Name: "e", List: []string{}}}, "", false},
		{[]impl.Labels{labels("e", "a")}, "a", true}, {[]impl.Labels{labels("e", "b", "c", "a")}, "a", true}, {[]impl.Labels{labels("e", "a", "a")}, "a", true}, {[]impl.Labels{labels("e", "b", "c")}, "a", false},
		{[]impl.Labels{labels("e", "A", "aa", " a", "a ", "", "'a'", "\"a\"")}, "a", false}, {[]impl.Labels{labels("e", "a")}, "A", false}, {[]impl.Labels{labels("e", "a")}, "", false}, {[]impl.Labels{labels("e", "")}, "", true},
		{[]impl.Labels{labels("E", "a"), labels("ee", "a"), labels("", "a"), labels("e ", "a")}, "a", false}, {[]impl.Labels{labels("other", "b"), labels("e", "a")}, "a", true}, {[]impl.Labels{labels("other", "a"), labels("e", "b")}, "a", false},
		{[]impl.Labels{labels("e", "a"), labels("e", "b")}, "a", true}, {[]impl.Labels{labels("e", "a"), labels("e", "b")}, "b", false}, {[]impl.Labels{labels("e"), labels("e", "a")}, "a", false}, {[]impl.Labels{labels("o"), labels("e"), labels("e", "a")}, "a", false},
		{[]impl.Labels{labels("e", "e")}, "e", true}, {[]impl.Labels{labels("e", "b")}, "e", false}, {[]impl.Labels{labels("e", "col")}, "col", true}, {[]impl.Labels{labels("e", long)}, long, true}, {[]impl.Labels{labels("e", long)}, long[1:], false},
		{[]impl.Labels{labels("e", "a\x00")}, "a\x00", true}, {[]impl.Labels{labels("e", "a\x00")}, "a", false}, {[]impl.Labels{labels("e", "it's")}, "it's", true}, {[]impl.Labels{labels("e", "it's")}, "it''s", false},
	}
	cols := []impl.Col{column("col", enum("e")), column("a", kindOf(impl.TyText)), column("b", enum("other")), column("c", char(100))}
	for _, c := range cases {
		want, code := impl.Sort{}, impl.SoSort
		if c.ok {
			want, code = boolSort, impl.SoOk
		}
		for _, kind := range []int{impl.EpEq, impl.EpNe} {
			checkSort(t, op(kind, col("col"), quoted(c.label)), cols, c.list, want, code)
			checkSort(t, op(kind, quoted(c.label), col("col")), cols, c.list, want, code)
			checkSort(t, op(impl.EpNot, op(impl.EpOr, op(impl.EpNull), op(kind, col("col"), quoted(c.label)))), cols, c.list, want, code)
			// What does not depend on the labels at all:
			checkSort(t, op(kind, col("col"), col("col")), cols, c.list, boolSort, impl.SoOk)
			checkSort(t, op(kind, col("col"), op(impl.EpNull)), cols, c.list, boolSort, impl.SoOk)
			checkSort(t, op(kind, op(impl.EpNull), col("col")), cols, c.list, boolSort, impl.SoOk)
			checkSort(t, op(kind, quoted(c.label), quoted("any")), cols, c.list, boolSort, impl.SoOk)
			checkSort(t, op(kind, quoted(c.label), col("a")), cols, c.list, boolSort, impl.SoOk)
			for _, other := range []string{"a", "b", "c"} {
				checkSort(t, op(kind, col("col"), col(other)), cols, c.list, impl.Sort{}, impl.SoSort)
				checkSort(t, op(kind, col(other), col("col")), cols, c.list, impl.Sort{}, impl.SoSort)
			}
		}
		for kind := impl.EpAnd; kind <= impl.EpMul; kind++ {
			if kind != impl.EpEq && kind != impl.EpNe {
				checkSort(t, op(kind, col("col"), quoted(c.label)), cols, c.list, impl.Sort{}, impl.SoSort)
				checkSort(t, op(kind, quoted(c.label), col("col")), cols, c.list, impl.Sort{}, impl.SoSort)
				checkSort(t, op(kind, col("col"), op(impl.EpNull)), cols, c.list, impl.Sort{}, impl.SoSort)
			}
		}
		checkSort(t, col("col"), cols, c.list, enumSort("e"), impl.SoOk)
		checkSort(t, op(impl.EpIsNull, col("col")), cols, c.list, boolSort, impl.SoOk)
		checkSort(t, op(impl.EpNot, col("col")), cols, c.list, impl.Sort{}, impl.SoSort)
	}
}

// A column whose Default is a label, or that is named like one, is no EpText.
func TestTextColumnsAreNoLabels(t *testing.T) {
	cols := []impl.Col{column("m", enum("mood")), {Name: "sad", Type: kindOf(impl.TyText), NotNull: true, Default: []impl.Expr{quoted("sad")}}, {Name: "happy", Type: char(5), Default: []impl.Expr{quoted("happy")}}}
	for _, s := range []string{"m = sad", "sad = m", "m <> happy", "happy <> m"} {
		checkSort(t, parsed(t, s), cols, sortEnums(), impl.Sort{}, impl.SoSort)
	}
	for _, s := range []string{"m = 'sad'", "'happy' <> m", "sad = 'none'", "sad = happy", "m = ('sad')", "(m) = 'sad'"} {
		checkSort(t, parsed(t, s), cols, sortEnums(), boolSort, impl.SoOk)
	}
}

// world restates the rules: two operands are compatible where there is a sort of which both may be taken.
type world struct {
	cols  []impl.Col
	enums []impl.Labels
}

func (w world) columnSort(name string) string {
	for _, x := range w.cols {
		if x.Name == name {
			if x.Type.Kind == impl.TyEnum {
				return "enum " + x.Type.Name
			}
			return []string{"int", "text", "bool", "text"}[x.Type.Kind]
		}
	}
	return "missing"
}

func (w world) labelled(sort string, text string) bool {
	for _, x := range w.enums {
		if "enum "+x.Name == sort {
			return slices.Contains(x.List, text)
		}
	}
	return false
}

// mayBe reports whether e, whose own sort is given, may be taken for a value of that sort.
func (w world) mayBe(e impl.Expr, own string, sort string) bool {
	return own == "null" || own == sort || e.Kind == impl.EpText && w.labelled(sort, e.Text)
}

// allMayBe reports whether there is one of the sorts for which all of the list may be taken.
func (w world) allMayBe(list []impl.Expr, own []string, sorts ...string) bool {
	for _, sort := range sorts {
		taken := 0
		for i, e := range list {
			if w.mayBe(e, own[i], sort) {
				taken++
			}
		}
		if taken == len(list) {
			return true
		}
	}
	return false
}

// sort returns the word for a sort, or missing or none.
func (w world) sort(e impl.Expr) string {
	var parts []string
	for _, kid := range e.Kids {
		parts = append(parts, w.sort(kid))
	}
	for _, fault := range []string{"missing", "none"} {
		if slices.Contains(parts, fault) {
			return fault
		}
	}
	result, ok := "bool", true
	switch kind := e.Kind; {
	case kind == impl.EpCol:
		return w.columnSort(e.Text)
	case kind <= impl.EpNull:
		return []string{"int", "text", "bool", "bool", "null"}[kind-1]
	case kind == impl.EpNot || kind == impl.EpAnd || kind == impl.EpOr:
		ok = w.allMayBe(e.Kids, parts, "bool")
	case kind == impl.EpEq || kind == impl.EpNe:
		ok = w.allMayBe(e.Kids, parts, parts...)
	case kind >= impl.EpLt && kind <= impl.EpGe:
		ok = w.allMayBe(e.Kids, parts, "int", "text")
	case kind >= impl.EpAdd:
		result, ok = "int", w.allMayBe(e.Kids, parts, "int")
	}
	if !ok {
		return "none"
	}
	return result
}

// shownSort writes what SortOf returns by the words of world.
func shownSort(x impl.Sort, code int) string {
	switch {
	case code == impl.SoName && x == impl.Sort{}:
		return "missing"
	case code == impl.SoSort && x == impl.Sort{}:
		return "none"
	case code == impl.SoOk && x.Kind == impl.SkEnum:
		return "enum " + x.Name
	case code == impl.SoOk && x.Name == "" && x.Kind >= 0 && x.Kind <= impl.SkNull:
		return []string{"int", "text", "bool", "", "null"}[x.Kind]
	}
	return fmt.Sprint(x, code)
}

// sortLeaves are the operands of which the expressions below are made.
func sortLeaves() []impl.Expr {
	return []impl.Expr{
		col("n"), col("s"), col("c"), col("b"), col("m"), col("z"), col("u"), col("d"), col("x"), lit(3), quoted("sad"), quoted("both"), quoted("one"), quoted("none"), op(impl.EpTrue), op(impl.EpNull),
	}
}

func TestSortOfSmallExpressions(t *testing.T) {
	w := world{sortCols(), sortEnums()}
	last := sortLeaves()
	for round := range 2 {
		next := slices.Clone(last)
		for _, x := range last {
			next = append(next, op(impl.EpNot, x), op(impl.EpIsNull, x))
			for _, y := range sortLeaves() {
				for kind := impl.EpAnd; kind <= impl.EpMul; kind++ {
					next = append(next, op(kind, x, y))
					if round > 0 {
						next = append(next, op(kind, y, x))
					}
				}
			}
		}
		for _, e := range next {
			if got, want := shownSort(impl.SortOf(e, w.cols, w.enums)), w.sort(e); got != want {
				t.Fatalf("the sort of %s is %s, want %s", impl.PutExpr(e), got, want)
			}
		}
		last = next
	}
}

// sortMaker makes expressions that have a sort, but for a few of their parts.
type sortMaker struct {
	*rand.Rand
	faults int
}

func (r sortMaker) pick(list ...impl.Expr) impl.Expr {
	return list[r.Intn(len(list))]
}

func (r sortMaker) leaf(sort string) impl.Expr {
	switch {
	case r.faults > 0 && r.Intn(r.faults) == 0:
		return r.pick(sortLeaves()...)
	case r.Intn(8) == 0:
		return op(impl.EpNull)
	case sort == "int":
		return r.pick(col("n"), lit(r.Intn(1000)))
	case sort == "bool":
		return r.pick(col("b"), op(impl.EpTrue), op(impl.EpFalse))
	case sort == "mood":
		return r.pick(col("m"), col("k"))
	case sort == "size":
		return col("z")
	case sort == "twice":
		return col("d")
	}
	return r.pick(col("s"), col("c"), quoted("sad"), quoted("none"), quoted("both"), quoted("two"))
}

func (r sortMaker) make(sort string, n int) impl.Expr {
	left := 1
	if n > 3 {
		left += r.Intn(n - 2)
	}
	switch {
	case n < 3 && (n < 2 || sort != "bool") || sort != "bool" && sort != "int":
		return r.leaf(sort)
	case sort == "int":
		return op(impl.EpAdd+r.Intn(3), r.make("int", left), r.make("int", n-1-left))
	case n == 2 || r.Intn(6) == 0:
		if r.Intn(2) == 0 {
			return op(impl.EpNot, r.make("bool", n-1))
		}
		return op(impl.EpIsNull, r.make([]string{"int", "text", "bool", "mood", "size"}[r.Intn(5)], n-1))
	case r.Intn(3) == 0:
		return op(impl.EpAnd+r.Intn(2), r.make("bool", left), r.make("bool", n-1-left))
	case r.Intn(3) == 0:
		kind := []string{"int", "text"}[r.Intn(2)]
		return op(impl.EpLt+r.Intn(4), r.make(kind, left), r.make(kind, n-1-left))
	case r.Intn(3) == 0:
		return op(impl.EpEq+r.Intn(2), r.pick(col("m"), col("k"), col("z"), col("d"), col("u")), r.pick(quoted("sad"), quoted("both"), quoted("one"), quoted("two"), col("m")))
	}
	kind := []string{"int", "text", "bool", "mood", "size", "twice"}[r.Intn(6)]
	return op(impl.EpEq+r.Intn(2), r.make(kind, left), r.make(kind, n-1-left))
}

// someExpr returns an expression with or without a sort.
func (r sortMaker) someExpr() impl.Expr {
	return r.make([]string{"int", "bool", "bool", "bool", "text", "mood"}[r.Intn(6)], 1+r.Intn(40))
}

func TestSortOfRandomExpressions(t *testing.T) {
	w := world{sortCols(), sortEnums()}
	seen := map[string]int{}
	for i := range 40000 {
		r := sortMaker{rand.New(rand.NewSource(int64(i))), i % 4 * 8}
		e := r.someExpr()
		want := w.sort(e)
		if got := shownSort(impl.SortOf(e, w.cols, w.enums)); got != want {
			t.Fatalf("the sort of %s is %s, want %s", impl.PutExpr(e), got, want)
		}
		seen[want]++
	}
	for _, word := range []string{"int", "text", "bool", "null", "enum mood", "missing", "none"} {
		if seen[word] < 500 {
			t.Error("too few expressions of each sort:", seen)
		}
	}
}

func columnsOf(e impl.Expr) []string {
	var out []string
	if e.Kind == impl.EpCol {
		out = append(out, e.Text)
	}
	for _, kid := range e.Kids {
		out = append(out, columnsOf(kid)...)
	}
	slices.Sort(out)
	return slices.Compact(out)
}

// otherColumns returns columns of every type that e does not contain, named like its texts among others.
func otherColumns(e impl.Expr) []impl.Col {
	var out []impl.Col
	for i, s := range []string{"", "sad", "both", "mood", "size", "x1", "N", "aa", "zz", "two words", letters(41), "none", "n", "s", "m", "b"} {
		if !slices.Contains(columnsOf(e), s) {
			x := []impl.Type{kindOf(impl.TyInt), kindOf(impl.TyText), kindOf(impl.TyBool), char(9), enum("mood"), enum("unknown"), kindOf(9)}[i%7]
			out = append(out, impl.Col{Name: s, Type: x, NotNull: i%2 == 0, Default: []impl.Expr{quoted("sad")}})
		}
	}
	return out
}

// Promise 5, first half.
func TestSortDoesNotDependOnOtherColumns(t *testing.T) {
	enums := sortEnums()
	for i := range 6000 {
		r := sortMaker{rand.New(rand.NewSource(int64(i))), i % 3 * 40}
		e, cols := r.someExpr(), sortCols()
		want, code := impl.SortOf(e, cols, enums)
		other := otherColumns(e)
		only := slices.DeleteFunc(sortCols(), func(x impl.Col) bool { return !slices.Contains(columnsOf(e), x.Name) })
		checkSort(t, e, only, enums, want, code)
		checkSort(t, e, slices.Concat(other, cols), enums, want, code)
		checkSort(t, e, slices.Concat(cols, other), enums, want, code)
		checkSort(t, e, slices.Concat(other, only, other), enums, want, code)
		for _, x := range other {
			checkSort(t, e, slices.Insert(slices.Clone(cols), r.Intn(len(cols)+1), x), enums, want, code)
		}
		for _, x := range cols {
			if !slices.Contains(columnsOf(e), x.Name) {
				checkSort(t, e, slices.DeleteFunc(slices.Clone(cols), func(y impl.Col) bool { return y.Name == x.Name }), enums, want, code)
			}
		}
		mixed := slices.Clone(cols)
		r.Shuffle(len(mixed), func(i, j int) { mixed[i], mixed[j] = mixed[j], mixed[i] })
		checkSort(t, e, mixed, enums, want, code)
		for at := range mixed {
			mixed[at].NotNull, mixed[at].Default = true, []impl.Expr{col("x"), lit(-1)}
		}
		checkSort(t, e, mixed, enums, want, code)
		// A later column with the Name of an earlier one is not looked at.
		later := slices.Clone(cols)
		for at := range later {
			later[at].Type = cols[(at+3)%len(cols)].Type
		}
		checkSort(t, e, slices.Concat(cols, later), enums, want, code)
		checkSort(t, e, cols, slices.Concat(enums, []impl.Labels{labels("mood", "none"), labels("size", "none"), labels("unknown", "sad")}), want, code)
	}
}

func checkGives(t *testing.T, e impl.Expr, x impl.Type, enums []impl.Labels, want bool) {
	t.Helper()
	if got := impl.Gives(e, x, enums); got != want {
		t.Errorf("Gives(%.300s, %v) = %v", fmt.Sprint(e), x, got)
	}
}

func TestGivesForEveryType(t *testing.T) {
	enums := sortEnums()
	for _, x := range slices.Concat(validTypes(), []impl.Type{enum("mood"), enum("size"), enum("flat"), enum("twice"), enum("bare")}) {
		for _, list := range [][]impl.Labels{nil, {}, enums} {
			checkGives(t, op(impl.EpNull), x, list, true)
			for _, s := range []string{"0", "7", "999999999", "1 + 2", "null + null", "2 * 3 - null"} {
				checkGives(t, parsed(t, s), x, list, x.Kind == impl.TyInt)
			}
			for _, s := range []string{"true", "false", "1 = 1", "not null", "null is null", "null = null", "'a' < 'b'", "null and false", "'sad' = 'none'", "1 is null or true"} {
				checkGives(t, parsed(t, s), x, list, x.Kind == impl.TyBool)
			}
			for _, s := range []string{"n", "s", "c", "b", "m", "x", "n + 1", "n is null", "1 = n", "not b", "m = 'sad'", "null = x", "true or b"} {
				checkGives(t, parsed(t, s), x, list, false)
			}
			for _, s := range []string{"1 + 'a'", "not 1", "1 = 'a'", "1 = true", "'a' + null", "true < null", "(1 + 'a') is null", "null = (not 1)"} {
				checkGives(t, parsed(t, s), x, list, false)
			}
			for _, e := range badNodes() {
				checkGives(t, e, x, list, false)
				checkGives(t, op(impl.EpIsNull, e), x, list, false)
			}
		}
	}
}

func TestGivesForTexts(t *testing.T) {
	for n := range 101 {
		for _, unit := range []string{"a", "'", "\x00", "\xff", " "} {
			e := quoted(strings.Repeat(unit, n))
			checkGives(t, e, kindOf(impl.TyText), nil, true)
			checkGives(t, e, kindOf(impl.TyInt), nil, false)
			checkGives(t, e, kindOf(impl.TyBool), nil, false)
			for size := 1; size <= 100; size++ {
				checkGives(t, e, char(size), nil, n <= size)
			}
		}
	}
	for size := 1; size <= 100; size++ {
		checkGives(t, quoted(letters(size-1)), char(size), nil, true)
		checkGives(t, quoted(letters(size)), char(size), nil, true)
		checkGives(t, quoted(letters(size+1)), char(size), nil, false)
	}
	// Bytes are counted, not runes.
	checkGives(t, quoted("é"), char(1), nil, false)
	checkGives(t, quoted("é"), char(2), nil, true)
	checkGives(t, quoted(letters(101)), kindOf(impl.TyText), nil, false)
	checkGives(t, quoted("12"), kindOf(impl.TyInt), nil, false)
	checkGives(t, quoted("true"), kindOf(impl.TyBool), nil, false)
}

func TestGivesForLabels(t *testing.T) {
	given := map[string][]string{"mood": {"happy", "sad", "both"}, "size": {"big", "both", "mood", ""}, "twice": {"one"}}
	for _, name := range []string{"mood", "size", "flat", "twice", "bare", "Mood", "mood "} {
		for _, s := range []string{"happy", "sad", "both", "big", "mood", "", "one", "two", "none", "Happy", "happy ", " sad", "it's", "flat", "twice", letters(100)} {
			checkGives(t, quoted(s), enum(name), sortEnums(), slices.Contains(given[name], s))
			checkGives(t, quoted(s), enum(name), nil, false)
			checkGives(t, quoted(s), enum(name), []impl.Labels{labels(name), labels(name, s)}, false)
			checkGives(t, quoted(s), enum(name), []impl.Labels{labels("other", "x"), labels(name, "x", s), labels(name)}, true)
			checkGives(t, op(impl.EpEq, quoted(s), quoted(s)), enum(name), []impl.Labels{labels(name, s)}, false)
			checkGives(t, op(impl.EpAdd, quoted(s), op(impl.EpNull)), enum(name), []impl.Labels{labels(name, s)}, false)
		}
		checkGives(t, lit(1), enum(name), []impl.Labels{labels(name, "1")}, false)
		checkGives(t, op(impl.EpTrue), enum(name), []impl.Labels{labels(name, "true")}, false)
		checkGives(t, col("sad"), enum(name), []impl.Labels{labels(name, "sad")}, false)
		checkGives(t, op(impl.EpNull), enum(name), []impl.Labels{labels(name, "null")}, true)
	}
}

// The chapter states no result of its own for invalid types, so that its reasons decide for them as well.
func TestGivesForInvalidTypes(t *testing.T) {
	enums := []impl.Labels{labels("", "ab"), labels("a", "ab"), labels(letters(41), "ab")}
	for _, x := range someTypes() {
		checkGives(t, op(impl.EpNull), x, enums, true)
		checkGives(t, lit(1), x, enums, x.Kind == impl.TyInt)
		checkGives(t, op(impl.EpFalse), x, enums, x.Kind == impl.TyBool)
		known := x.Name == "" || x.Name == "a" || x.Name == letters(41)
		checkGives(t, quoted("ab"), x, enums, x.Kind == impl.TyText || x.Kind == impl.TyChar && x.Len >= 2 || x.Kind == impl.TyEnum && known)
		checkGives(t, quoted(""), x, enums, x.Kind == impl.TyText || x.Kind == impl.TyChar && x.Len >= 0)
		checkGives(t, col("a"), x, enums, false)
		checkGives(t, lit(-1), x, enums, false)
		checkGives(t, impl.Expr{Kind: 99}, x, enums, false)
	}
}

// A column that may store what an expression gives has its sort, or a sort that it is compatible with.
func TestGivenIsComparable(t *testing.T) {
	enums := sortEnums()
	var some []impl.Expr
	for _, class := range sortClasses {
		for _, s := range class.list {
			some = append(some, parsed(t, s))
		}
	}
	some = append(some, quoted(letters(4)), quoted(letters(100)), op(impl.EpNot, lit(1)))
	for _, e := range some {
		for _, x := range sortCols() {
			_, code := impl.SortOf(op(impl.EpEq, col("it"), e), []impl.Col{column("it", x.Type)}, enums)
			fits := x.Type.Kind != impl.TyChar || len(e.Text) <= x.Type.Len
			checkGives(t, e, x.Type, enums, code == impl.SoOk && fits)
		}
	}
}

func TestColumns(t *testing.T) {
	cases := []struct {
		s    string
		want []string
	}{
		{"1", nil}, {"'a'", nil}, {"null", nil}, {"true", nil}, {"false", nil}, {"not null is null", nil}, {"1 + 2 * 3 = 'a'", nil},
		{"a", []string{"a"}}, {"not a", []string{"a"}}, {"a is null", []string{"a"}}, {"a + a", []string{"a"}}, {"a = a and a = a", []string{"a"}}, {"a = 'b'", []string{"a"}}, {"'b' = a", []string{"a"}},
		{"a + b", []string{"a", "b"}}, {"b + a", []string{"a", "b"}}, {"c + a * b - c", []string{"a", "b", "c"}}, {"b = a or c = b and not a < c", []string{"a", "b", "c"}},
		{`aa + a + "A" + "a " + "Z" + ab + b`, []string{"A", "Z", "a", "a ", "aa", "ab", "b"}}, {`"null" = null`, []string{"null"}}, {`"true" and true and "not"`, []string{"not", "true"}},
		{`d and ((c)) and (b or not (not (a is null)))`, []string{"a", "b", "c", "d"}}, {"\"\xff\" + \"\x01\" + \"\xc3\xa9\" + e", []string{"\x01", "e", "\xc3\xa9", "\xff"}},
	}
	for _, c := range cases {
		if got := impl.Columns(parsed(t, c.s)); !slices.Equal(got, c.want) || !impl.Rising(got) {
			t.Errorf("Columns(%s) = %q, want %q", c.s, got, c.want)
		}
	}
	for kind := impl.EpNot; kind <= impl.EpMul; kind++ {
		e, want := op(kind, col("b")), []string{"b"}
		if exprKinds[kind].kids == 2 {
			e, want = op(kind, col("b"), col("a")), []string{"a", "b"}
		}
		if got := impl.Columns(e); !slices.Equal(got, want) {
			t.Errorf("Columns(%v) = %q", e, got)
		}
	}
}

func TestColumnsOfRandomExpressions(t *testing.T) {
	random := rand.New(rand.NewSource(10))
	for i := range 8000 {
		e := anyExpr(random, 1+i%40)
		got := impl.Columns(e)
		if !slices.Equal(got, columnsOf(e)) || !impl.Rising(got) {
			t.Fatalf("Columns(%v) = %q", e, got)
		}
		var cols []impl.Col
		for _, s := range got {
			cols = append(cols, column(s, kindOf(impl.TyInt)))
		}
		if _, code := impl.SortOf(e, cols, nil); code == impl.SoName {
			t.Fatalf("%v contains more columns than %q", e, got)
		}
		for at := range cols {
			checkSort(t, e, slices.Concat(cols[:at], cols[at+1:]), nil, impl.Sort{}, impl.SoName)
		}
	}
}

// No result of its own is stated for an invalid expression: all EpCol in it count.
func TestColumnsOfInvalidExpressions(t *testing.T) {
	cases := []struct {
		e    impl.Expr
		want []string
	}{
		{impl.Expr{}, []string{""}}, {col(letters(41)), []string{letters(41)}}, {col("a\x00"), []string{"a\x00"}}, {impl.Expr{Kind: impl.EpCol, Text: "a", Num: 5}, []string{"a"}},
		{impl.Expr{Kind: -1, Text: "a"}, nil}, {impl.Expr{Kind: 256, Text: "a"}, nil}, {impl.Expr{Kind: 1 << 32, Text: "a"}, nil}, {impl.Expr{Kind: impl.EpNull, Text: "a"}, nil},
		{impl.Expr{Kind: impl.EpCol, Text: "b", Kids: []impl.Expr{col("c"), col("a")}}, []string{"a", "b", "c"}}, {op(99, col("b"), op(-7, col("a"), lit(-1))), []string{"a", "b"}},
		{op(impl.EpNot), nil}, {op(impl.EpNot, col("b"), col("a"), col("b")), []string{"a", "b"}}, {op(impl.EpNum, col("a")), []string{"a"}}, {op(impl.EpAnd, col("z"), impl.Expr{}), []string{"", "z"}},
		{chain(impl.EpNot, 41, col("a")), []string{"a"}}, {leftComb(impl.EpAnd, 100), []string{"a", "b"}},
	}
	for _, c := range cases {
		if got := impl.Columns(c.e); !slices.Equal(got, c.want) {
			t.Errorf("Columns(%.200s) = %q, want %q", fmt.Sprint(c.e), got, c.want)
		}
	}
}

// renamedByHand restates Renamed.
func renamedByHand(e impl.Expr, from string, to string) impl.Expr {
	e = deepCopy(e)
	if e.Kind == impl.EpCol && e.Text == from {
		e.Text = to
	}
	for i := range e.Kids {
		e.Kids[i] = renamedByHand(e.Kids[i], from, to)
	}
	return e
}

func checkRenamed(t *testing.T, e impl.Expr, from string, to string, want impl.Expr) {
	t.Helper()
	if got := impl.Renamed(e, from, to); !sameExpr(got, want) {
		t.Errorf("Renamed(%.200s, %q, %q) = %.200s, want %.200s", fmt.Sprint(e), from, to, fmt.Sprint(got), fmt.Sprint(want))
	}
}

func TestRenamed(t *testing.T) {
	cases := []struct{ s, from, to, want string }{
		{"a", "a", "b", "b"}, {"a", "b", "c", "a"}, {"a", "a", "a", "a"}, {"a", "b", "b", "a"}, {"a", "A", "b", "a"}, {"a", "", "b", "a"}, {`"A"`, "A", "a", "a"}, {"aa", "a", "b", "aa"}, {"a", "aa", "b", "a"},
		{"1", "1", "b", "1"}, {"'a'", "a", "b", "'a'"}, {"true", "true", "b", "true"}, {"null", "null", "b", "null"}, {`"null" = null`, "null", "b", "b = null"}, {"''", "", "b", "''"}, {"0", "", "b", "0"}, {"false", "", "b", "false"},
		{"not a", "a", "b", "not b"}, {"a is null", "a", "b", "b is null"}, {"a + a", "a", "b", "b + b"}, {"a + b", "a", "b", "b + b"}, {"a - b", "b", "a", "a - a"}, {"a = 'a'", "a", "b", "b = 'a'"}, {"'a' <> a", "a", "b", "'a' <> b"},
		{"b + a * b - c", "b", "Z", `"Z" + a * "Z" - c`}, {"not (a is null) and b or a < c + a", "a", "x", "not (x is null) and b or x < c + x"}, {"a", "a", "two words", `"two words"`}, {"a", "a", "select", `"select"`},
	}
	for _, c := range cases {
		checkRenamed(t, parsed(t, c.s), c.from, c.to, parsed(t, c.want))
	}
	for kind := impl.EpNot; kind <= impl.EpMul; kind++ {
		if exprKinds[kind].kids == 1 {
			checkRenamed(t, op(kind, col("a")), "a", "b", op(kind, col("b")))
			continue
		}
		checkRenamed(t, op(kind, col("a"), col("c")), "a", "b", op(kind, col("b"), col("c")))
		checkRenamed(t, op(kind, col("c"), col("a")), "a", "b", op(kind, col("c"), col("b")))
		checkRenamed(t, op(kind, col("a"), quoted("a")), "a", "b", op(kind, col("b"), quoted("a")))
	}
}

// No result of its own is stated for an invalid expression, nor for a name that is none: they are replaced as well.
func TestRenamedOfInvalidExpressions(t *testing.T) {
	checkRenamed(t, impl.Expr{}, "", "a", col("a"))
	checkRenamed(t, impl.Expr{}, "a", "b", impl.Expr{})
	checkRenamed(t, col("a"), "a", "", impl.Expr{})
	checkRenamed(t, op(impl.EpNot, col("a")), "a", letters(5000), op(impl.EpNot, col(letters(5000))))
	checkRenamed(t, col("a\x00"), "a\x00", "\x00", col("\x00"))
	checkRenamed(t, impl.Expr{Kind: impl.EpCol, Text: "a", Num: 5, Kids: []impl.Expr{col("a"), quoted("a")}}, "a", "b", impl.Expr{Kind: impl.EpCol, Text: "b", Num: 5, Kids: []impl.Expr{col("b"), quoted("a")}})
	for _, kind := range []int{math.MinInt, -1, 19, 256, 1 << 32, math.MaxInt} {
		checkRenamed(t, impl.Expr{Kind: kind, Text: "a", Num: -3, Kids: []impl.Expr{col("a")}}, "a", "b", impl.Expr{Kind: kind, Text: "a", Num: -3, Kids: []impl.Expr{col("b")}})
	}
	for kind := impl.EpNum; kind <= impl.EpMul; kind++ {
		checkRenamed(t, impl.Expr{Kind: kind, Text: "a", Num: 8}, "a", "b", impl.Expr{Kind: kind, Text: "a", Num: 8})
	}
	for _, e := range badNodes() {
		for _, from := range []string{"", "a", "b", "n", "x", "n\x00", letters(41)} {
			for _, to := range []string{"", "a", "n", "new"} {
				checkRenamed(t, e, from, to, renamedByHand(e, from, to))
			}
		}
	}
}

// Promise 5, second half: a name that e does not contain is renamed back to what it was.
func checkBackAgain(t *testing.T, e impl.Expr, from string, to string) {
	t.Helper()
	there := impl.Renamed(e, from, to)
	if !sameExpr(there, renamedByHand(e, from, to)) {
		t.Fatalf("Renamed(%v, %q, %q) = %v", e, from, to, there)
	}
	back := impl.Renamed(there, to, from)
	names := impl.Columns(e)
	if from == to || !impl.Has(names, to) {
		if !sameExpr(back, e) {
			t.Fatalf("%v with %q renamed to %q and back is %v", e, from, to, back)
		}
	} else if !sameExpr(back, impl.Renamed(e, to, from)) {
		t.Fatalf("%v with %q renamed to %q and both back is %v", e, from, to, back)
	}
	want := names
	if impl.Has(names, from) {
		want = impl.Put(impl.Without(names, from), to)
	}
	if got := impl.Columns(there); !slices.Equal(got, want) {
		t.Fatalf("Columns(%v) = %q, want %q", there, got, want)
	}
}

func TestRenamedAndBack(t *testing.T) {
	random := rand.New(rand.NewSource(11))
	names := slices.Concat(sampleNames(), badNames())
	for i := range 3000 {
		e := anyExpr(random, 1+i%40)
		if i%7 == 0 {
			e = op(impl.EpNot, e, impl.Expr{Kind: 77, Text: "a"})
		}
		for _, from := range append(impl.Columns(e), "not there", "", "a") {
			for _, to := range []string{"", "new", "not there", from, names[random.Intn(len(names))], names[random.Intn(len(names))]} {
				checkBackAgain(t, e, from, to)
			}
			for _, to := range impl.Columns(e) {
				checkBackAgain(t, e, from, to)
			}
		}
	}
}

// A column that is renamed in the expression and among the columns leaves the sort as it is.
func TestSortOfRenamed(t *testing.T) {
	for i := range 3000 {
		r := sortMaker{rand.New(rand.NewSource(int64(i))), i % 3 * 40}
		e := r.someExpr()
		want, code := impl.SortOf(e, sortCols(), sortEnums())
		for at, x := range sortCols() {
			cols := sortCols()
			cols[at].Name = "New name"
			checkSort(t, impl.Renamed(e, x.Name, "New name"), cols, sortEnums(), want, code)
			if impl.Has(impl.Columns(e), x.Name) {
				checkSort(t, impl.Renamed(e, x.Name, ""), cols, sortEnums(), impl.Sort{}, impl.SoName)
				checkSort(t, impl.Renamed(e, x.Name, "gone"), sortCols(), sortEnums(), impl.Sort{}, impl.SoName)
			}
		}
	}
}

// depthOf follows the first operands.
func depthOf(e impl.Expr) (int, impl.Expr) {
	n := 1
	for ; len(e.Kids) > 0; n++ {
		e = e.Kids[0]
	}
	return n, e
}

func TestSortsOfLargeInvalidExpressions(t *testing.T) {
	long := chain(impl.EpNot, 1000000, col("a"))
	cols := []impl.Col{column("a", kindOf(impl.TyBool))}
	checkSort(t, long, cols, nil, impl.Sort{}, impl.SoName)
	checkGives(t, long, kindOf(impl.TyBool), nil, false)
	if got := impl.Columns(long); !slices.Equal(got, []string{"a"}) {
		t.Errorf("%q", got)
	}
	if n, leaf := depthOf(impl.Renamed(long, "a", "b")); n != 1000000 || leaf.Text != "b" {
		t.Errorf("%d, %v", n, leaf)
	}
	wide := op(99)
	for i := range 200000 {
		wide.Kids = append(wide.Kids, col(impl.DecText(999999-i)))
	}
	if got := impl.Columns(wide); len(got) != 200000 || !impl.Rising(got) || got[0] != "800000" {
		t.Errorf("%d columns", len(got))
	}
	if got := impl.Renamed(wide, "900000", "x"); len(got.Kids) != 200000 || got.Kids[99999].Text != "x" || got.Kids[99998].Text != "900001" {
		t.Errorf("%d operands", len(got.Kids))
	}
	doubled := col("a")
	for range 80 {
		doubled = op(impl.EpAnd, doubled, doubled)
	}
	within := []impl.Expr{{Kind: impl.EpNot}}
	within[0].Kids = within
	for _, e := range []impl.Expr{doubled, within[0]} {
		checkSort(t, e, cols, nil, impl.Sort{}, impl.SoName)
		checkGives(t, e, kindOf(impl.TyBool), nil, false)
	}
}

// wholeSchema writes the columns and labels with all their spare capacity.
func wholeSchema(cols []impl.Col, enums []impl.Labels) string {
	var out strings.Builder
	for _, x := range cols[:cap(cols)] {
		fmt.Fprintf(&out, "%q %v %v", x.Name, x.Type, x.NotNull)
		for _, e := range x.Default[:cap(x.Default)] {
			out.WriteString(wholeText(e))
		}
	}
	for _, x := range enums[:cap(enums)] {
		fmt.Fprintf(&out, "%q %q", x.Name, x.List[:cap(x.List)])
	}
	return out.String()
}

// roomySchema has one column, label list and label more in its spare capacity than in its lists.
func roomySchema() ([]impl.Col, []impl.Labels) {
	cols := append(sortCols(), column("spare", kindOf(impl.TyBool)))
	for i := range cols {
		cols[i].Default = []impl.Expr{withRoom(op(impl.EpNot, col("a"))), quoted("spare")}[:1]
	}
	enums := append(sortEnums(), labels("bare", "sad", "spare"))
	for i := range enums {
		list := append(slices.Clip(enums[i].List), "spare")
		enums[i].List = list[:len(list)-1]
	}
	return slices.Clip(cols)[:len(cols)-1], slices.Clip(enums)[:len(enums)-1]
}

func TestSortArgumentsAreUnchanged(t *testing.T) {
	cols, enums := roomySchema()
	schema := wholeSchema(cols, enums)
	for i := range 1500 {
		r := sortMaker{rand.New(rand.NewSource(int64(i))), 40}
		e := r.someExpr()
		if i%5 == 0 {
			e = op(impl.EpNot, e, lit(-1))
		}
		e = withRoom(e)
		before := wholeText(e)
		impl.SortOf(e, cols, enums)
		for _, x := range sortCols() {
			impl.Gives(e, x.Type, enums)
			impl.Renamed(e, x.Name, "new")
			impl.Renamed(e, x.Name, "")
		}
		impl.Columns(e)
		if after := wholeText(e); after != before {
			t.Fatalf("%s became %s", before, after)
		}
		if after := wholeSchema(cols, enums); after != schema {
			t.Fatalf("%s became %s", schema, after)
		}
	}
}

// The spare capacity of a list is no part of it.
func TestSortsDoNotReadSpareCapacity(t *testing.T) {
	cols, enums := roomySchema()
	checkSort(t, col("spare"), cols, enums, impl.Sort{}, impl.SoName)
	checkSort(t, col("spare"), cols[:cap(cols)], enums, boolSort, impl.SoOk)
	checkSort(t, parsed(t, "m = 'spare'"), cols, enums, impl.Sort{}, impl.SoSort)
	checkSort(t, parsed(t, "u = 'sad'"), cols, enums, impl.Sort{}, impl.SoSort)
	checkSort(t, parsed(t, "u = 'sad'"), cols, enums[:cap(enums)], boolSort, impl.SoOk)
	checkGives(t, quoted("spare"), enum("mood"), enums, false)
	checkGives(t, quoted("sad"), enum("bare"), enums, false)
	checkGives(t, quoted("sad"), enum("bare"), enums[:cap(enums)], true)
	e := withRoom(op(impl.EpNot, col("a")))
	e.Kids[:cap(e.Kids)][1] = col("spare")
	checkSort(t, e, []impl.Col{column("a", kindOf(impl.TyBool))}, nil, boolSort, impl.SoOk)
	if got := impl.Columns(e); !slices.Equal(got, []string{"a"}) {
		t.Errorf("%q", got)
	}
	checkRenamed(t, e, "spare", "a", op(impl.EpNot, col("a")))
}

func TestEmptyListsInSorts(t *testing.T) {
	nothing := []impl.Expr{}
	for _, e := range []impl.Expr{{Kind: impl.EpNull, Kids: nothing}, {Kind: impl.EpNull}} {
		checkSort(t, e, nil, nil, nullSort, impl.SoOk)
		checkSort(t, e, []impl.Col{}, []impl.Labels{}, nullSort, impl.SoOk)
		checkGives(t, e, impl.Type{}, nil, true)
		checkGives(t, e, impl.Type{}, []impl.Labels{}, true)
		checkRenamed(t, e, "", "", impl.Expr{Kind: impl.EpNull})
		if got := impl.Columns(e); len(got) != 0 {
			t.Errorf("%q", got)
		}
	}
	e := impl.Expr{Kind: impl.EpEq, Kids: []impl.Expr{{Kind: impl.EpCol, Text: "a", Kids: nothing}, {Kind: impl.EpText, Text: "x", Kids: nothing}}}
	for _, list := range [][]string{nil, {}} {
		checkSort(t, e, []impl.Col{{Name: "a", Type: enum("e"), Default: nothing}}, []impl.Labels{{Name: "e", List: list}}, impl.Sort{}, impl.SoSort)
	}
	checkSort(t, e, []impl.Col{{Name: "a", Type: enum("e"), Default: nothing}}, []impl.Labels{{Name: "e", List: []string{"x"}}}, boolSort, impl.SoOk)
	checkRenamed(t, e, "a", "b", op(impl.EpEq, col("b"), quoted("x")))
}

func TestSortResultsShareNoMemory(t *testing.T) {
	cols := sortCols()
	for _, x := range cols {
		if got, _ := impl.SortOf(col(x.Name), cols, nil); got.Name != "" && unsafe.StringData(got.Name) == unsafe.StringData(x.Type.Name) {
			t.Errorf("SortOf of %q shares the Name with its column", x.Name)
		}
	}
	twig := op(impl.EpEq, col("name"), quoted("some text"))
	e := withRoom(op(impl.EpAnd, op(impl.EpNot, twig), op(impl.EpOr, twig, op(impl.EpIsNull, col("other")))))
	e.Kids[1].Kids[0].Kids = e.Kids[0].Kids[0].Kids
	givenTexts, givenKids := memoryOf(e)
	from, to := strings.Clone("name"), strings.Clone("new")
	givenTexts = append(givenTexts, unsafe.StringData(from), unsafe.StringData(to))
	for _, s := range append(impl.Columns(e), impl.Columns(op(99, e, e))...) {
		if slices.Contains(givenTexts, unsafe.StringData(s)) {
			t.Errorf("Columns shares %q with its argument", s)
		}
	}
	for _, given := range []impl.Expr{e, {Kind: impl.EpNot, Kids: []impl.Expr{e, e}}, {Kind: impl.EpNull, Kids: e.Kids[:0]}} {
		for _, name := range []string{from, "other", "not there"} {
			got := impl.Renamed(given, name, to)
			texts, kids := memoryOf(got)
			for _, p := range texts {
				if slices.Contains(givenTexts, p) {
					t.Errorf("Renamed of %q shares a text with an argument", name)
				}
			}
			for i, p := range kids {
				if slices.Contains(givenKids, p) || slices.Contains(kids[:i], p) {
					t.Errorf("Renamed of %q shares Kids with its argument or has the same twice", name)
				}
			}
		}
	}
	checkResultsStayApart(t, e)
}

// checkResultsStayApart writes into results and looks at the argument and at other results.
func checkResultsStayApart(t *testing.T, e impl.Expr) {
	t.Helper()
	before := wholeText(e)
	first, second := impl.Renamed(e, "name", "new"), impl.Renamed(e, "name", "new")
	kept := deepCopy(second)
	overwrite(first)
	if !sameExpr(second, kept) || wholeText(e) != before || !sameExpr(impl.Renamed(e, "name", "new"), kept) {
		t.Error("writing into a result of Renamed changed something else")
	}
	names, others := impl.Columns(e), impl.Columns(e)
	for i := range names[:cap(names)] {
		names[:cap(names)][i] = "overwritten"
	}
	if !slices.Equal(others, []string{"name", "other"}) || !slices.Equal(impl.Columns(e), others) {
		t.Error("writing into a result of Columns changed something else")
	}
}
