package tests

import (
	"fmt"
	"math"
	"math/rand"
	"slices"
	"strings"
	"testing"
	"unsafe"

	"loop.example/g00751/impl"
)

func col(s string) impl.Expr {
	return impl.Expr{Kind: impl.EpCol, Text: s}
}

func lit(n int) impl.Expr {
	return impl.Expr{Kind: impl.EpNum, Num: n}
}

func quoted(s string) impl.Expr {
	return impl.Expr{Kind: impl.EpText, Text: s}
}

func op(kind int, kids ...impl.Expr) impl.Expr {
	return impl.Expr{Kind: kind, Kids: kids}
}

// exprKinds has a row for each kind, in order: its operands, its strength and its word or sign, as the chapter states them.
var exprKinds = []struct {
	kids     int
	strength int
	sign     string
}{
	{0, 7, ""}, {0, 7, ""}, {0, 7, ""}, {0, 7, "true"}, {0, 7, "false"}, {0, 7, "null"}, {1, 3, "not"}, {1, 4, "is null"},
	{2, 2, "and"}, {2, 1, "or"}, {2, 4, "="}, {2, 4, "<>"}, {2, 4, "<"}, {2, 4, "<="}, {2, 4, ">"}, {2, 4, ">="},
	{2, 5, "+"}, {2, 5, "-"}, {2, 6, "*"},
}

func TestExprKinds(t *testing.T) {
	kinds := []int{
		impl.EpCol, impl.EpNum, impl.EpText, impl.EpTrue, impl.EpFalse, impl.EpNull, impl.EpNot, impl.EpIsNull, impl.EpAnd, impl.EpOr,
		impl.EpEq, impl.EpNe, impl.EpLt, impl.EpLe, impl.EpGt, impl.EpGe, impl.EpAdd, impl.EpSub, impl.EpMul,
	}
	for i, kind := range kinds {
		if kind != i {
			t.Errorf("kind %d is %d", i, kind)
		}
	}
	if len(kinds) != len(exprKinds) || impl.MaxNodes != 40 {
		t.Error(len(kinds), impl.MaxNodes)
	}
}

func sameExpr(a, b impl.Expr) bool {
	return a.Kind == b.Kind && a.Text == b.Text && a.Num == b.Num && slices.EqualFunc(a.Kids, b.Kids, sameExpr)
}

// nodesOf and deepCopy restate what a test needs of a small expression.
func nodesOf(e impl.Expr) int {
	n := 1
	for _, kid := range e.Kids {
		n += nodesOf(kid)
	}
	return n
}

func deepCopy(e impl.Expr) impl.Expr {
	kids := slices.Clone(e.Kids)
	for i := range kids {
		kids[i] = deepCopy(kids[i])
	}
	e.Kids = kids
	return e
}

func tokensOf(t *testing.T, s string) []impl.Token {
	t.Helper()
	list, at := impl.Lex(s)
	if at != -1 {
		t.Fatalf("Lex(%.200q) fails at %d", s, at)
	}
	return list
}

// checkExpr holds ExprOk, PutExpr and Nodes against what is known of e.
func checkExpr(t *testing.T, e impl.Expr, ok bool, nodes int) {
	t.Helper()
	if got := impl.ExprOk(e); got != ok {
		t.Errorf("ExprOk(%.200s) = %v", fmt.Sprint(e), got)
	}
	if got := impl.PutExpr(e); (got != "") != ok {
		t.Errorf("PutExpr(%.200s) = %.200q", fmt.Sprint(e), got)
	}
	if got := impl.Nodes(e); got != nodes {
		t.Errorf("Nodes(%.200s) = %d, want %d", fmt.Sprint(e), got, nodes)
	}
}

func TestNodeOfEveryShape(t *testing.T) {
	kinds := []int{math.MinInt, -256, -2, -1, 19, 20, 255, 256, 256 + 3, 1<<32 + 3, math.MaxInt}
	for kind := range exprKinds {
		kinds = append(kinds, kind)
	}
	texts := []string{"", "a", "table", "null", "two words", "Big", "\"", "'", "\xff", letters(40), letters(41), letters(100), letters(101), letters(5000), "\x00", "a\x00"}
	nums := []int{math.MinInt, -1, 0, 1, 999999999, 1000000000, 1 << 32, math.MaxInt}
	kids := [][]impl.Expr{nil, {}, {col("a")}, {col("a"), lit(1)}, {col("a"), lit(1), quoted("")}}
	for _, kind := range kinds {
		for _, text := range texts {
			for _, n := range nums {
				for _, list := range kids {
					ok := kind >= 0 && kind <= 18 && len(list) == exprKinds[kind].kids
					switch {
					case kind == impl.EpCol:
						ok = ok && impl.NameOk(text) && n == 0
					case kind == impl.EpText:
						ok = ok && len(text) <= 100 && n == 0
					case kind == impl.EpNum:
						ok = ok && text == "" && n >= 0 && n <= 999999999
					default:
						ok = ok && text == "" && n == 0
					}
					checkExpr(t, impl.Expr{Kind: kind, Text: text, Num: n, Kids: list}, ok, 1+len(list))
				}
			}
		}
	}
}

// chain has n nodes, one below the other.
func chain(kind int, n int, leaf impl.Expr) impl.Expr {
	for range n - 1 {
		leaf = op(kind, leaf)
	}
	return leaf
}

func leftComb(kind int, operators int) impl.Expr {
	e := col("a")
	for range operators {
		e = op(kind, e, col("b"))
	}
	return e
}

func rightComb(kind int, operators int) impl.Expr {
	e := col("a")
	for range operators {
		e = op(kind, col("b"), e)
	}
	return e
}

// tree has n nodes, as evenly divided as possible.
func tree(kind int, n int) impl.Expr {
	switch n {
	case 1:
		return col("a")
	case 2:
		return op(impl.EpNot, col("a"))
	}
	return op(kind, tree(kind, (n-1)/2), tree(kind, n-1-(n-1)/2))
}

func TestLimitOfNodes(t *testing.T) {
	for n := 1; n <= 100; n++ {
		for _, kind := range []int{impl.EpNot, impl.EpIsNull} {
			checkExpr(t, chain(kind, n, col("a")), n <= 40, n)
			checkExpr(t, chain(kind, n, lit(1)), n <= 40, n)
		}
		for kind := impl.EpAnd; kind <= impl.EpMul; kind++ {
			checkExpr(t, tree(kind, n), n <= 40, n)
			checkExpr(t, op(kind, chain(impl.EpNot, n, col("a")), lit(1)), n+2 <= 40, n+2)
			checkExpr(t, op(kind, lit(1), chain(impl.EpNot, n, col("a"))), n+2 <= 40, n+2)
		}
	}
	for operators := range 60 {
		n := 2*operators + 1
		for kind := impl.EpAnd; kind <= impl.EpMul; kind++ {
			for _, e := range []impl.Expr{leftComb(kind, operators), rightComb(kind, operators)} {
				checkExpr(t, e, n <= 40, n)
				checkExpr(t, op(impl.EpNot, e), n+1 <= 40, n+1)
				checkExpr(t, op(impl.EpIsNull, e), n+1 <= 40, n+1)
			}
		}
	}
}

func TestInvalidNodeDeepWithin(t *testing.T) {
	bad := []impl.Expr{
		{Kind: -1}, {Kind: 19}, col(""), col(letters(41)), col("a\x00"), lit(-1), lit(1000000000), quoted(letters(101)), {Kind: impl.EpNull, Num: 1}, {Kind: impl.EpTrue, Text: "true"},
		op(impl.EpNot), op(impl.EpNot, col("a"), col("b")), op(impl.EpIsNull), op(impl.EpAnd), op(impl.EpAnd, col("a")), op(impl.EpMul, col("a"), col("b"), col("c")),
		op(impl.EpCol, col("a")), op(impl.EpNull, col("a")), {Kind: impl.EpAnd, Text: "and", Kids: []impl.Expr{col("a"), col("b")}}, {Kind: impl.EpNot, Num: 1, Kids: []impl.Expr{col("a")}},
	}
	for _, x := range bad {
		n := nodesOf(x)
		checkExpr(t, x, false, n)
		for depth := range 45 {
			checkExpr(t, chain(impl.EpNot, depth+1, x), false, n+depth)
			e := x
			for i := range depth {
				if i%2 == 0 {
					e = op(impl.EpAnd, e, col("a"))
				} else {
					e = op(impl.EpAdd, col("a"), e)
				}
			}
			checkExpr(t, e, false, n+2*depth)
		}
	}
}

// Expressions that are far too large are refused without a walk through all of them.
func TestLargeInvalidExpressions(t *testing.T) {
	checkExpr(t, chain(impl.EpNot, 1000000, col("a")), false, 1000000)
	checkExpr(t, chain(99, 1000000, col("a")), false, 1000000)
	checkExpr(t, leftComb(impl.EpAnd, 200000), false, 400001)
	checkExpr(t, rightComb(impl.EpAnd, 200000), false, 400001)
	checkExpr(t, op(impl.EpAnd, make([]impl.Expr, 1000000)...), false, 1000001)
	checkExpr(t, op(impl.EpNot, op(impl.EpCol, make([]impl.Expr, 100000)...)), false, 100002)
	doubled := col("a")
	for range 20 {
		doubled = op(impl.EpAnd, doubled, doubled)
	}
	checkExpr(t, doubled, false, 1<<21-1)
	for range 60 {
		doubled = op(impl.EpAnd, doubled, doubled)
	}
	within := []impl.Expr{{Kind: impl.EpNot}}
	within[0].Kids = within
	for _, e := range []impl.Expr{doubled, within[0]} {
		if impl.ExprOk(e) || impl.PutExpr(e) != "" {
			t.Error("a boundless expression is accepted")
		}
	}
}

func TestPutExpr(t *testing.T) {
	a, b, c := col("a"), col("b"), col("c")
	cases := []struct {
		e    impl.Expr
		want string
	}{
		{a, "a"}, {col("x_1"), "x_1"}, {col("Big"), `"Big"`}, {col("two words"), `"two words"`}, {col(`a"b`), `"a""b"`}, {col("select"), `"select"`}, {col("null"), `"null"`},
		{col("1"), `"1"`}, {col("'"), `"'"`}, {col(letters(40)), letters(40)}, {col("\xff"), "\"\xff\""},
		{lit(0), "0"}, {lit(1), "1"}, {lit(10), "10"}, {lit(999999999), "999999999"},
		{quoted(""), "''"}, {quoted("x"), "'x'"}, {quoted("it's"), "'it''s'"}, {quoted("'"), "''''"}, {quoted("''"), "''''''"}, {quoted("A b\"\n\x00\xff"), "'A b\"\n\x00\xff'"},
		{quoted(letters(100)), "'" + letters(100) + "'"}, {quoted(strings.Repeat("'", 100)), strings.Repeat("'", 202)}, {quoted("--"), "'--'"}, {quoted("null"), "'null'"},
		{op(impl.EpTrue), "true"}, {op(impl.EpFalse), "false"}, {op(impl.EpNull), "null"},
		{op(impl.EpNot, a), "not a"}, {op(impl.EpIsNull, a), "a is null"}, {op(impl.EpIsNull, op(impl.EpNull)), "null is null"},
		{op(impl.EpAnd, a, b), "a and b"}, {op(impl.EpOr, a, b), "a or b"}, {op(impl.EpEq, a, b), "a = b"}, {op(impl.EpNe, a, b), "a <> b"}, {op(impl.EpLt, a, b), "a < b"},
		{op(impl.EpLe, a, b), "a <= b"}, {op(impl.EpGt, a, b), "a > b"}, {op(impl.EpGe, a, b), "a >= b"}, {op(impl.EpAdd, a, b), "a + b"}, {op(impl.EpSub, a, b), "a - b"}, {op(impl.EpMul, a, b), "a * b"},
		{op(impl.EpSub, op(impl.EpSub, a, b), c), "a - b - c"}, {op(impl.EpSub, a, op(impl.EpSub, b, c)), "a - (b - c)"},
		{op(impl.EpSub, op(impl.EpAdd, a, b), c), "a + b - c"}, {op(impl.EpAdd, a, op(impl.EpSub, b, c)), "a + (b - c)"},
		{op(impl.EpMul, op(impl.EpMul, a, b), c), "a * b * c"}, {op(impl.EpMul, a, op(impl.EpMul, b, c)), "a * (b * c)"},
		{op(impl.EpOr, op(impl.EpOr, a, b), c), "a or b or c"}, {op(impl.EpOr, a, op(impl.EpOr, b, c)), "a or (b or c)"},
		{op(impl.EpAnd, op(impl.EpAnd, a, b), c), "a and b and c"}, {op(impl.EpAnd, a, op(impl.EpAnd, b, c)), "a and (b and c)"},
		{op(impl.EpEq, op(impl.EpEq, a, b), c), "(a = b) = c"}, {op(impl.EpEq, a, op(impl.EpEq, b, c)), "a = (b = c)"},
		{op(impl.EpLt, op(impl.EpGe, a, b), op(impl.EpNe, b, c)), "(a >= b) < (b <> c)"},
		{op(impl.EpIsNull, op(impl.EpEq, a, b)), "(a = b) is null"}, {op(impl.EpEq, op(impl.EpIsNull, a), b), "(a is null) = b"}, {op(impl.EpEq, a, op(impl.EpIsNull, b)), "a = (b is null)"},
		{op(impl.EpIsNull, op(impl.EpIsNull, a)), "(a is null) is null"}, {op(impl.EpIsNull, op(impl.EpAdd, a, lit(1))), "a + 1 is null"},
		{op(impl.EpNot, op(impl.EpNot, a)), "not not a"}, {op(impl.EpNot, op(impl.EpEq, a, b)), "not a = b"}, {op(impl.EpEq, op(impl.EpNot, a), b), "(not a) = b"}, {op(impl.EpEq, a, op(impl.EpNot, b)), "a = (not b)"},
		{op(impl.EpNot, op(impl.EpIsNull, a)), "not a is null"}, {op(impl.EpIsNull, op(impl.EpNot, a)), "(not a) is null"},
		{op(impl.EpNot, op(impl.EpAnd, a, b)), "not (a and b)"}, {op(impl.EpAnd, op(impl.EpNot, a), op(impl.EpNot, b)), "not a and not b"}, {op(impl.EpNot, op(impl.EpOr, a, b)), "not (a or b)"},
		{op(impl.EpMul, op(impl.EpAdd, a, b), lit(2)), "(a + b) * 2"}, {op(impl.EpAdd, a, op(impl.EpMul, b, lit(2))), "a + b * 2"}, {op(impl.EpAdd, op(impl.EpMul, a, b), lit(2)), "a * b + 2"},
		{op(impl.EpOr, op(impl.EpAnd, a, b), op(impl.EpAnd, b, c)), "a and b or b and c"}, {op(impl.EpAnd, op(impl.EpOr, a, b), op(impl.EpOr, b, c)), "(a or b) and (b or c)"},
		{op(impl.EpMul, op(impl.EpOr, a, b), op(impl.EpNot, c)), "(a or b) * (not c)"},
	}
	for _, x := range cases {
		if got := impl.PutExpr(x.e); got != x.want {
			t.Errorf("PutExpr(%v) = %q, want %q", x.e, got, x.want)
		}
		checkRecovered(t, x.e)
	}
}

// checkRecovered checks promise 4 for the text of e as it is.
func checkRecovered(t *testing.T, e impl.Expr) {
	t.Helper()
	checkReads(t, impl.PutExpr(e), e)
}

// checkReads checks that all the tokens of s are the expression e.
func checkReads(t *testing.T, s string, e impl.Expr) {
	t.Helper()
	list := tokensOf(t, s)
	if got, next := impl.ParseExpr(list, 0); next != len(list) || next == 0 || !sameExpr(got, e) {
		t.Fatalf("%q is read as %v up to %d of %d, want %v", s, got, next, len(list), e)
	}
}

// pairClasses and the tables below say of every operand in every place whether it takes parentheses.
var pairClasses = [][]int{
	{impl.EpOr}, {impl.EpAnd}, {impl.EpNot}, {impl.EpEq, impl.EpNe, impl.EpLt, impl.EpLe, impl.EpGt, impl.EpGe}, {impl.EpIsNull},
	{impl.EpAdd, impl.EpSub}, {impl.EpMul}, {impl.EpTrue, impl.EpFalse, impl.EpNull},
}

// A letter for each class of operands, in the order of pairClasses: p for parentheses, n for none.
var firstPairs = []string{"nnnnnnnn", "pnnnnnnn", "ppnnnnnn", "pppppnnn", "pppppnnn", "pppppnnn", "ppppppnn"}

var secondPairs = []string{"pnnnnnnn", "ppnnnnnn", "", "pppppnnn", "", "ppppppnn", "pppppppn"}

// simple returns an expression of a kind, and its text.
func simple(kind int, left string, right string) (impl.Expr, string) {
	switch row := exprKinds[kind]; {
	case row.kids == 0:
		return op(kind), row.sign
	case kind == impl.EpNot:
		return op(kind, col(left)), "not " + left
	case kind == impl.EpIsNull:
		return op(kind, col(left)), left + " is null"
	default:
		return op(kind, col(left), col(right)), left + " " + row.sign + " " + right
	}
}

// placed writes an operand into its place.
func placed(parent int, first bool, operand string) string {
	switch row := exprKinds[parent]; {
	case parent == impl.EpNot:
		return "not " + operand
	case parent == impl.EpIsNull:
		return operand + " is null"
	case first:
		return operand + " " + row.sign + " z"
	default:
		return "y " + row.sign + " " + operand
	}
}

func checkPair(t *testing.T, parent int, first bool, kid int, parens bool) {
	t.Helper()
	operand, text := simple(kid, "a", "b")
	e := op(parent, operand)
	switch {
	case exprKinds[parent].kids == 2 && first:
		e = op(parent, operand, col("z"))
	case exprKinds[parent].kids == 2:
		e = op(parent, col("y"), operand)
	}
	bare, closed := placed(parent, first, text), placed(parent, first, "("+text+")")
	want := bare
	if parens {
		want = closed
	}
	if got := impl.PutExpr(e); got != want {
		t.Errorf("PutExpr(%v) = %q, want %q", e, got, want)
	}
	checkReads(t, closed, e)
	list := tokensOf(t, bare)
	if got, next := impl.ParseExpr(list, 0); (next == len(list) && sameExpr(got, e)) == parens {
		t.Errorf("%q is read as %v up to %d", bare, got, next)
	}
}

func TestParenthesesOfEveryPair(t *testing.T) {
	pairs := 0
	for row, parents := range pairClasses[:7] {
		for column, kids := range pairClasses {
			for _, parent := range parents {
				for _, kid := range kids {
					checkPair(t, parent, true, kid, firstPairs[row][column] == 'p')
					pairs++
					if exprKinds[parent].kids == 2 {
						checkPair(t, parent, false, kid, secondPairs[row][column] == 'p')
						pairs++
					}
				}
			}
		}
	}
	if pairs != 24*16 {
		t.Error("pairs:", pairs)
	}
}

// needsOf returns the strength that a kind needs of its operand.
func needsOf(kind int, first bool) int {
	strength := exprKinds[kind].strength
	if first && (kind == impl.EpNot || strength != 4) {
		return strength
	}
	return strength + 1
}

// written restates PutExpr, with as many parentheses more around each node as extra says.
func written(e impl.Expr, needs int, extra func() int) string {
	row := exprKinds[e.Kind]
	text := row.sign
	more := extra()
	switch {
	case e.Kind == impl.EpCol:
		text = wantName(e.Text)
	case e.Kind == impl.EpNum:
		text = impl.DecText(e.Num)
	case e.Kind == impl.EpText:
		text = "'" + strings.ReplaceAll(e.Text, "'", "''") + "'"
	case e.Kind == impl.EpNot:
		text += " " + written(e.Kids[0], needsOf(e.Kind, true), extra)
	case e.Kind == impl.EpIsNull:
		text = written(e.Kids[0], needsOf(e.Kind, true), extra) + " " + text
	case row.kids == 2:
		text = written(e.Kids[0], needsOf(e.Kind, true), extra) + " " + text + " " + written(e.Kids[1], needsOf(e.Kind, false), extra)
	}
	if row.strength < needs {
		text = "(" + text + ")"
	}
	return strings.Repeat("(", more) + text + strings.Repeat(")", more)
}

func noMore() int {
	return 0
}

// treesWith returns all expressions with that many operators over one column.
func treesWith(operators int) []impl.Expr {
	if operators == 0 {
		return []impl.Expr{col("a")}
	}
	var out []impl.Expr
	for _, kid := range treesWith(operators - 1) {
		out = append(out, op(impl.EpNot, kid), op(impl.EpIsNull, kid))
	}
	for before := range operators {
		for _, left := range treesWith(before) {
			for _, right := range treesWith(operators - 1 - before) {
				for kind := impl.EpAnd; kind <= impl.EpMul; kind++ {
					out = append(out, op(kind, left, right))
				}
			}
		}
	}
	return out
}

func TestSmallExpressionsAreRecovered(t *testing.T) {
	owner := map[string]impl.Expr{}
	for operators := range 4 {
		for _, e := range treesWith(operators) {
			text := impl.PutExpr(e)
			if want := written(e, 1, noMore); text != want {
				t.Fatalf("PutExpr(%v) = %q, want %q", e, text, want)
			}
			if other, taken := owner[text]; taken {
				t.Fatalf("%v and %v have the text %q", e, other, text)
			}
			owner[text] = e
			checkRecovered(t, e)
		}
	}
	if len(owner) != 1+13+312+9347 {
		t.Error("expressions:", len(owner))
	}
}

// Every choice of parts gets one pair of parentheses more, and every part alone several.
func TestRedundantParentheses(t *testing.T) {
	for operators := range 3 {
		for _, e := range treesWith(operators) {
			n := nodesOf(e)
			for choice := range 1 << n {
				part := -1
				checkReads(t, written(e, 1, func() int { part++; return choice >> part & 1 }), e)
			}
			for chosen := range n {
				part := -1
				checkReads(t, written(e, 1, func() int {
					part++
					if part == chosen {
						return 7
					}
					return 0
				}), e)
			}
		}
	}
}

var (
	leafNames = sampleNames()
	leafTexts = []string{"", "a", "it's", "''", "--", "null", "\x00\n\"", "\xff", letters(100), strings.Repeat("'", 100)}
)

// anyExpr returns a valid expression with n nodes.
func anyExpr(random *rand.Rand, n int) impl.Expr {
	switch {
	case n == 1:
		switch kind := random.Intn(impl.EpNot); kind {
		case impl.EpCol:
			return col(leafNames[random.Intn(len(leafNames))])
		case impl.EpNum:
			return lit([]int{0, 1, 7, 999999999, random.Intn(1000000000)}[random.Intn(5)])
		case impl.EpText:
			return quoted(leafTexts[random.Intn(len(leafTexts))])
		default:
			return op(kind)
		}
	case n == 2 || random.Intn(6) == 0:
		return op(impl.EpNot+random.Intn(2), anyExpr(random, n-1))
	}
	left := 1 + random.Intn(n-2)
	return op(impl.EpAnd+random.Intn(11), anyExpr(random, left), anyExpr(random, n-1-left))
}

func TestRandomExpressionsAreRecovered(t *testing.T) {
	random := rand.New(rand.NewSource(5))
	for i := range 12000 {
		e := anyExpr(random, 1+i%40)
		checkExpr(t, e, true, 1+i%40)
		if got, want := impl.PutExpr(e), written(e, 1, noMore); got != want {
			t.Fatalf("PutExpr(%v) = %q, want %q", e, got, want)
		}
		checkRecovered(t, e)
		checkReads(t, written(e, 1, func() int { return random.Intn(4) / 3 }), e)
		checkReads(t, written(e, 1, func() int { return random.Intn(4) }), e)
		if more := op(impl.EpNot, e); 1+i%40 == 40 {
			checkExpr(t, more, false, 41)
			checkNone(t, tokensOf(t, written(more, 1, noMore)), 0)
		}
	}
}

func checkNone(t *testing.T, list []impl.Token, at int) {
	t.Helper()
	if got, next := impl.ParseExpr(list, at); next != -1 || !sameExpr(got, impl.Expr{}) {
		t.Errorf("ParseExpr(%s, %d) = %.200s, %d, want none", shown(list), at, fmt.Sprint(got), next)
	}
}

// grouped writes every operation in parentheses, so that a case shows what belongs together.
func grouped(e impl.Expr) string {
	switch row := exprKinds[e.Kind]; {
	case e.Kind == impl.EpNot:
		return "[not " + grouped(e.Kids[0]) + "]"
	case e.Kind == impl.EpIsNull:
		return "[" + grouped(e.Kids[0]) + " is null]"
	case row.kids == 2:
		return "[" + grouped(e.Kids[0]) + " " + row.sign + " " + grouped(e.Kids[1]) + "]"
	default:
		return impl.PutExpr(e)
	}
}

// parseCase has the empty string as want where there is no expression, and then -1 as next.
type parseCase struct {
	s    string
	want string
	next int
}

func checkParse(t *testing.T, cases []parseCase) {
	t.Helper()
	for _, c := range cases {
		list := tokensOf(t, c.s)
		if c.want == "" {
			checkNone(t, list, 0)
			continue
		}
		if got, next := impl.ParseExpr(list, 0); next != c.next || !impl.ExprOk(got) || grouped(got) != c.want {
			t.Errorf("%q is read as %v up to %d, want %s up to %d", c.s, got, next, c.want, c.next)
		}
	}
}

func TestGrouping(t *testing.T) {
	checkParse(t, []parseCase{
		{"a", "a", 1}, {"A", "a", 1}, {`"A"`, `"A"`, 1}, {`"select"`, `"select"`, 1}, {"0", "0", 1}, {"''", "''", 1}, {"true", "true", 1}, {"FALSE", "false", 1}, {"Null", "null", 1},
		{"(a)", "a", 3}, {"((a))", "a", 5}, {"(((true)))", "true", 7}, {"(not a)", "[not a]", 4},
		{"a or b and c", "[a or [b and c]]", 5}, {"a and b or c", "[[a and b] or c]", 5}, {"a or b or c", "[[a or b] or c]", 5}, {"a and b and c", "[[a and b] and c]", 5},
		{"a or (b or c)", "[a or [b or c]]", 7}, {"(a or b) or c", "[[a or b] or c]", 7}, {"(a or b) and c", "[[a or b] and c]", 7}, {"a and (b or c)", "[a and [b or c]]", 7},
		{"a or b and c or d", "[[a or [b and c]] or d]", 7}, {"a and b or c and d", "[[a and b] or [c and d]]", 7},
		{"a + b - c + d", "[[[a + b] - c] + d]", 7}, {"a - b - c", "[[a - b] - c]", 5}, {"a - (b - c)", "[a - [b - c]]", 7}, {"a - (b - (c - d))", "[a - [b - [c - d]]]", 11},
		{"a * b * c", "[[a * b] * c]", 5}, {"a * (b * c)", "[a * [b * c]]", 7}, {"a + b * c - d", "[[a + [b * c]] - d]", 7}, {"a * b + c * d", "[[a * b] + [c * d]]", 7}, {"(a + b) * c", "[[a + b] * c]", 7},
		{"a = b + c", "[a = [b + c]]", 5}, {"a + b = c", "[[a + b] = c]", 5}, {"a < b and b < c", "[[a < b] and [b < c]]", 7}, {"a <= b or c <> d", "[[a <= b] or [c <> d]]", 7}, {"a > b and c >= d or e = f", "[[[a > b] and [c >= d]] or [e = f]]", 11},
		{"not a", "[not a]", 2}, {"not not a", "[not [not a]]", 3}, {"not a and b", "[[not a] and b]", 4}, {"not a or b", "[[not a] or b]", 4}, {"not a = b", "[not [a = b]]", 4}, {"not a + b", "[not [a + b]]", 4},
		{"not a * b", "[not [a * b]]", 4}, {"not a is null", "[not [a is null]]", 4}, {"not (a and b)", "[not [a and b]]", 6}, {"a and not b", "[a and [not b]]", 4}, {"a or not b", "[a or [not b]]", 4},
		{"a and not b = c", "[a and [not [b = c]]]", 6}, {"a or not b and c", "[a or [[not b] and c]]", 6}, {"a and not b or c", "[[a and [not b]] or c]", 6}, {"a and not b and c", "[[a and [not b]] and c]", 6},
		{"not a = b and not c = d", "[[not [a = b]] and [not [c = d]]]", 9}, {"a and not not b", "[a and [not [not b]]]", 5}, {"(not a) = b", "[[not a] = b]", 6}, {"a = (not b)", "[a = [not b]]", 6}, {"a + (not b)", "[a + [not b]]", 6}, {"(not a) is null", "[[not a] is null]", 6},
		{"a is null", "[a is null]", 3}, {"a + b is null", "[[a + b] is null]", 5}, {"a * b is null and c", "[[[a * b] is null] and c]", 7}, {"a and b is null", "[a and [b is null]]", 5}, {"a or b is null or c", "[[a or [b is null]] or c]", 7}, {"null is null", "[null is null]", 3},
		{"a IS NULL AND NOT B", "[[a is null] and [not b]]", 6}, {"'x' = \"Y\"", "['x' = \"Y\"]", 3}, {"a -- c\n+ 1", "[a + 1]", 3}, {"a-1", "[a - 1]", 3}, {"a<>'it''s'", "[a <> 'it''s']", 3},
	})
}

func TestComparisonsOfComparisons(t *testing.T) {
	signs := []string{"=", "<>", "<", "<=", ">", ">="}
	for _, x := range signs {
		for _, y := range signs {
			checkParse(t, []parseCase{
				{"a " + x + " b " + y + " c", "[a " + x + " b]", 3},
				{"(a " + x + " b) " + y + " c", "[[a " + x + " b] " + y + " c]", 7},
				{"a " + x + " (b " + y + " c)", "[a " + x + " [b " + y + " c]]", 7},
				{"(a " + x + " b " + y + " c)", "", -1},
				{"a + b " + x + " c * d " + y + " e", "[[a + b] " + x + " [c * d]]", 7},
				{"not a " + x + " b " + y + " c", "[not [a " + x + " b]]", 4},
				{"x and a " + x + " b " + y + " c and z", "[x and [a " + x + " b]]", 5},
				{"x or (a " + x + " b " + y + " c)", "x", 1},
				{"x or (a " + x + " b) " + y + " c", "[x or [[a " + x + " b] " + y + " c]]", 9},
			})
		}
		checkParse(t, []parseCase{
			{"a " + x + " b is null", "[a " + x + " b]", 3}, {"(a " + x + " b) is null", "[[a " + x + " b] is null]", 7}, {"a " + x + " (b is null)", "[a " + x + " [b is null]]", 7},
			{"a is null " + x + " b", "[a is null]", 3}, {"(a is null) " + x + " b", "[[a is null] " + x + " b]", 7}, {"(a is null " + x + " b)", "", -1}, {"(a " + x + " b is null)", "", -1},
			{"x and a is null " + x + " b", "[x and [a is null]]", 5}, {"not a is null " + x + " b", "[not [a is null]]", 4}, {"x or a " + x + " b is null or c", "[x or [a " + x + " b]]", 5},
		})
	}
	checkParse(t, []parseCase{
		{"a is null is null", "[a is null]", 3}, {"(a is null) is null", "[[a is null] is null]", 7}, {"((a is null) is null) is null", "[[[a is null] is null] is null]", 11}, {"(a is null is null)", "", -1},
		{"(a is null) is null is null", "[[a is null] is null]", 7}, {"a is null + 1", "[a is null]", 3}, {"a is null * 1", "[a is null]", 3}, {"(a is null) + 1", "[[a is null] + 1]", 7}, {"a is null and b is null", "[[a is null] and [b is null]]", 7},
		{"1 + a is null", "[[1 + a] is null]", 5}, {"1 + (a is null)", "[1 + [a is null]]", 7}, {"not a is null is null", "[not [a is null]]", 4},
	})
}

func TestNotAroundEveryOperator(t *testing.T) {
	for kind := impl.EpAnd; kind <= impl.EpMul; kind++ {
		s := exprKinds[kind].sign
		before := parseCase{"not a " + s + " b", "[not [a " + s + " b]]", 4}
		within := parseCase{"a " + s + " not b", "a", 1}
		both := parseCase{"not a " + s + " not b", "[not a]", 2}
		if kind == impl.EpAnd || kind == impl.EpOr {
			before.want = "[[not a] " + s + " b]"
			within = parseCase{"a " + s + " not b", "[a " + s + " [not b]]", 4}
			both = parseCase{"not a " + s + " not b", "[[not a] " + s + " [not b]]", 5}
		}
		checkParse(t, []parseCase{
			before, within, both,
			{"a not " + s + " b", "a", 1}, {"a " + s + " b not", "[a " + s + " b]", 3}, {"a " + s + " b not c", "[a " + s + " b]", 3}, {"a " + s + " not", "a", 1}, {"not " + s + " a", "", -1},
			{"a " + s + " (not b)", "[a " + s + " [not b]]", 6}, {"(not a) " + s + " b", "[[not a] " + s + " b]", 6}, {"not (a " + s + " b)", "[not [a " + s + " b]]", 6},
			{"a " + s + " (not b) " + s, "[a " + s + " [not b]]", 6}, {"a " + s + " (not)", "a", 1}, {"a " + s + " (b not)", "a", 1},
		})
	}
	checkParse(t, []parseCase{{"a is not null", "a", 1}, {"a not is null", "a", 1}, {"a is null not", "[a is null]", 3}, {"not is null", "", -1}, {"not null is null", "[not [null is null]]", 4}, {"not null", "[not null]", 2}})
}

func TestBrokenExpressions(t *testing.T) {
	checkParse(t, []parseCase{
		{"", "", -1}, {"(", "", -1}, {")", "", -1}, {"()", "", -1}, {"(a", "", -1}, {"((a)", "", -1}, {"(a b)", "", -1}, {"(a,b)", "", -1}, {"(a and)", "", -1}, {"(a not)", "", -1}, {"(not)", "", -1},
		{"not", "", -1}, {"not not", "", -1}, {"not (", "", -1}, {"not (a", "", -1}, {"not )", "", -1}, {"not and", "", -1}, {"is", "", -1}, {"is null", "", -1}, {"and", "", -1}, {"or a", "", -1}, {"= a", "", -1},
		{"- 1", "", -1}, {"+ a", "", -1}, {"* a", "", -1}, {", a", "", -1}, {"; a", "", -1}, {". a", "", -1}, {"select", "", -1}, {"table", "", -1}, {"( )", "", -1}, {"(()) a", "", -1},
		{"a is", "a", 1}, {"a is a", "a", 1}, {"a is (null)", "a", 1}, {"a is \"null\"", "a", 1}, {"a is true", "a", 1}, {"a null", "a", 1}, {"a not", "a", 1}, {"a (", "a", 1}, {"a )", "a", 1}, {"a (b)", "a", 1}, {"a ()", "a", 1},
		{"a b", "a", 1}, {"a 1", "a", 1}, {"1 a", "1", 1}, {"1 1", "1", 1}, {"a 'b'", "a", 1}, {"'a' 'b'", "'a'", 1}, {"a \"b\"", "a", 1}, {"true false", "true", 1}, {"a , b", "a", 1}, {"a ; b", "a", 1}, {"a . b", "a", 1}, {"a select", "a", 1}, {"a from b", "a", 1},
		{"a = b )", "[a = b]", 3}, {"a = b , c", "[a = b]", 3}, {"a = b ; c", "[a = b]", 3}, {"a = b where", "[a = b]", 3}, {"(a) (b)", "a", 3}, {"(a) b", "a", 3}, {"(a))", "a", 3}, {"not a b", "[not a]", 2}, {"not a )", "[not a]", 2},
		{"a and b or", "[a and b]", 3}, {"a or b and", "[a or b]", 3}, {"a or b and c +", "[a or [b and c]]", 5}, {"a or b and (c +)", "[a or b]", 3}, {"a or b and (c", "[a or b]", 3}, {"a * b + c * (d", "[[a * b] + c]", 5}, {"a + b * (", "[a + b]", 3},
		{"a + b * )", "[a + b]", 3}, {"a + b * select", "[a + b]", 3}, {"a and (b or (c and", "a", 1}, {"a and ((b) or (c)", "a", 1}, {"not a and (", "[not a]", 2}, {"not a + (b", "[not a]", 2}, {"(not a + (b)) and", "[not [a + b]]", 8}, {"a = b = (c)", "[a = b]", 3},
	})
	operators := []string{"and", "or", "=", "<>", "<", "<=", ">", ">=", "+", "-", "*"}
	for _, x := range operators {
		checkParse(t, []parseCase{
			{"a " + x, "a", 1}, {"a " + x + " (", "a", 1}, {"a " + x + " )", "a", 1}, {"a " + x + " (b", "a", 1}, {"a " + x + " ()", "a", 1}, {"a " + x + " ,", "a", 1}, {"a " + x + " is null", "a", 1}, {"a " + x + " select", "a", 1}, {x, "", -1}, {x + " a", "", -1},
			{"(a " + x + ")", "", -1}, {"(" + x + " a)", "", -1}, {"(a) " + x, "a", 3}, {"not a " + x, "[not a]", 2}, {"a is null " + x, "[a is null]", 3}, {"a is " + x + " b", "a", 1},
		})
		for _, y := range operators {
			checkParse(t, []parseCase{{"a " + x + " " + y + " b", "a", 1}, {"a " + x + " (" + y + " b)", "a", 1}, {"a " + x + " b " + y, "[a " + x + " b]", 3}, {"a " + x + " b " + y + " (c", "[a " + x + " b]", 3}})
		}
	}
}

func TestParseAtEveryIndex(t *testing.T) {
	list := tokensOf(t, "x = 1 and not (y is null) or z + 2 * 'w' > )")
	texts := []string{
		"[[[x = 1] and [not [y is null]]] or [z + [2 * 'w']]]", "", "[[1 and [not [y is null]]] or [z + [2 * 'w']]]", "", "[[not [y is null]] or [z + [2 * 'w']]]", "[[y is null] or [z + [2 * 'w']]]",
		"[y is null]", "", "null", "", "", "[z + [2 * 'w']]", "", "[2 * 'w']", "", "'w'", "", "",
	}
	ends := []int{16, -1, 16, -1, 16, 16, 9, -1, 9, -1, -1, 16, -1, 16, -1, 16, -1, -1}
	if len(list) != len(texts) || len(list) != len(ends) {
		t.Fatal(len(list), len(texts), len(ends))
	}
	for at := range list {
		if texts[at] == "" {
			checkNone(t, list, at)
			continue
		}
		if got, next := impl.ParseExpr(list, at); next != ends[at] || grouped(got) != texts[at] {
			t.Errorf("at %d: %s, %d, want %s, %d", at, grouped(got), next, texts[at], ends[at])
		}
	}
	for _, at := range []int{-1, -2, -18, -1 << 32, math.MinInt, len(list), len(list) + 1, 1 << 32, math.MaxInt - 1, math.MaxInt} {
		checkNone(t, list, at)
	}
	for _, at := range []int{math.MinInt, -1, 0, 1, math.MaxInt} {
		checkNone(t, nil, at)
		checkNone(t, []impl.Token{}, at)
	}
}

// The At of a token is of no concern to its expression.
func TestParseIgnoresPlacesInTheText(t *testing.T) {
	for _, at := range []int{-5, 0, 7, math.MaxInt, math.MinInt} {
		list := []impl.Token{word("a", at), sign("+", at), num("1", at), word("is", at), word("null", at)}
		if got, next := impl.ParseExpr(list, 0); next != 5 || grouped(got) != "[[a + 1] is null]" {
			t.Errorf("%v, %d", got, next)
		}
	}
}

func checkTokens(t *testing.T, want impl.Expr, next int, list ...impl.Token) {
	t.Helper()
	if got, at := impl.ParseExpr(list, 0); at != next || !sameExpr(got, want) {
		t.Errorf("ParseExpr(%s, 0) = %.200s, %d, want %.200s, %d", shown(list), fmt.Sprint(got), at, fmt.Sprint(want), next)
	}
}

func TestReservedWordsInExpressions(t *testing.T) {
	a, and := word("a", 0), word("and", 0)
	constants := map[string]impl.Expr{"true": op(impl.EpTrue), "false": op(impl.EpFalse), "null": op(impl.EpNull)}
	for _, w := range reservedWords {
		leaf, constant := constants[w]
		if constant {
			checkTokens(t, leaf, 1, word(w, 0))
			checkTokens(t, op(impl.EpAnd, col("a"), leaf), 3, a, and, word(w, 0))
		} else {
			checkNone(t, []impl.Token{word(w, 0)}, 0)
			checkTokens(t, col("a"), 1, a, and, word(w, 0))
		}
		switch w {
		case "and":
			checkTokens(t, op(impl.EpAnd, col("a"), col("a")), 3, a, word(w, 0), a)
		case "or":
			checkTokens(t, op(impl.EpOr, col("a"), col("a")), 3, a, word(w, 0), a)
		default:
			checkTokens(t, col("a"), 1, a, word(w, 0), a)
		}
		checkTokens(t, col(w), 1, name(w, 0))
		checkTokens(t, op(impl.EpAnd, col("a"), col(w)), 3, a, and, name(w, 0))
		checkTokens(t, col("a"), 1, a, name(w, 0), a)
		checkTokens(t, quoted(w), 1, str(w, 0))
		checkTokens(t, col("a"), 1, a, str(w, 0), a)
		// Words are compared bytewise: Lex makes no TkWord with a large letter, and such a word is not reserved.
		for _, s := range []string{strings.ToUpper(w), strings.ToUpper(w[:1]) + w[1:]} {
			checkTokens(t, col(s), 1, word(s, 0))
			checkTokens(t, col(s), 1, name(s, 0))
			checkTokens(t, col("a"), 1, a, word(s, 0), a)
			if list := tokensOf(t, s); len(list) != 1 || list[0].Text != w {
				t.Errorf("Lex(%q) = %s", s, shown(list))
			}
		}
	}
	checkTokens(t, col("a"), 1, a, word("is", 0), name("null", 0))
	checkTokens(t, col("a"), 1, a, name("is", 0), word("null", 0))
	checkTokens(t, col("a"), 1, a, word("IS", 0), word("null", 0))
	checkTokens(t, col("a"), 1, a, word("is", 0), word("NULL", 0))
	checkTokens(t, col("a"), 1, a, word("is null", 0))
	checkTokens(t, col("not"), 1, name("not", 0), a)
	checkTokens(t, col("NOT"), 1, word("NOT", 0), a)
}

func TestNamesInExpressions(t *testing.T) {
	a, and := word("a", 0), word("and", 0)
	for _, s := range sampleNames() {
		checkTokens(t, col(s), 1, name(s, 0))
		checkTokens(t, op(impl.EpAnd, col("a"), col(s)), 3, a, and, name(s, 0))
		if !slices.Contains(reservedWords, s) {
			checkTokens(t, col(s), 1, word(s, 0))
			checkTokens(t, op(impl.EpAnd, col(s), col("a")), 3, word(s, 0), and, a)
		}
	}
	for _, s := range badNames() {
		checkBadLeaf(t, name(s, 0))
		checkBadLeaf(t, word(s, 0))
	}
	if list := tokensOf(t, letters(41)+" + 1"); len(list) == 3 {
		checkNone(t, list, 0)
	}
}

// checkBadLeaf checks that a token that denotes no valid node spoils every expression it is in, and no other.
func checkBadLeaf(t *testing.T, x impl.Token) {
	t.Helper()
	a, and, open, end := word("a", 0), word("and", 0), sign("(", 0), sign(")", 0)
	not, plus, is, null := word("not", 0), sign("+", 0), word("is", 0), word("null", 0)
	for _, list := range [][]impl.Token{
		{x}, {x, a}, {x, end}, {not, x}, {open, x, end}, {open, open, x, end, end}, {x, and, a}, {a, and, x}, {a, plus, x}, {x, plus, a}, {x, is, null}, {a, and, not, x}, {a, and, open, x, end},
		{a, and, x, and}, {a, plus, a, and, x, and, a}, {a, and, open, a, plus, x, end, and, a}, {open, x}, {a, and, x, x}, {x, x}, {x, and, x}, {x, and, open},
	} {
		checkNone(t, list, 0)
	}
	for _, list := range [][]impl.Token{{a, x}, {a, end, x}, {a, and, open, x}, {a, and, open, a, plus, x}, {a, open, x, end}, {a, and, open, x, a, end}, {a, is, x}, {a, and, open, x, and, end}, {a, plus, not, x}, {a, and, and, x}} {
		checkTokens(t, col("a"), 1, list...)
	}
}

func TestNumbersAndTextsInExpressions(t *testing.T) {
	for _, n := range []int{0, 1, 9, 10, 123456789, 999999999} {
		checkTokens(t, lit(n), 1, num(impl.DecText(n), 0))
		checkTokens(t, op(impl.EpMul, lit(n), lit(n)), 3, num(impl.DecText(n), 0), sign("*", 0), num(impl.DecText(n), 0))
	}
	for _, s := range []string{"", "00", "01", "007", "-1", "-0", "+1", "1000000000", "9999999999", "99999999999999999999", "1a", "a", " 1", "1 ", "1.5", "1_0", "0x1", "\x00", "١", "(", "and", "null", letters(5000)} {
		checkBadLeaf(t, num(s, 0))
	}
	for _, s := range []string{"", "a", "it's", "'", "\x00", "\xff", "(", "and", letters(99), letters(100), strings.Repeat("'", 100), strings.Repeat("\x00", 100)} {
		checkTokens(t, quoted(s), 1, str(s, 0))
		checkTokens(t, op(impl.EpEq, col("a"), quoted(s)), 3, word("a", 0), sign("=", 0), str(s, 0))
	}
	for _, s := range []string{letters(101), letters(102), letters(200), letters(30000), strings.Repeat("é", 51)} {
		checkBadLeaf(t, str(s, 0))
	}
}

// Kind and Text together make a token an operator, a parenthesis or a word.
func TestTokensOfOtherKinds(t *testing.T) {
	a := word("a", 0)
	texts := []string{"", "a", "1", "(", ")", "not", "and", "or", "is", "null", "true", "=", "<>", "<", "<=", ">", ">=", "+", "-", "*", ".", ",", ";"}
	for _, kind := range []int{math.MinInt, -1, 5, 6, 256, 260, math.MaxInt} {
		for _, s := range texts {
			x := impl.Token{Kind: kind, Text: s}
			checkNone(t, []impl.Token{x}, 0)
			checkNone(t, []impl.Token{x, a}, 0)
			checkNone(t, []impl.Token{word("not", 0), x}, 0)
			checkNone(t, []impl.Token{sign("(", 0), a, x}, 0)
			checkTokens(t, col("a"), 1, a, x)
			checkTokens(t, col("a"), 1, a, x, a)
			checkTokens(t, col("a"), 1, a, word("and", 0), x)
			checkTokens(t, col("a"), 1, a, word("is", 0), x)
		}
	}
	for _, s := range []string{"not", "and", "or", "is", "null", "true", "false", "a", "1", "", "==", "!=", "<=>", "=<", "--", "'", "\"", "( ", "((", ".", ",", ";", "/", "%", "select"} {
		checkNone(t, []impl.Token{sign(s, 0)}, 0)
		checkNone(t, []impl.Token{sign(s, 0), a}, 0)
		checkTokens(t, col("a"), 1, a, sign(s, 0), a)
		checkTokens(t, col("a"), 1, a, sign("=", 0), sign(s, 0))
		checkTokens(t, col("a"), 1, a, word("is", 0), sign(s, 0))
	}
	for _, s := range []string{"(", ")", "=", "<>", "<", "<=", ">", ">=", "+", "-", "*"} {
		checkTokens(t, col(s), 1, word(s, 0), a)
		checkTokens(t, col(s), 1, name(s, 0), a)
		checkTokens(t, quoted(s), 1, str(s, 0), a)
		checkTokens(t, col("a"), 1, a, word(s, 0), a)
		checkTokens(t, col("a"), 1, a, name(s, 0), a)
		checkTokens(t, col("a"), 1, a, num(s, 0), a)
		checkTokens(t, col("a"), 1, a, str(s, 0), a)
	}
}

func TestTooManyNodes(t *testing.T) {
	cases := []struct {
		s  string
		ok bool
	}{
		{strings.Repeat("not ", 38) + "a", true}, {strings.Repeat("not ", 39) + "a", true}, {strings.Repeat("not ", 40) + "a", false}, {strings.Repeat("not ", 4000) + "a", false},
		{strings.Repeat("a + ", 19) + "a", true}, {"not " + strings.Repeat("a + ", 19) + "a", true}, {strings.Repeat("a + ", 20) + "a", false}, {"not not " + strings.Repeat("a + ", 19) + "a", false},
		{strings.Repeat("a and ", 19) + "a", true}, {strings.Repeat("a and ", 19) + "not a", true}, {strings.Repeat("a and ", 20) + "a", false}, {strings.Repeat("a or ", 2000) + "a", false},
		{strings.Repeat("(a) + ", 19) + "(a)", true}, {strings.Repeat("((a)) * ", 19) + "((a))", true}, {strings.Repeat("(a) + ", 20) + "(a)", false}, {strings.Repeat("(", 19) + "a" + strings.Repeat(" + a)", 19), true},
		{strings.Repeat("(", 20) + "a" + strings.Repeat(" + a)", 20), false}, {strings.Repeat("(a - ", 19) + "a" + strings.Repeat(")", 19), true}, {strings.Repeat("(a - ", 20) + "a" + strings.Repeat(")", 20), false},
		{strings.Repeat("not (", 39) + "a" + strings.Repeat(")", 39), true}, {strings.Repeat("not (", 40) + "a" + strings.Repeat(")", 40), false}, {strings.Repeat("(", 39) + "a" + strings.Repeat(" is null)", 39), true},
		{strings.Repeat("(", 40) + "a" + strings.Repeat(" is null)", 40), false}, {strings.Repeat("(not (", 39) + "a" + strings.Repeat("))", 39), true}, {strings.Repeat("(", 41) + "a" + strings.Repeat(")", 41), true},
		{strings.Repeat("(", 5000) + "a" + strings.Repeat(")", 5000), true}, {strings.Repeat("(", 500) + strings.Repeat("not ", 39) + "a" + strings.Repeat(")", 500), true}, {strings.Repeat("(", 500) + strings.Repeat("not ", 40) + "a" + strings.Repeat(")", 500), false},
	}
	for _, c := range cases {
		list := tokensOf(t, c.s)
		if got, next := impl.ParseExpr(list, 0); c.ok && (next != len(list) || !impl.ExprOk(got)) {
			t.Errorf("%.100q of %d tokens is read up to %d", c.s, len(list), next)
		}
		if !c.ok {
			checkNone(t, list, 0)
			checkNone(t, append(list, word("and", 0)), 0)
			checkNone(t, append(list, sign(")", 0)), 0)
		}
	}
	// The nodes of what does not belong to the expression are not counted.
	many := strings.Repeat("a + ", 30) + "a"
	checkParse(t, []parseCase{
		{"x and (" + many, "x", 1}, {"x (" + many + ")", "x", 1}, {"x , " + many, "x", 1}, {"x + not " + many, "x", 1}, {"x = y = " + many, "[x = y]", 3}, {"x is null " + many, "[x is null]", 3}, {"x and (" + many + ")", "", -1}, {"(" + many + ") and x", "", -1}, {"not " + many, "", -1},
	})
}

func TestLongLists(t *testing.T) {
	nest := func(n int) []impl.Token {
		return slices.Concat(slices.Repeat([]impl.Token{sign("(", 0)}, n), []impl.Token{word("a", 0)}, slices.Repeat([]impl.Token{sign(")", 0)}, n))
	}
	full := append([]impl.Token{word("not", 0)}, nest(9999)...)
	checkTokens(t, op(impl.EpNot, col("a")), 20000, full...)
	checkTokens(t, op(impl.EpNot, col("a")), 20000, full[:20000:20000]...)
	for _, at := range []int{-1, 0, 1, 2, 10001, 20000, 20001} {
		checkNone(t, append(slices.Clone(full), sign(")", 0)), at)
		checkNone(t, nest(10000), at)
	}
	checkTokens(t, col("a"), 19999, nest(9999)...)
	checkNone(t, nest(9999)[:19998], 0)
	checkNone(t, slices.Repeat([]impl.Token{sign("(", 0)}, 20000), 0)
	checkNone(t, slices.Repeat([]impl.Token{sign(")", 0)}, 20000), 0)
	checkNone(t, slices.Repeat([]impl.Token{word("not", 0)}, 20000), 0)
	checkNone(t, append(slices.Repeat([]impl.Token{word("not", 0)}, 19999), word("a", 0)), 0)
	checkNone(t, append(slices.Repeat([]impl.Token{word("a", 0), sign("+", 0)}, 9999), word("a", 0)), 0)
	checkTokens(t, col("a"), 1, append([]impl.Token{word("a", 0), word("and", 0)}, slices.Repeat([]impl.Token{sign("(", 0)}, 19998)...)...)
	many := slices.Repeat([]impl.Token{word("a", 0)}, 20000)
	for _, at := range []int{0, 1, 9999, 19998, 19999} {
		if got, next := impl.ParseExpr(many, at); next != at+1 || !sameExpr(got, col("a")) {
			t.Errorf("at %d: %v, %d", at, got, next)
		}
	}
	checkNone(t, append(many, word("a", 0)), 0)
}

// An operand that does not close is given up at every operator before it, which must not be tried again and again.
func TestUnclosedNests(t *testing.T) {
	piece := tokensOf(t, "a or a and not a = a + a * (")
	nest := slices.Repeat(piece, 20000/len(piece))
	if got, next := impl.ParseExpr(nest, 0); next != 10 || grouped(got) != "[a or [a and [not [a = [a + a]]]]]" {
		t.Errorf("%v, %d", got, next)
	}
	checkNone(t, slices.Concat([]impl.Token{sign("(", 0)}, nest), 0)
	checkNone(t, slices.Repeat(tokensOf(t, "not ( a = ("), 4000), 0)
	text := impl.Token{Kind: impl.TkText, Text: strings.Repeat("x", 1<<20)}
	checkNone(t, append(slices.Repeat([]impl.Token{text, sign("+", 0)}, 9999), text), 0)
}

// reading is what the tokens of a span may be read as.
type reading struct {
	e        impl.Expr
	strength int
	bad      bool
}

// grammar restates the chapter's rules for a list of tokens, span by span, without a direction of reading.
type grammar struct {
	list  []impl.Token
	spans map[[2]int][]reading
}

func (g *grammar) is(at int, kind int, text string) bool {
	return g.list[at].Kind == kind && g.list[at].Text == text
}

// readings returns all that the tokens from i to j, as a whole, may be read as.
func (g *grammar) readings(i, j int) []reading {
	if known, done := g.spans[[2]int{i, j}]; done {
		return known
	}
	var out []reading
	if j == i+1 {
		out = append(out, g.leaf(i)...)
	}
	if j > i+1 && g.is(i, impl.TkWord, "not") {
		out = append(out, g.join(impl.EpNot, g.readings(i+1, j), nil)...)
	}
	if j > i+2 && g.is(i, impl.TkSign, "(") && g.is(j-1, impl.TkSign, ")") {
		for _, x := range g.readings(i+1, j-1) {
			out = append(out, reading{x.e, 7, x.bad})
		}
	}
	if j > i+2 && g.is(j-2, impl.TkWord, "is") && g.is(j-1, impl.TkWord, "null") {
		out = append(out, g.join(impl.EpIsNull, g.readings(i, j-2), nil)...)
	}
	for k := i + 1; k < j-1; k++ {
		for kind := impl.EpAnd; kind <= impl.EpMul; kind++ {
			token := impl.TkSign
			if kind <= impl.EpOr {
				token = impl.TkWord
			}
			if g.is(k, token, exprKinds[kind].sign) {
				out = append(out, g.join(kind, g.readings(i, k), g.readings(k+1, j))...)
			}
		}
	}
	g.spans[[2]int{i, j}] = out
	return out
}

func (g *grammar) leaf(at int) []reading {
	switch x := g.list[at]; {
	case x.Kind == impl.TkName || x.Kind == impl.TkWord && !slices.Contains(reservedWords, x.Text):
		return []reading{{col(x.Text), 7, !impl.NameOk(x.Text)}}
	case x.Kind == impl.TkNum:
		return []reading{{lit(impl.ReadDec(x.Text)), 7, impl.ReadDec(x.Text) < 0}}
	case x.Kind == impl.TkText:
		return []reading{{quoted(x.Text), 7, len(x.Text) > 100}}
	case x.Kind == impl.TkWord && slices.Contains([]string{"true", "false", "null"}, x.Text):
		return []reading{{op(impl.EpTrue + slices.Index([]string{"true", "false", "null"}, x.Text)), 7, false}}
	}
	return nil
}

// join makes an operation of every pair of operands that bind strongly enough.
func (g *grammar) join(kind int, first []reading, second []reading) []reading {
	var out []reading
	strength := exprKinds[kind].strength
	for _, x := range first {
		if x.strength < needsOf(kind, true) {
			continue
		}
		if exprKinds[kind].kids == 1 {
			out = append(out, reading{op(kind, x.e), strength, x.bad})
		}
		for _, y := range second {
			if y.strength >= needsOf(kind, false) {
				out = append(out, reading{op(kind, x.e, y.e), strength, x.bad || y.bad})
			}
		}
	}
	return out
}

func checkAgainstGrammar(t *testing.T, g *grammar, at int) {
	t.Helper()
	want, end := impl.Expr{}, -1
	for j := len(g.list); j > at; j-- {
		found := g.readings(at, j)
		if len(found) > 1 {
			t.Fatalf("%s has %d readings", shown(g.list[at:j]), len(found))
		}
		if len(found) == 1 {
			if !found[0].bad && nodesOf(found[0].e) <= 40 {
				want, end = found[0].e, j
			}
			break
		}
	}
	got, next := impl.ParseExpr(g.list, at)
	if next != end || !sameExpr(got, want) {
		t.Fatalf("ParseExpr(%s, %d) = %v, %d, want %v, %d", shown(g.list), at, got, next, want, end)
	}
	if next < 0 {
		return
	}
	if !impl.ExprOk(got) {
		t.Fatalf("ParseExpr(%s, %d) = %v, which is invalid", shown(g.list), at, got)
	}
	checkRecovered(t, got)
}

func TestAllShortLists(t *testing.T) {
	tokens := []impl.Token{
		word("a", 0), word("not", 0), word("and", 0), word("or", 0), sign("=", 0), word("is", 0), word("null", 0), sign("+", 0), sign("*", 0), sign("(", 0), sign(")", 0),
	}
	last := [][]impl.Token{nil}
	for range 5 {
		var next [][]impl.Token
		for _, list := range last {
			for _, x := range tokens {
				next = append(next, append(slices.Clone(list), x))
			}
		}
		for _, list := range next {
			checkAgainstGrammar(t, &grammar{list, map[[2]int][]reading{}}, 0)
		}
		last = next
	}
}

func TestRandomLists(t *testing.T) {
	leaves := []impl.Token{word("a", 0), word("b", 0), name("A", 0), num("1", 0), str("x", 0), word("null", 0), word("true", 0), word("false", 0), name("not", 0)}
	operators := []impl.Token{
		word("and", 0), word("or", 0), sign("=", 0), sign("<>", 0), sign("<", 0), sign("<=", 0), sign(">", 0), sign(">=", 0), sign("+", 0), sign("-", 0), sign("*", 0),
	}
	rare := []impl.Token{num("007", 0), name("", 0), word(letters(41), 0), str(letters(101), 0), {Kind: 5, Text: "a"}, word("select", 0), sign(",", 0), word("is", 0), word("AND", 0)}
	random := rand.New(rand.NewSource(6))
	pick := func(from []impl.Token) impl.Token { return from[random.Intn(len(from))] }
	for range 10000 {
		var list []impl.Token
		for open, n := 0, random.Intn(8); n >= 0; n-- {
			for ; random.Intn(4) == 0; list = append(list, word("not", 0)) {
			}
			for ; random.Intn(3) == 0; open++ {
				list = append(list, sign("(", 0))
			}
			list = append(list, pick(leaves))
			for ; open > 0 && random.Intn(2) == 0; open-- {
				list = append(list, sign(")", 0))
			}
			if random.Intn(5) == 0 {
				list = append(list, word("is", 0), word("null", 0))
			}
			list = append(list, pick(operators))
		}
		if random.Intn(2) == 0 {
			list[random.Intn(len(list))] = pick(slices.Concat(rare, leaves, operators))
		}
		g := &grammar{list, map[[2]int][]reading{}}
		for at := range list {
			checkAgainstGrammar(t, g, at)
		}
	}
}

// Whatever is no part of an expression may stand behind it and before it.
func TestExpressionsAmongOtherTokens(t *testing.T) {
	random := rand.New(rand.NewSource(7))
	after := []impl.Token{sign(")", 0), sign(",", 0), sign(";", 0), sign(".", 0), sign("(", 0), word("select", 0), word("not", 0), word("is", 0), word("and", 0), sign("*", 0), word("b", 0), num("007", 0), str("", 0), {Kind: 9, Text: "and"}}
	for i := range 4000 {
		e := anyExpr(random, 1+i%40)
		list := tokensOf(t, impl.PutExpr(e))
		for _, x := range after {
			whole := slices.Concat([]impl.Token{x, sign("(", 0)}, list, []impl.Token{x, sign(",", 0)})
			if got, next := impl.ParseExpr(whole, 2); next != 2+len(list) || !sameExpr(got, e) {
				t.Fatalf("%s is read as %v up to %d", shown(whole), got, next)
			}
		}
	}
}

// withRoom returns e with spare capacity behind all its Kids, filled with what must stay.
func withRoom(e impl.Expr) impl.Expr {
	kids := make([]impl.Expr, 0, len(e.Kids)+2)
	for _, kid := range e.Kids {
		kids = append(kids, withRoom(kid))
	}
	n := len(kids)
	kids = append(kids, impl.Expr{Kind: 77, Text: "spare", Num: 77}, impl.Expr{Kind: 78, Text: "room", Num: 78})
	e.Kids = kids[:n]
	return e
}

// wholeText writes all of e, its spare capacity included.
func wholeText(e impl.Expr) string {
	out := fmt.Sprintf("{%d %q %d %d:", e.Kind, e.Text, e.Num, len(e.Kids))
	for _, kid := range e.Kids[:cap(e.Kids)] {
		out += wholeText(kid)
	}
	return out + "}"
}

func TestExprArgumentsAreUnchanged(t *testing.T) {
	random := rand.New(rand.NewSource(8))
	for i := range 400 {
		e := anyExpr(random, 1+i%40)
		if i%5 == 0 {
			e = op(impl.EpNot, e, lit(-1))
		}
		e = withRoom(e)
		before := wholeText(e)
		impl.Nodes(e)
		impl.ExprOk(e)
		impl.PutExpr(e)
		if after := wholeText(e); after != before {
			t.Fatalf("%s became %s", before, after)
		}
	}
	for _, s := range []string{"a", "a and (b", "not (a + 1) is null", "x = 'y' or \"Z\" >= 3 )", "a and", "(((a))) * (b - (c))"} {
		whole := append(tokensOf(t, s), word("spare", 1), sign("+", 2), word("room", 3))
		before := slices.Clone(whole)
		for n := range len(whole) + 1 {
			for at := -1; at <= n+1; at++ {
				impl.ParseExpr(whole[:n], at)
				if !slices.Equal(whole, before) {
					t.Fatalf("the argument became %s", shown(whole))
				}
			}
		}
	}
}

// The spare capacity of a list is no part of it.
func TestParseDoesNotReadSpareCapacity(t *testing.T) {
	whole := tokensOf(t, "a + b * c")
	for n := range len(whole) + 1 {
		exact := slices.Clip(slices.Clone(whole[:n]))
		got, next := impl.ParseExpr(whole[:n], 0)
		want, end := impl.ParseExpr(exact, 0)
		if next != end || !sameExpr(got, want) || next > n {
			t.Errorf("%d tokens: %v, %d, want %v, %d", n, got, next, want, end)
		}
	}
}

// memoryOf returns the places of all the texts and all the Kids of e.
func memoryOf(e impl.Expr) (texts []*byte, kids []*impl.Expr) {
	if e.Text != "" {
		texts = append(texts, unsafe.StringData(e.Text))
	}
	if cap(e.Kids) > 0 {
		kids = append(kids, unsafe.SliceData(e.Kids))
	}
	for _, kid := range e.Kids {
		moreTexts, moreKids := memoryOf(kid)
		texts, kids = append(texts, moreTexts...), append(kids, moreKids...)
	}
	return texts, kids
}

func TestExprResultsShareNoMemory(t *testing.T) {
	list := tokensOf(t, `name + 1 = 'some text' and not "Name" is null or name + name = 'some text'`)
	first, _ := impl.ParseExpr(list, 0)
	second, next := impl.ParseExpr(list, 0)
	if next != len(list) || !sameExpr(first, second) {
		t.Fatal(first, second, next)
	}
	given := map[*byte]int{}
	for _, x := range list {
		given[unsafe.StringData(x.Text)]++
	}
	lists := map[*impl.Expr]int{}
	for _, e := range []impl.Expr{first, second} {
		texts, kids := memoryOf(e)
		for _, p := range texts {
			if given[p] > 0 {
				t.Errorf("%v shares a text with a token", e)
			}
		}
		for _, p := range kids {
			lists[p]++
		}
	}
	for p, n := range lists {
		if n != 1 {
			t.Errorf("%v has its Kids in common with another node", *p)
		}
	}
	kept := deepCopy(second)
	overwrite(first)
	if !sameExpr(second, kept) {
		t.Error("writing into a result changed another one")
	}
	if third, _ := impl.ParseExpr(list, 0); !sameExpr(third, kept) {
		t.Error("writing into a result changed a later one")
	}
	for _, s := range []string{"a", "plain_name", "Big", "select"} {
		if e := col(s); unsafe.StringData(impl.PutExpr(e)) == unsafe.StringData(e.Text) {
			t.Errorf("PutExpr of the column %q shares memory with its argument", s)
		}
	}
}

func overwrite(e impl.Expr) {
	kids := e.Kids[:cap(e.Kids)]
	for i := range kids {
		overwrite(kids[i])
		kids[i] = impl.Expr{Kind: 99, Text: "overwritten", Num: -5}
	}
}

// What ParseExpr reads is valid, and it has a text that reads the same.
func TestParsedTextsAreRecovered(t *testing.T) {
	parts := []string{"a", "b", "\"C\"", "1", "'x'", "null", "true", "not", "and", "or", "=", "<", "<>", "+", "-", "*", "(", ")", "is null", "is", ",", "select"}
	random := rand.New(rand.NewSource(9))
	for range 60000 {
		var s []string
		for range random.Intn(14) {
			s = append(s, parts[random.Intn(len(parts))])
		}
		list := tokensOf(t, strings.Join(s, " "))
		for at := range list {
			e, next := impl.ParseExpr(list, at)
			if next == -1 {
				checkNone(t, list, at)
				continue
			}
			if next <= at || next > len(list) || !impl.ExprOk(e) {
				t.Fatalf("ParseExpr(%s, %d) = %v, %d", shown(list), at, e, next)
			}
			checkRecovered(t, e)
			if again, end := impl.ParseExpr(list[:next], at); end != next || !sameExpr(again, e) {
				t.Fatalf("without what follows, %s at %d is read as %v up to %d", shown(list), at, again, end)
			}
		}
	}
}
