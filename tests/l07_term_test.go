package tests

import (
	"math"
	"runtime/debug"
	"slices"
	"strings"
	"testing"

	"loop.example/g00587/impl"
)

func eVar(name string) impl.Term { return impl.Term{Kind: impl.TeVar, Name: name} }

func eInt(n int) impl.Term { return impl.Term{Kind: impl.TeInt, N: n} }

func eBool(n int) impl.Term { return impl.Term{Kind: impl.TeBool, N: n} }

func eOp(op string, args ...impl.Term) impl.Term {
	return impl.Term{Kind: impl.TeOp, Name: op, Args: args}
}

// eRec returns the record whose labels are those of a text, separated by spaces.
func eRec(labels string, args ...impl.Term) impl.Term {
	return impl.Term{Kind: impl.TeRec, Labels: strings.Fields(labels), Args: args}
}

func eProj(e impl.Term, label string) impl.Term {
	return impl.Term{Kind: impl.TeProj, Name: label, Args: []impl.Term{e}}
}

func eEmpty(t impl.Type) impl.Term { return impl.Term{Kind: impl.TeEmpty, Type: t} }

func eOne(e impl.Term) impl.Term { return eNode(impl.TeOne, e) }

func eUnion(a, b impl.Term) impl.Term { return eNode(impl.TeUnion, a, b) }

func eFor(name string, bag, body impl.Term) impl.Term {
	return impl.Term{Kind: impl.TeFor, Name: name, Args: []impl.Term{bag, body}}
}

func eIf(c, a, b impl.Term) impl.Term { return eNode(impl.TeIf, c, a, b) }

func eTable(name string) impl.Term { return impl.Term{Kind: impl.TeTable, Name: name} }

func eLam(name string, t impl.Type, body impl.Term) impl.Term {
	return impl.Term{Kind: impl.TeLam, Name: name, Type: t, Args: []impl.Term{body}}
}

func eApp(f, arg impl.Term) impl.Term { return eNode(impl.TeApp, f, arg) }

func eNone(bag impl.Term) impl.Term { return eNode(impl.TeNone, bag) }

func eCount(bag impl.Term) impl.Term { return eNode(impl.TeCount, bag) }

func eNode(kind int, args ...impl.Term) impl.Term { return impl.Term{Kind: kind, Args: args} }

var (
	x0 = eVar("x")
	d0 = eTable("d")
)

// termsOfEachKind returns a term in the right form of each of the sixteen kinds, in their order.
func termsOfEachKind() []impl.Term {
	return []impl.Term{
		eVar("y"), eInt(7), eBool(1), eOp("+", eInt(1), x0), eRec("a b", eInt(1), x0), eProj(x0, "a"), eEmpty(bagOf(tInt)), eOne(x0),
		eUnion(d0, d0), eFor("y", d0, eOne(x0)), eIf(eBool(0), x0, eInt(2)), eTable("t1"), eLam("z", recOf("a", tInt), x0), eApp(x0, eInt(3)), eNone(d0), eCount(d0),
	}
}

// around returns the terms of one node more in which e stands in each place of each kind.
func around(e impl.Term) []impl.Term {
	return []impl.Term{
		eOp("!", e), eOp("&", e, x0), eOp("-", x0, e), eRec("a", e), eRec("a b c", e, x0, d0), eRec("a b c", x0, e, d0), eRec("a b c", x0, d0, e), eProj(e, "a"), eOne(e),
		eUnion(e, d0), eUnion(d0, e), eFor("x", e, d0), eFor("x", d0, e), eIf(e, d0, x0), eIf(x0, e, d0), eIf(x0, d0, e), eLam("x", tInt, e), eApp(e, x0), eApp(x0, e), eNone(e), eCount(e),
	}
}

// The following are the sentences of the document, each by a recursion over the term.

func nodesOfTerm(e impl.Term) int {
	n := 1
	for _, a := range e.Args {
		n += nodesOfTerm(a)
	}
	return n
}

func depthOfTerm(e impl.Term) int {
	d := 0
	for _, a := range e.Args {
		d = max(d, depthOfTerm(a))
	}
	return d + 1
}

// sameTerm is EqualTerm by a recursion.
func sameTerm(a, b impl.Term) bool {
	return a.Kind == b.Kind && a.Name == b.Name && a.N == b.N && sameType(a.Type, b.Type) && slices.Equal(a.Labels, b.Labels) && slices.EqualFunc(a.Args, b.Args, sameTerm)
}

// onlyHas says whether e, but for its Args, is a node with nothing but what it is made of here, and has n Args.
func onlyHas(e, made impl.Term, n int) bool {
	made.Args = e.Args
	return len(e.Args) == n && sameTerm(e, made)
}

func termNodeIsValid(e impl.Term) bool {
	named := impl.Term{Kind: e.Kind, Name: e.Name}
	name := nameByItsBytes(e.Name)
	switch e.Kind {
	case impl.TeVar, impl.TeTable:
		return name && onlyHas(e, named, 0)
	case impl.TeInt:
		return onlyHas(e, eInt(e.N), 0) && 0 <= e.N && e.N < 1000
	case impl.TeBool:
		return onlyHas(e, eBool(0), 0) || onlyHas(e, eBool(1), 0)
	case impl.TeOp:
		return e.Name == "!" && onlyHas(e, named, 1) || slices.Contains(strings.Fields("+ - = < & |"), e.Name) && onlyHas(e, named, 2)
	case impl.TeRec:
		record := node(impl.TyRec, e.Labels, slices.Repeat([]impl.Type{tInt}, len(e.Labels))...)
		return onlyHas(e, impl.Term{Kind: impl.TeRec, Labels: e.Labels}, len(e.Labels)) && validBySentences(record)
	case impl.TeProj:
		return name && onlyHas(e, named, 1)
	case impl.TeEmpty:
		return onlyHas(e, eEmpty(e.Type), 0) && validBySentences(e.Type)
	case impl.TeOne, impl.TeNone, impl.TeCount:
		return onlyHas(e, eNode(e.Kind), 1)
	case impl.TeUnion, impl.TeApp:
		return onlyHas(e, eNode(e.Kind), 2)
	case impl.TeFor:
		return name && onlyHas(e, named, 2)
	case impl.TeIf:
		return onlyHas(e, eNode(e.Kind), 3)
	case impl.TeLam:
		return name && onlyHas(e, eLam(e.Name, e.Type, x0), 1) && validBySentences(e.Type)
	}
	return false
}

func termNodesAreValid(e impl.Term) bool {
	return termNodeIsValid(e) && !slices.ContainsFunc(e.Args, func(a impl.Term) bool { return !termNodesAreValid(a) })
}

func validTermBySentences(e impl.Term) bool {
	return nodesOfTerm(e) <= 60 && depthOfTerm(e) <= 16 && termNodesAreValid(e)
}

func tablesBySentences(e impl.Term) []string {
	var tables []string
	if e.Kind == impl.TeTable {
		tables = []string{e.Name}
	}
	for _, a := range e.Args {
		for _, name := range tablesBySentences(a) {
			if !slices.Contains(tables, name) {
				tables = append(tables, name)
			}
		}
	}
	return tables
}

// checkTerm compares all that is counted and asked of a term with the sentences above.
func checkTerm(t *testing.T, e impl.Term) {
	t.Helper()
	if got, want := impl.SizeOfTerm(e), nodesOfTerm(e); got != want {
		t.Errorf("SizeOfTerm(%v) = %d, want %d", e, got, want)
	}
	if got, want := impl.DepthOfTerm(e), depthOfTerm(e); got != want {
		t.Errorf("DepthOfTerm(%v) = %d, want %d", e, got, want)
	}
	if got, want := impl.IsValidTerm(e), validTermBySentences(e); got != want {
		t.Errorf("IsValidTerm(%v) = %v", e, got)
	}
	if got, want := impl.TablesIn(e), tablesBySentences(e); !slices.Equal(got, want) {
		t.Errorf("TablesIn(%v) = %q, want %q", e, got, want)
	}
	if !impl.EqualTerm(e, termWithSpare(e)) {
		t.Errorf("EqualTerm(%v, the same) = false", e)
	}
}

// checkValidTerm also says what the answer is, so that the sentences above are tested too.
func checkValidTerm(t *testing.T, e impl.Term, want bool) {
	t.Helper()
	checkTerm(t, e)
	if got := impl.IsValidTerm(e); got != want {
		t.Errorf("IsValidTerm(%v) = %v", e, got)
	}
}

// checkTerms checks terms that are valid, at the top and further inside.
func checkTerms(t *testing.T, list ...impl.Term) {
	t.Helper()
	checkInside(t, true, list)
}

// checkNoTerms checks terms that are not valid, at the top and further inside.
func checkNoTerms(t *testing.T, list ...impl.Term) {
	t.Helper()
	checkInside(t, false, list)
}

func checkInside(t *testing.T, want bool, list []impl.Term) {
	t.Helper()
	for _, e := range list {
		checkValidTerm(t, e, want)
		for i, whole := range around(e) {
			checkValidTerm(t, whole, want)
			checkValidTerm(t, around(whole)[(5*i+3)%21], want)
		}
	}
}

func checkTables(t *testing.T, e impl.Term, names string) {
	t.Helper()
	checkTerm(t, e)
	if got := impl.TablesIn(e); !slices.Equal(got, strings.Fields(names)) {
		t.Errorf("TablesIn(%v) = %q, want %s", e, got, names)
	}
}

func checkEqualTerms(t *testing.T, a, b impl.Term, want bool) {
	t.Helper()
	if sameTerm(a, b) != want {
		t.Errorf("the sentences do not say %v of %v and %v", want, a, b)
	}
	if impl.EqualTerm(a, b) != want || impl.EqualTerm(b, a) != want {
		t.Errorf("EqualTerm(%v, %v) = %v, %v the other way round", a, b, impl.EqualTerm(a, b), impl.EqualTerm(b, a))
	}
}

func TestConstantsOfTerms(t *testing.T) {
	if impl.MaxSize != 60 || impl.MaxDepth != 16 || impl.MaxNumber != 999 {
		t.Error("limits")
	}
	kinds := []int{impl.TeVar, impl.TeInt, impl.TeBool, impl.TeOp, impl.TeRec, impl.TeProj, impl.TeEmpty, impl.TeOne, impl.TeUnion, impl.TeFor, impl.TeIf, impl.TeTable, impl.TeLam, impl.TeApp, impl.TeNone, impl.TeCount}
	for i, k := range kinds {
		if k != i+1 {
			t.Errorf("kind %d is %d", i+1, k)
		}
	}
}

func TestOpArity(t *testing.T) {
	arity := map[string]int{"+": 2, "-": 2, "=": 2, "<": 2, "&": 2, "|": 2, "!": 1}
	words := stringsOver("+-=<&|!>a *", 2)
	for b := range 256 {
		words = append(words, string([]byte{byte(b)}))
	}
	for _, s := range append(words, "and", "not", "!!!", "+\x00", "＋", "−", "if", "==", "<=", "&&", "||", "++", strings.Repeat("+", 100000)) {
		if got := impl.OpArity(s); got != arity[s] {
			t.Errorf("OpArity(%.20q) = %d, want %d", s, got, arity[s])
		}
	}
}

func TestTermsOfEachKind(t *testing.T) {
	for i, e := range termsOfEachKind() {
		if e.Kind != i+1 {
			t.Fatal("kind", e.Kind)
		}
		checkTerms(t, e)
	}
	checkTerms(t, eOp("-", x0, x0), eOp("=", x0, d0), eOp("<", x0, eInt(1)), eOp("&", eBool(1), x0), eOp("|", x0, eBool(0)), eOp("!", x0), eOp("!", eOp("!", eBool(1))),
		// Forms alone count: these have no type.
		eOp("+", d0, eBool(1)), eProj(eInt(1), "a"), eUnion(eInt(1), eBool(0)), eFor("x", eInt(1), eInt(2)), eIf(eInt(1), eInt(2), d0), eApp(eInt(1), d0), eNone(eBool(1)), eCount(eRec("a", x0)))
	checkNoTerms(t, impl.Term{})
}

func TestSizeAndDepthOfTerms(t *testing.T) {
	row := recOf("a b c", tInt, tBool, tInt)
	loop := eFor("x", d0, eOne(x0))
	for _, c := range []struct {
		e           impl.Term
		size, depth int
	}{
		{x0, 1, 1}, {eInt(5), 1, 1}, {eBool(1), 1, 1}, {d0, 1, 1}, {impl.Term{}, 1, 1},
		// The nodes of a type do not count.
		{eEmpty(tInt), 1, 1}, {eEmpty(bagOf(bagOf(row))), 1, 1}, {eLam("x", bagOf(row), x0), 2, 2}, {impl.Term{Kind: impl.TeVar, Type: bagOf(row)}, 1, 1},
		{eOne(x0), 2, 2}, {eProj(x0, "a"), 2, 2}, {eNone(d0), 2, 2}, {eCount(d0), 2, 2}, {eOp("!", x0), 2, 2}, {eOp("+", x0, x0), 3, 2},
		{eRec("a b c d", x0, x0, x0, x0), 5, 2}, {eUnion(d0, d0), 3, 2}, {loop, 4, 3}, {eIf(x0, d0, d0), 4, 2}, {eApp(x0, d0), 3, 2},
		{eApp(eLam("x", tInt, eOne(x0)), eInt(1)), 5, 4}, {eApp(eInt(1), eLam("x", tInt, eOne(x0))), 5, 4},
		{eIf(eNone(loop), loop, d0), 11, 5}, {eIf(x0, eNone(loop), loop), 11, 5}, {eIf(x0, loop, eNone(loop)), 11, 5},
		{eRec("a b", loop, eRec("c", eCount(loop))), 11, 6}, {eUnion(eUnion(loop, loop), loop), 14, 5},
		// Terms that are not valid are counted as well.
		{eNode(0), 1, 1}, {eNode(17, x0, loop), 6, 4}, {eNode(-3, x0, x0, x0), 4, 2}, {eNode(impl.TeVar, loop), 5, 4}, {eNode(impl.TeInt, x0, d0), 3, 2}, {eNode(impl.TeTable, loop, loop), 9, 4},
		{eNode(impl.TeEmpty, x0), 2, 2}, {eNode(impl.TeRec), 1, 1}, {eRec("a b c"), 1, 1}, {eRec("", x0, x0), 3, 2}, {eOp("*", x0, x0, loop), 7, 4}, {eOp(""), 1, 1}, {eNode(impl.TeUnion), 1, 1}, {eNode(impl.TeIf, x0), 2, 2},
		{eNode(impl.TeOne, make([]impl.Term, 99)...), 100, 2}, {eNode(9, make([]impl.Term, 100000)...), 100001, 2},
	} {
		if size, depth := impl.SizeOfTerm(c.e), impl.DepthOfTerm(c.e); size != c.size || depth != c.depth {
			t.Errorf("%v: size %d, depth %d", c.e, size, depth)
		}
		checkTerm(t, c.e)
		for _, whole := range around(c.e) {
			if size, depth := impl.SizeOfTerm(whole), impl.DepthOfTerm(whole); size != len(whole.Args)+c.size || depth != c.depth+1 {
				t.Errorf("%v: size %d, depth %d", whole, size, depth)
			}
		}
	}
}

// inRow returns a term of n nodes that is a union of unions, of a small depth.
func inRow(n int) impl.Term {
	switch n {
	case 1:
		return eInt(1)
	case 2:
		return eOne(eInt(1))
	}
	return eUnion(inRow((n-1)/2), inRow(n-1-(n-1)/2))
}

func TestTermsOfTheGreatestSize(t *testing.T) {
	for n := 1; n < 130; n++ {
		e := inRow(n)
		if nodesOfTerm(e) != n || depthOfTerm(e) > 8 {
			t.Fatal("size", n, nodesOfTerm(e), depthOfTerm(e))
		}
		checkValidTerm(t, e, n <= 60)
		for _, whole := range around(e) {
			checkValidTerm(t, whole, n+len(whole.Args) <= 60)
			checkValidTerm(t, eOp("+", whole, inRow(20)), n+len(whole.Args)+21 <= 60)
			checkValidTerm(t, eIf(inRow(10), inRow(10), whole), n+len(whole.Args)+21 <= 60)
		}
	}
	// Types do not count: each of these has 24 nodes and the depth 7.
	large := bagOf(bagOf(bagOf(recOf("a b c d", recOf("a b c d", tInt, tInt, tInt, tInt), recOf("a b c d", tInt, tInt, tInt, tInt), recOf("a b c d", tInt, tInt, tInt, tInt), recOf("a b c", tInt, tInt, bagOf(tInt))))))
	if sizeByParts(large) != 24 || depthByParts(large) != 7 {
		t.Fatal(sizeByParts(large), depthByParts(large))
	}
	four := eRec("a b c d", eEmpty(large), eEmpty(large), eEmpty(large), eEmpty(large))
	twelve := eRec("a b c d", four, four, four, four)
	full := eRec("a b c d", twelve, twelve, four, eRec("a b c d", four, eEmpty(large), eLam("x", large, eEmpty(large)), eEmpty(large)))
	if nodesOfTerm(full) != 58 {
		t.Fatal(nodesOfTerm(full))
	}
	checkValidTerm(t, full, true)
	checkValidTerm(t, eOne(full), true)
	checkValidTerm(t, eLam("x", large, eOne(full)), true)
	checkValidTerm(t, eOne(eLam("x", large, eOne(full))), false)
}

func TestTermsOfTheGreatestDepth(t *testing.T) {
	for place := range around(x0) {
		for _, leaf := range []impl.Term{x0, eEmpty(bagOf(bagOf(tInt))), eTable("t")} {
			e := leaf
			for depth := 1; depth < 24; depth++ {
				if depthOfTerm(e) != depth {
					t.Fatal("depth", depth)
				}
				checkValidTerm(t, e, depth <= 16 && nodesOfTerm(e) <= 60)
				e = around(e)[place]
			}
		}
	}
	deepest := x0
	for range 14 {
		deepest = eOne(deepest)
	}
	for _, whole := range around(deepest) {
		checkValidTerm(t, whole, true)
		for _, beyond := range around(whole) {
			checkValidTerm(t, beyond, false)
		}
	}
}

// namesOfNone are words that are the name of no variable, field or table.
var namesOfNone = []string{
	"", "if", "for", "abcde", "x1234", "A", "aB", "Ab", "1", "1a", "0", "_", "a_", " a", "a ", "a b", "a.b", "@d", "#t", "a,", "é", "aé", "\xff", "a\xff", "\x00", "a\x00", "a\n",
	"+", "-", "=", "<", "&", "|", "!", "*", "++", "for ", "IF", "For",
}

// withName returns e with another Name.
func withName(e impl.Term, name string) impl.Term {
	e.Name = name
	return e
}

func TestNamesOfTerms(t *testing.T) {
	for _, e := range termsOfEachKind() {
		switch e.Kind {
		case impl.TeVar, impl.TeProj, impl.TeFor, impl.TeTable, impl.TeLam:
			for _, name := range []string{"a", "z", "x9", "abcd", "x123", "fo", "iff", "for1", "if0", "i", "t", "e", "d"} {
				checkTerms(t, withName(e, name))
			}
			for _, name := range namesOfNone {
				checkNoTerms(t, withName(e, name))
			}
		case impl.TeOp:
		default:
			checkTerms(t, withName(e, ""))
			for _, name := range append([]string{"a", "x", "abcd", " ", "+", "!", "a b"}, namesOfNone[1:]...) {
				checkNoTerms(t, withName(e, name))
			}
		}
	}
	checkValidTerm(t, eVar(strings.Repeat("a", 1<<20)), false)
}

func TestOperations(t *testing.T) {
	for args := range 5 {
		list := []impl.Term{x0, eInt(1), d0, eBool(1)}[:args]
		for _, op := range []string{"+", "-", "=", "<", "&", "|"} {
			if args == 2 {
				checkTerms(t, eOp(op, list...))
			} else {
				checkNoTerms(t, eOp(op, list...))
			}
		}
		if args == 1 {
			checkTerms(t, eOp("!", list...))
		} else {
			checkNoTerms(t, eOp("!", list...))
		}
		for _, op := range []string{"", "*", "/", ">", "<=", ">=", "==", "!=", "++", "--", "&&", "||", "!!", "+ ", " +", "-1", "a", "x", "not", "and", "if", "for", "+-", "\x00", "\xff", "＋", "#t", "@", "0"} {
			checkNoTerms(t, eOp(op, list...))
		}
	}
}

// withN returns e with another number.
func withN(e impl.Term, n int) impl.Term {
	e.N = n
	return e
}

func TestNumbersOfTerms(t *testing.T) {
	others := []int{-1, -2, -999, 1000, 1001, 9999, 256 * 256, 1 << 32, 1<<32 + 1, math.MaxInt, math.MinInt}
	for _, e := range termsOfEachKind() {
		greatest := map[int]int{impl.TeInt: 999, impl.TeBool: 1}[e.Kind]
		for _, n := range append([]int{0, 1, 2, 3, 7, 10, 99, 100, 255, 256, 257, 998, 999}, others...) {
			if 0 <= n && n <= greatest {
				checkTerms(t, withN(e, n))
			} else {
				checkNoTerms(t, withN(e, n))
			}
		}
	}
	for n := -100; n < 1100; n++ {
		checkValidTerm(t, eInt(n), 0 <= n && n <= 999)
		checkValidTerm(t, eBool(n), n == 0 || n == 1)
	}
}

// withType returns e with another Type.
func withType(e impl.Term, x impl.Type) impl.Term {
	e.Type = x
	return e
}

func TestTypesOfTerms(t *testing.T) {
	four := recOf("a b c d", tInt, tInt, tInt, tInt)
	right := []impl.Type{tInt, tBool, bagOf(tInt), recOf("a", tInt), recOf("a b", tInt, bagOf(tBool)), funOf(tInt, tBool), funOf(bagOf(tInt), funOf(tInt, tInt)), nestedType(6, tInt, bagOf), recOf("a b c d", four, four, four, recOf("a", recOf("a b c", tInt, tInt, tInt)))}
	wrong := []impl.Type{
		node(6, nil), node(-1, nil), node(0, []string{"a"}), node(0, []string{""}), node(0, nil, tInt), node(0, nil, impl.Type{}), node(0, nil, tInt, tInt), node(0, []string{"a"}, tInt), node(99, nil, tInt),
		node(impl.TyInt, []string{"a"}), node(impl.TyInt, nil, tInt), node(impl.TyBool, nil, tInt), node(impl.TyBag, nil), node(impl.TyBag, nil, tInt, tInt), node(impl.TyFun, nil, tInt), node(impl.TyBag, []string{"a"}, tInt),
		node(impl.TyRec, nil), recOf("a"), recOf("b a", tInt, tInt), recOf("a a", tInt, tInt), recOf("if", tInt), recOf("a b c d e", tInt, tInt, tInt, tInt, tInt),
		bagOf(impl.Type{}), funOf(impl.Type{}, tInt), funOf(tInt, impl.Type{}), recOf("a", impl.Type{}), bagOf(funOf(tInt, tInt)), recOf("a", funOf(tInt, tInt)), bagOf(bagOf(node(9, nil))),
		nestedType(7, tInt, bagOf), recOf("a b c d", four, four, four, recOf("a b c d", tInt, tInt, tInt, four)),
	}
	for _, e := range termsOfEachKind() {
		switch e.Kind {
		case impl.TeEmpty, impl.TeLam:
			for _, x := range right {
				checkTerms(t, withType(e, x))
			}
			checkNoTerms(t, withType(e, impl.Type{}), withType(e, emptied(impl.Type{})))
		default:
			for _, x := range right {
				checkNoTerms(t, withType(e, x))
			}
			checkTerms(t, withType(e, impl.Type{}), withType(e, emptied(impl.Type{})))
		}
		for _, x := range wrong {
			checkNoTerms(t, withType(e, x))
		}
	}
}

// withLabels returns e with other Labels.
func withLabels(e impl.Term, labels ...string) impl.Term {
	e.Labels = labels
	return e
}

func TestLabelsOfTerms(t *testing.T) {
	for _, e := range termsOfEachKind() {
		if e.Kind != impl.TeRec {
			checkTerms(t, withLabels(e), withLabels(e, []string{}...))
			checkNoTerms(t, withLabels(e, "a"), withLabels(e, ""), withLabels(e, "a", "b"), withLabels(e, "a", "b", "c"), withLabels(e, "b", "a"), withLabels(e, "if"), withLabels(e, slices.Repeat([]string{"a"}, 50)...))
		}
	}
	names := []string{"a", "a0", "ab", "b", "c", "d", "e", "f"}
	for labels := range 8 {
		for args := range 8 {
			e := withLabels(eNode(impl.TeRec, slices.Repeat([]impl.Term{eInt(1)}, args)...), names[:labels]...)
			if labels == args && 1 <= labels && labels <= 4 {
				checkTerms(t, e)
			} else {
				checkNoTerms(t, e)
			}
		}
	}
	for _, name := range []string{"a", "z", "x9", "abcd", "fo", "iff"} {
		checkTerms(t, withLabels(eNode(impl.TeRec, x0), name))
	}
	for _, name := range namesOfNone {
		checkNoTerms(t, withLabels(eNode(impl.TeRec, x0), name), withLabels(eNode(impl.TeRec, x0, d0), name, "m"), withLabels(eNode(impl.TeRec, x0, d0), "m", name), withLabels(eNode(impl.TeRec, x0, d0, x0), "a", name, "z"))
	}
	for _, labels := range []string{"a b", "a ab", "a10 a9", "a0 aa", "a b c", "a aa ab b", "a b c d"} {
		checkTerms(t, eRec(labels, slices.Repeat([]impl.Term{x0}, len(strings.Fields(labels)))...))
	}
	for _, labels := range []string{"a a", "b a", "a b b", "a a b", "a c b", "b a c", "a b a", "a b c c", "a b d c", "d c b a", "a b c a", "ab a", "a9 a10", "a b c d e", "a b c d d"} {
		checkNoTerms(t, eRec(labels, slices.Repeat([]impl.Term{x0}, len(strings.Fields(labels)))...))
	}
}

func TestTermsWithOtherNumbersOfArgs(t *testing.T) {
	for _, e := range termsOfEachKind() {
		right := len(e.Args)
		for args := range 8 {
			for _, arg := range []impl.Term{x0, d0, eOne(eInt(1))} {
				e.Args = slices.Repeat([]impl.Term{arg}, args)
				if args == right {
					checkTerms(t, e)
				} else {
					checkNoTerms(t, e)
				}
			}
		}
	}
}

func TestTermsOfOtherKinds(t *testing.T) {
	for _, kind := range []int{0, -1, -2, -7, -12, -16, 17, 18, 19, 32, 100, -100, 256 + 1, 256 + 12, 1<<32 + 1, 1<<32 + 8, math.MaxInt, math.MinInt} {
		checkNoTerms(t, eNode(kind), eNode(kind, x0), eNode(kind, x0, d0), eNode(kind, x0, d0, x0), eNode(kind, eNode(kind)))
		for _, e := range termsOfEachKind() {
			e.Kind = kind
			checkNoTerms(t, e)
		}
	}
	// Each kind has its own form.
	for _, e := range termsOfEachKind() {
		for kind := range 18 {
			e.Kind = kind
			checkTerm(t, e)
		}
	}
}

func TestTermsWithOneWrongNode(t *testing.T) {
	right := eFor("x", eUnion(d0, eEmpty(recOf("a", tInt))), eIf(eOp("<", eProj(x0, "a"), eCount(d0)), eOne(eRec("a b", eApp(eLam("y", tInt, eVar("y")), eInt(3)), eOp("!", eNone(d0)))), eOne(eBool(1))))
	if nodesOfTerm(right) != 21 {
		t.Fatal(nodesOfTerm(right))
	}
	checkTerms(t, right)
	var replaced func(e impl.Term) []impl.Term
	replaced = func(e impl.Term) []impl.Term {
		longer := e
		longer.Args = append(slices.Clone(e.Args), x0)
		out := []impl.Term{{}, eNode(17), eInt(1000), eVar("if"), longer, withN(e, 1001), withName(e, "IF"), withLabels(e, "q", "p"), withType(e, node(6, nil))}
		for i, a := range e.Args {
			for _, r := range replaced(a) {
				whole := e
				whole.Args = slices.Replace(slices.Clone(e.Args), i, i+1, r)
				out = append(out, whole)
			}
		}
		return out
	}
	for _, e := range replaced(right) {
		checkValidTerm(t, e, false)
	}
}

// termsOver returns all terms of at most max nodes, each of which is one of heads with Args.
func termsOver(heads []impl.Term, max int) []impl.Term {
	return treesOver(max, func(args []impl.Term) []impl.Term {
		terms := slices.Clone(heads)
		for i := range terms {
			terms[i].Args = args
		}
		return terms
	})
}

// headsOver returns all nodes, without Args, whose fields are given.
func headsOver(kinds []int, names []string, numbers []int, types []impl.Type, labels []string) []impl.Term {
	var heads []impl.Term
	for _, k := range kinds {
		for _, name := range names {
			for _, n := range numbers {
				for _, x := range types {
					for _, l := range labels {
						heads = append(heads, impl.Term{Kind: k, Name: name, N: n, Type: x, Labels: strings.Fields(l)})
					}
				}
			}
		}
	}
	return heads
}

func allKinds() []int {
	var kinds []int
	for k := -1; k <= 18; k++ {
		kinds = append(kinds, k)
	}
	return kinds
}

func TestAllSmallTerms(t *testing.T) {
	valid := map[int]int{}
	check := func(list []impl.Term) {
		for _, e := range list {
			checkTerm(t, e)
			if impl.IsValidTerm(e) {
				valid[e.Kind]++
			}
		}
	}
	heads := headsOver(allKinds(), []string{"", "a", "+", "!", "if"}, []int{0, 1, 2, -1, 1000}, []impl.Type{{}, tInt, node(0, []string{"a"}), node(impl.TyBag, nil)}, []string{"", "a", "a b", "b a", "a b c"})
	for _, args := range [][]impl.Term{nil, {x0}, {x0, d0}, {d0, x0, eInt(1)}, {x0, d0, d0, x0}, {x0, {}}, {eInt(1000)}} {
		list := slices.Clone(heads)
		for i := range list {
			list[i].Args = args
		}
		check(list)
	}
	check(termsOver(headsOver(allKinds(), []string{"", "a", "!"}, []int{0}, []impl.Type{{}, tInt}, []string{"", "a"}), 2))
	check(termsOver(headsOver([]int{1, 4, 5, 8, 9, 12, 14}, []string{"", "a", "+"}, []int{0}, []impl.Type{{}}, []string{"", "a b"}), 3))
	for k := impl.TeVar; k <= impl.TeCount; k++ {
		if valid[k] == 0 {
			t.Errorf("no valid term of the kind %d", k)
		}
	}
}

func TestTablesIn(t *testing.T) {
	a, b, c := eTable("a"), eTable("b"), eTable("c")
	for _, e := range []impl.Term{x0, eInt(1), eBool(1), eEmpty(tInt), eVar("d"), impl.Term{}, eProj(eVar("t"), "d"), eRec("d", eInt(1)), eLam("d", tInt, eVar("d")), eOp("+", eVar("a"), eVar("b"))} {
		checkTables(t, e, "")
		if len(impl.TablesIn(e)) != 0 {
			t.Errorf("TablesIn(%v) = %q", e, impl.TablesIn(e))
		}
	}
	checkTables(t, a, "a")
	for _, whole := range around(eUnion(b, a)) {
		checkTerm(t, whole)
	}
	checkTables(t, eUnion(a, b), "a b")
	checkTables(t, eUnion(b, a), "b a")
	checkTables(t, eUnion(a, a), "a")
	checkTables(t, eUnion(eUnion(b, a), b), "b a")
	checkTables(t, eUnion(b, eUnion(a, b)), "b a")
	checkTables(t, eUnion(eUnion(c, b), a), "c b a")
	checkTables(t, eUnion(c, eUnion(b, a)), "c b a")
	// Depth does not count: what is deep inside the first one precedes the second one.
	checkTables(t, eUnion(eOne(eOne(eCount(c))), a), "c a")
	checkTables(t, eUnion(a, eOne(eOne(eCount(c)))), "a c")
	checkTables(t, eFor("x", b, eFor("y", a, eUnion(c, b))), "b a c")
	checkTables(t, eFor("a", eFor("y", c, a), eFor("y", a, b)), "c a b")
	checkTables(t, eIf(eNone(c), b, a), "c b a")
	checkTables(t, eIf(eNone(b), b, eUnion(a, c)), "b a c")
	checkTables(t, eRec("x y z", c, eCount(a), b), "c a b")
	checkTables(t, eApp(eLam("x", tInt, c), b), "c b")
	checkTables(t, eApp(b, eLam("x", tInt, c)), "b c")
	checkTables(t, eOp("<", eCount(c), eCount(b)), "c b")
	// Variables and fields with the names of tables are none.
	checkTables(t, eFor("a", b, eOne(eRec("a c", eProj(eVar("a"), "b"), eVar("c")))), "b")
	checkTables(t, eUnion(eVar("b"), eUnion(eProj(eVar("c"), "a"), b)), "b")
	checkTables(t, eUnion(eVar("a"), eUnion(b, a)), "b a")
}

func TestTablesInTermsThatAreNotValid(t *testing.T) {
	a, b := eTable("a"), eTable("b")
	checkTables(t, eNode(0, b, a), "b a")
	checkTables(t, eNode(17, eNode(-1, b), a), "b a")
	checkTables(t, eNode(impl.TeVar, a, b, a), "a b")
	checkTables(t, eNode(impl.TeIf, b), "b")
	checkTables(t, eNode(impl.TeCount, b, a), "b a")
	checkTables(t, withN(b, 5), "b")
	checkTables(t, withType(withLabels(b, "a"), tInt), "b")
	// A table occurs before what stands in its Args.
	inside := eTable("t")
	inside.Args = []impl.Term{b, eUnion(a, eTable("t"))}
	checkTables(t, inside, "t b a")
	checkTables(t, eUnion(a, inside), "a t b")
	for _, kind := range []int{0, -12, 11, 13, 24, 256 + 12, 1<<32 + 12} {
		checkTables(t, impl.Term{Kind: kind, Name: "d"}, "")
	}
	names := []string{"", "A", "if", "+", "for", "abcde", "@a", "\xff", "a b", "", "\xff", "a"}
	var all []impl.Term
	for _, name := range names {
		all = append(all, eTable(name))
	}
	if got := impl.TablesIn(eNode(impl.TeRec, all...)); !slices.Equal(got, []string{"", "A", "if", "+", "for", "abcde", "@a", "\xff", "a b", "a"}) {
		t.Errorf("TablesIn = %q", got)
	}
	if got := impl.TablesIn(eTable("")); len(got) != 1 || got[0] != "" {
		t.Errorf("TablesIn = %q", got)
	}
	// More tables than a valid term has nodes.
	var many []impl.Term
	for i := range 3000 {
		many = append(many, eTable(impl.FormatInt(i%1000)))
	}
	got := impl.TablesIn(eNode(impl.TeUnion, many...))
	if len(got) != 1000 || got[0] != "0" || got[999] != "999" {
		t.Errorf("%d tables", len(got))
	}
}

// termVariants returns terms that differ from e in one field, at the top, in the Type, or further inside.
func termVariants(e impl.Term) []impl.Term {
	out := []impl.Term{
		withName(e, e.Name+"0"), withName(e, "q"+e.Name), withN(e, e.N+1), withN(e, e.N-1), withN(e, e.N+1<<32),
		withLabels(e, append(slices.Clone(e.Labels), "z")...), withLabels(e, append([]string{""}, e.Labels...)...),
	}
	for _, by := range []int{1, -1, 17, -17, 256, 1 << 32} {
		other := e
		other.Kind += by
		out = append(out, other)
	}
	for _, x := range variants(e.Type) {
		out = append(out, withType(e, x))
	}
	withArgs := func(args []impl.Term) {
		other := e
		other.Args = args
		out = append(out, other)
	}
	withArgs(append(slices.Clone(e.Args), x0))
	withArgs(append([]impl.Term{{}}, e.Args...))
	for i, l := range e.Labels {
		out = append(out, withLabels(e, slices.Replace(slices.Clone(e.Labels), i, i+1, l+"0")...), withLabels(e, slices.Delete(slices.Clone(e.Labels), i, i+1)...))
	}
	for i, a := range e.Args {
		withArgs(slices.Delete(slices.Clone(e.Args), i, i+1))
		for _, v := range termVariants(a) {
			withArgs(slices.Replace(slices.Clone(e.Args), i, i+1, v))
		}
	}
	return out
}

func TestEqualTermOfTermsThatDifferInOneField(t *testing.T) {
	row := recOf("a b", tInt, bagOf(tBool))
	whole := impl.Term{Kind: 3, Name: "n", N: 4, Type: funOf(row, tInt), Labels: []string{"b", "a"}, Args: []impl.Term{x0, withType(withN(eRec("c", eEmpty(row), d0), -5), bagOf(tInt))}}
	list := append(termsOfEachKind(), impl.Term{}, whole, eOne(whole), eLam("x", row, eLam("y", funOf(row, row), eEmpty(row))), eFor("x", eFor("y", d0, d0), eIf(x0, d0, eUnion(d0, eOne(eRec("a b", x0, x0))))))
	for _, e := range list {
		checkEqualTerms(t, e, termWithSpare(e), true)
		for _, v := range termVariants(e) {
			checkEqualTerms(t, e, v, false)
		}
	}
	for i, a := range list {
		for j, b := range list {
			checkEqualTerms(t, a, b, i == j)
		}
	}
}

func TestEqualTermOfTermsWithTheSameNodes(t *testing.T) {
	for _, p := range [][2]impl.Term{
		{eUnion(x0, d0), eUnion(d0, x0)}, {eIf(x0, d0, eInt(1)), eIf(x0, eInt(1), d0)}, {eRec("a b", x0, d0), eRec("b a", x0, d0)}, {eRec("a b", x0, d0), eRec("a b", d0, x0)},
		{eFor("x", d0, eOne(x0)), eFor("y", d0, eOne(eVar("y")))}, {eLam("x", tInt, x0), eLam("y", tInt, eVar("y"))}, {eOp("+", eInt(1), eInt(2)), eOp("+", eInt(2), eInt(1))},
		{eOne(eCount(x0)), eCount(eOne(x0))}, {eVar("d"), d0}, {eInt(1), eBool(1)}, {eNone(d0), eCount(d0)}, {eApp(x0, d0), eUnion(x0, d0)}, {eProj(x0, "a"), eProj(x0, "b")}, {eEmpty(tInt), eEmpty(tBool)},
		{eLam("x", funOf(tInt, tBool), x0), eLam("x", funOf(tBool, tInt), x0)}, {eEmpty(recOf("a b", tInt, tInt)), eEmpty(recOf("b a", tInt, tInt))},
		// The nodes follow one another in the same order, but belong to other ones.
		{eNode(9, eNode(9, x0, x0), eNode(9)), eNode(9, eNode(9), eNode(9, x0, x0))}, {eNode(9, eNode(9, x0), x0), eNode(9, eNode(9, x0, x0))}, {eNode(8, eNode(8), x0), eNode(8, eNode(8, x0))},
		{withLabels(eInt(1), "a b"), withLabels(eInt(1), "a", "b")}, {withLabels(eInt(1), "a", ""), withLabels(eInt(1), "", "a")}, {withLabels(x0, "y"), withName(x0, "xy")},
	} {
		checkEqualTerms(t, p[0], p[1], false)
	}
}

func TestAllSmallTermsInPairs(t *testing.T) {
	all := termsOver(headsOver([]int{1, 4}, []string{"", "a"}, []int{0, 1}, []impl.Type{{}, tInt}, []string{"", "a"}), 2)
	all = append(all, termsOver([]impl.Term{{Kind: 2}, {Kind: 2, Name: "b"}, {Kind: 5}}, 4)...)
	for i, a := range all {
		for j, b := range all {
			if got := impl.EqualTerm(a, b); got != (i == j) {
				t.Fatalf("EqualTerm(%v, %v) = %v", a, b, got)
			}
		}
	}
}

// emptiedTerm returns e with empty slices in place of nil ones.
func emptiedTerm(e impl.Term) impl.Term {
	out := withType(withLabels(e, append([]string{}, e.Labels...)...), emptied(e.Type))
	out.Args = []impl.Term{}
	for _, a := range e.Args {
		out.Args = append(out.Args, emptiedTerm(a))
	}
	return out
}

// nilledTerm returns e with nil slices in place of empty ones.
func nilledTerm(e impl.Term) impl.Term {
	out := withType(withLabels(e, append([]string(nil), e.Labels...)...), nilledType(e.Type))
	out.Args = nil
	for _, a := range e.Args {
		out.Args = append(out.Args, nilledTerm(a))
	}
	return out
}

func nilledType(x impl.Type) impl.Type {
	out := impl.Type{Kind: x.Kind, Labels: append([]string(nil), x.Labels...)}
	for _, a := range x.Args {
		out.Args = append(out.Args, nilledType(a))
	}
	return out
}

func TestNilAndEmptySlicesOfTerms(t *testing.T) {
	row := recOf("a b", tInt, bagOf(tBool))
	list := append(termsOfEachKind(), impl.Term{}, eRec(""), eRec("a"), eNode(0, x0), withType(eOne(x0), row), withLabels(eOne(x0), "a"), eNode(impl.TeUnion), eOp("+"), eFor("x", eEmpty(row), eLam("y", funOf(row, tInt), eRec("c", x0))))
	for _, e := range list {
		empty, none := emptiedTerm(e), nilledTerm(e)
		checkEqualTerms(t, empty, none, true)
		checkEqualTerms(t, e, empty, true)
		checkEqualTerms(t, e, none, true)
		checkTerm(t, empty)
		checkTerm(t, none)
		if impl.IsValidTerm(empty) != impl.IsValidTerm(none) {
			t.Errorf("%v is judged otherwise with empty slices", e)
		}
	}
}

// termWithSpare returns e in new memory, with unused capacity in every slice.
func termWithSpare(e impl.Term) impl.Term {
	out := withType(e, withSpare(e.Type))
	out.Labels, _ = argument(e.Labels...)
	out.Args = make([]impl.Term, len(e.Args), len(e.Args)+2)
	for i, a := range e.Args {
		out.Args[i] = termWithSpare(a)
	}
	for i := len(e.Args); i < cap(out.Args); i++ {
		out.Args[:cap(out.Args)][i] = impl.Term{Kind: impl.TeTable, Name: spare}
	}
	return out
}

// wholeTerm returns e with the unused capacity of its slices, all in new memory.
func wholeTerm(e impl.Term) impl.Term {
	out := withType(withLabels(e, slices.Clone(e.Labels[:cap(e.Labels)])...), wholeType(e.Type))
	out.Args = nil
	for _, a := range e.Args[:cap(e.Args)] {
		out.Args = append(out.Args, wholeTerm(a))
	}
	return out
}

// overwriteTerm changes all memory of e.
func overwriteTerm(e impl.Term) {
	for i := range e.Labels[:cap(e.Labels)] {
		e.Labels[:cap(e.Labels)][i] = "overwritten"
	}
	overwrite(e.Type)
	for i, a := range e.Args[:cap(e.Args)] {
		overwriteTerm(a)
		e.Args[:cap(e.Args)][i] = impl.Term{Kind: 77}
	}
}

func TestTermsAreKept(t *testing.T) {
	row := recOf("a b", tInt, bagOf(tBool))
	list := append(termsOfEachKind(), impl.Term{}, eNode(17, d0, x0), eFor("x", eUnion(d0, eTable("e")), eLam("y", funOf(row, tInt), eRec("b a", x0, eTable("d")))), eIf(eTable("b"), eTable("a"), eTable("b")))
	for _, e := range list {
		arg, other := termWithSpare(e), termWithSpare(e)
		before := wholeTerm(arg)
		impl.SizeOfTerm(arg)
		impl.DepthOfTerm(arg)
		impl.IsValidTerm(arg)
		impl.EqualTerm(arg, other)
		impl.EqualTerm(arg, eOne(arg))
		first, second := impl.TablesIn(arg), impl.TablesIn(arg)
		for i := range first[:cap(first)] {
			first[:cap(first)][i] = "overwritten"
		}
		if !slices.Equal(second, tablesBySentences(e)) {
			t.Errorf("TablesIn(%v) became %q", e, second)
		}
		if !sameTerm(wholeTerm(arg), before) || !sameTerm(wholeTerm(other), before) {
			t.Errorf("the memory of %v became %v", e, wholeTerm(arg))
		}
		third := impl.TablesIn(arg)
		overwriteTerm(arg)
		if !slices.Equal(third, second) {
			t.Errorf("the tables %q became %q", second, third)
		}
	}
}

// nestedTerm returns the term that whole makes of leaf, n times.
func nestedTerm(n int, leaf impl.Term, whole func(impl.Term) impl.Term) impl.Term {
	for range n {
		leaf = whole(leaf)
	}
	return leaf
}

func TestTermsBeyondAllLimits(t *testing.T) {
	within := []impl.Term{{Kind: impl.TeOne}}
	within[0].Args = within
	second := []impl.Term{x0, {Kind: impl.TeUnion}}
	second[1].Args = second
	twice := make([]impl.Term, 2)
	twice[0], twice[1] = eNode(impl.TeApp, twice...), eNode(impl.TeUnion, twice...)
	doubled := nestedTerm(200, x0, func(e impl.Term) impl.Term { return eUnion(e, e) })
	ofType := []impl.Type{{Kind: impl.TyBag}}
	ofType[0].Args = ofType
	for i, e := range []impl.Term{within[0], second[1], twice[0], doubled, eRec("a b", x0, doubled), eFor("x", doubled, d0), eEmpty(ofType[0]), eLam("x", ofType[0], x0), withType(x0, ofType[0])} {
		if impl.IsValidTerm(e) {
			t.Errorf("term %d is valid", i)
		}
		if impl.EqualTerm(e, impl.Term{}) || impl.EqualTerm(eOne(x0), e) {
			t.Errorf("term %d is equal to another one", i)
		}
	}
	// The first difference ends a comparison.
	if impl.EqualTerm(eRec("a b", x0, doubled), eRec("a b", d0, doubled)) {
		t.Error("equal")
	}
}

func TestDeepAndWideTerms(t *testing.T) {
	defer debug.SetMaxStack(debug.SetMaxStack(1 << 20))
	const n = 200000
	for place, deep := range map[string]impl.Term{
		"first": nestedTerm(n, d0, func(e impl.Term) impl.Term { return eUnion(e, x0) }),
		"last":  nestedTerm(n, d0, func(e impl.Term) impl.Term { return eFor("x", x0, e) }),
		"only":  nestedTerm(2*n, d0, eOne),
	} {
		other := nestedTerm(1, deep, eOne)
		if impl.SizeOfTerm(deep) != 2*n+1 || impl.DepthOfTerm(deep) != n+1 && place != "only" || impl.IsValidTerm(deep) || !impl.EqualTerm(deep, deep) || impl.EqualTerm(deep, other) {
			t.Error(place, impl.SizeOfTerm(deep), impl.DepthOfTerm(deep))
		}
		if got := impl.TablesIn(deep); len(got) != 1 || got[0] != "d" {
			t.Errorf("%s: TablesIn = %q", place, got)
		}
	}
	wide := eNode(impl.TeRec, slices.Repeat([]impl.Term{x0}, n)...)
	if impl.SizeOfTerm(wide) != n+1 || impl.DepthOfTerm(wide) != 2 || impl.IsValidTerm(wide) || !impl.EqualTerm(wide, wide) || len(impl.TablesIn(wide)) != 0 {
		t.Error("wide")
	}
	typed := eEmpty(nestedType(n, tInt, bagOf))
	if impl.SizeOfTerm(typed) != 1 || impl.IsValidTerm(typed) || !impl.EqualTerm(typed, typed) || impl.EqualTerm(typed, eEmpty(bagOf(typed.Type))) {
		t.Error("typed")
	}
}
