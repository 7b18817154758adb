package tests

import (
	"reflect"
	"slices"
	"strings"
	"testing"

	"loop.example/g00587/impl"
)

var (
	tInt  = impl.Type{Kind: impl.TyInt}
	tBool = impl.Type{Kind: impl.TyBool}
)

func bagOf(t impl.Type) impl.Type { return node(impl.TyBag, nil, t) }

func funOf(from, to impl.Type) impl.Type { return node(impl.TyFun, nil, from, to) }

// recOf returns the record type whose labels are those of a text, separated by spaces.
func recOf(labels string, args ...impl.Type) impl.Type {
	return node(impl.TyRec, strings.Fields(labels), args...)
}

func node(kind int, labels []string, args ...impl.Type) impl.Type {
	return impl.Type{Kind: kind, Labels: labels, Args: args}
}

// nestedType returns the type that around makes of leaf, n times.
func nestedType(n int, leaf impl.Type, around func(impl.Type) impl.Type) impl.Type {
	for range n {
		leaf = around(leaf)
	}
	return leaf
}

// The following are the sentences of the document, each by a recursion over the type.

func sizeByParts(t impl.Type) int {
	n := 1
	for _, a := range t.Args {
		n += sizeByParts(a)
	}
	return n
}

func depthByParts(t impl.Type) int {
	d := 0
	for _, a := range t.Args {
		d = max(d, depthByParts(a))
	}
	return d + 1
}

func nodesOfKind(t impl.Type, kind int) int {
	n := 0
	if t.Kind == kind {
		n = 1
	}
	for _, a := range t.Args {
		n += nodesOfKind(a, kind)
	}
	return n
}

func nodesAreValid(t impl.Type) bool {
	arity, known := map[int]int{impl.TyInt: 0, impl.TyBool: 0, impl.TyRec: len(t.Labels), impl.TyBag: 1, impl.TyFun: 2}[t.Kind]
	if !known || len(t.Args) != arity {
		return false
	}
	if isRec := t.Kind == impl.TyRec; isRec != (len(t.Labels) > 0) || len(t.Labels) > 4 {
		return false
	}
	for i, l := range t.Labels {
		if !nameByItsBytes(l) || i > 0 && t.Labels[i-1] >= l {
			return false
		}
	}
	holds := t.Kind == impl.TyRec || t.Kind == impl.TyBag
	if holds && nodesOfKind(t, impl.TyFun) > 0 {
		return false
	}
	return !slices.ContainsFunc(t.Args, func(a impl.Type) bool { return !nodesAreValid(a) })
}

func validBySentences(t impl.Type) bool {
	return sizeByParts(t) <= 24 && depthByParts(t) <= 7 && nodesAreValid(t)
}

func rowBySentences(t impl.Type) bool {
	return validBySentences(t) && t.Kind == impl.TyRec && sizeByParts(t) == 1+len(t.Args) && nodesOfKind(t, impl.TyInt)+nodesOfKind(t, impl.TyBool) == len(t.Args)
}

// checkType compares all that is counted and asked of a type with the sentences above.
func checkType(t *testing.T, x impl.Type) {
	t.Helper()
	if got, want := impl.SizeOfType(x), sizeByParts(x); got != want {
		t.Errorf("SizeOfType(%v) = %d, want %d", x, got, want)
	}
	if got, want := impl.DepthOfType(x), depthByParts(x); got != want {
		t.Errorf("DepthOfType(%v) = %d, want %d", x, got, want)
	}
	if got, want := impl.CountBags(x), nodesOfKind(x, impl.TyBag); got != want {
		t.Errorf("CountBags(%v) = %d, want %d", x, got, want)
	}
	valid := validBySentences(x)
	if got := impl.IsValidType(x); got != valid {
		t.Errorf("IsValidType(%v) = %v", x, got)
	}
	if got, want := impl.IsData(x), valid && nodesOfKind(x, impl.TyFun) == 0; got != want {
		t.Errorf("IsData(%v) = %v", x, got)
	}
	if got, want := impl.IsRow(x), rowBySentences(x); got != want {
		t.Errorf("IsRow(%v) = %v", x, got)
	}
	for _, l := range append(slices.Clone(x.Labels), "", "a", "b", "z", "if") {
		i := slices.Index(x.Labels, l)
		checkField(t, x, l, valid && x.Kind == impl.TyRec && i >= 0, i)
	}
}

func checkField(t *testing.T, x impl.Type, label string, want bool, i int) {
	t.Helper()
	got, ok := impl.FieldType(x, label)
	if ok != want {
		t.Errorf("FieldType(%v, %q) = %v, %v", x, label, got, ok)
	} else if ok && !sameType(got, x.Args[i]) {
		t.Errorf("FieldType(%v, %q) = %v", x, label, got)
	} else if !ok && !reflect.DeepEqual(got, impl.Type{}) {
		t.Errorf("FieldType(%v, %q) = %v and false", x, label, got)
	}
}

// sameType is EqualType by a recursion.
func sameType(a, b impl.Type) bool {
	return a.Kind == b.Kind && slices.Equal(a.Labels, b.Labels) && slices.EqualFunc(a.Args, b.Args, sameType)
}

// checkVerdict also says what the answers are, so that the sentences above are tested too.
func checkVerdict(t *testing.T, x impl.Type, valid, data, row bool) {
	t.Helper()
	checkType(t, x)
	if impl.IsValidType(x) != valid || impl.IsData(x) != data || impl.IsRow(x) != row {
		t.Errorf("%v: IsValidType %v, IsData %v, IsRow %v", x, impl.IsValidType(x), impl.IsData(x), impl.IsRow(x))
	}
}

func checkNoType(t *testing.T, list ...impl.Type) {
	t.Helper()
	for _, x := range list {
		checkVerdict(t, x, false, false, false)
		// A part that is not valid makes the whole not valid.
		checkVerdict(t, bagOf(x), false, false, false)
		checkVerdict(t, funOf(x, tInt), false, false, false)
		checkVerdict(t, funOf(tInt, x), false, false, false)
		checkVerdict(t, recOf("a", x), false, false, false)
		checkVerdict(t, recOf("a b c", tInt, tBool, x), false, false, false)
		checkVerdict(t, recOf("a b c", x, bagOf(tBool), tInt), false, false, false)
	}
}

func TestConstantsOfTypes(t *testing.T) {
	if impl.MaxTypeSize != 24 || impl.MaxTypeDepth != 7 || impl.MaxLabels != 4 {
		t.Error("limits")
	}
	if impl.TyInt != 1 || impl.TyBool != 2 || impl.TyRec != 3 || impl.TyBag != 4 || impl.TyFun != 5 {
		t.Error("kinds")
	}
}

func TestTypesOfEachKind(t *testing.T) {
	checkVerdict(t, tInt, true, true, false)
	checkVerdict(t, tBool, true, true, false)
	checkVerdict(t, bagOf(tInt), true, true, false)
	checkVerdict(t, bagOf(bagOf(tBool)), true, true, false)
	checkVerdict(t, recOf("a", tInt), true, true, true)
	checkVerdict(t, recOf("a", tBool), true, true, true)
	checkVerdict(t, recOf("a b", tBool, tInt), true, true, true)
	checkVerdict(t, recOf("a b", tInt, bagOf(tInt)), true, true, false)
	checkVerdict(t, recOf("a b", bagOf(tInt), tInt), true, true, false)
	checkVerdict(t, recOf("a", recOf("a", tInt)), true, true, false)
	checkVerdict(t, bagOf(recOf("a b", tInt, tBool)), true, true, false)
	checkVerdict(t, funOf(tInt, tBool), true, false, false)
	checkVerdict(t, funOf(bagOf(tInt), recOf("a", tInt)), true, false, false)
	checkVerdict(t, impl.Type{}, false, false, false)
}

func TestSizeAndDepthOfTypes(t *testing.T) {
	row := recOf("a b c", tInt, tBool, tInt)
	for _, c := range []struct {
		x                 impl.Type
		size, depth, bags int
	}{
		{tInt, 1, 1, 0},
		{tBool, 1, 1, 0},
		{bagOf(tInt), 2, 2, 1},
		{row, 4, 2, 0},
		{bagOf(row), 5, 3, 1},
		{funOf(tInt, tInt), 3, 2, 0},
		{funOf(bagOf(row), tInt), 7, 4, 1},
		{funOf(tInt, bagOf(row)), 7, 4, 1},
		{funOf(bagOf(row), bagOf(bagOf(tInt))), 9, 4, 3},
		{bagOf(bagOf(bagOf(tInt))), 4, 4, 3},
		{recOf("a b", bagOf(tInt), bagOf(bagOf(tInt))), 6, 4, 3},
		{recOf("a b", bagOf(bagOf(tInt)), tInt), 5, 4, 2},
		{bagOf(recOf("a b", bagOf(tInt), bagOf(recOf("c", bagOf(tBool))))), 8, 6, 4},
		{impl.Type{}, 1, 1, 0},
		{node(99, nil), 1, 1, 0},
		{node(-4, nil, bagOf(tInt), impl.Type{}), 4, 3, 1},
		{node(impl.TyInt, nil, bagOf(tInt), tInt), 4, 3, 1},
		{node(impl.TyBag, nil), 1, 1, 1},
		{node(impl.TyBag, nil, bagOf(tInt), tInt, bagOf(bagOf(tInt))), 7, 4, 4},
		{node(impl.TyFun, nil, tInt), 2, 2, 0},
		{node(impl.TyRec, nil), 1, 1, 0},
		{node(impl.TyRec, []string{"a", "b", "c"}), 1, 1, 0},
		{node(impl.TyRec, []string{"b", "if"}, node(impl.TyBag, []string{"a"}, tInt), bagOf(funOf(tInt, node(impl.TyBag, nil)))), 7, 4, 3},
		{nestedType(50, bagOf(tInt), bagOf), 52, 52, 51},
		{node(impl.TyFun, nil, make([]impl.Type, 100)...), 101, 2, 0},
	} {
		checkType(t, c.x)
		if size, depth, bags := impl.SizeOfType(c.x), impl.DepthOfType(c.x), impl.CountBags(c.x); size != c.size || depth != c.depth || bags != c.bags {
			t.Errorf("%v: size %d, depth %d, bags %d", c.x, size, depth, bags)
		}
	}
}

func TestTypesOfTheGreatestSize(t *testing.T) {
	four := recOf("a b c d", tInt, tBool, tInt, tBool)
	three := recOf("a b c", tInt, tBool, tInt)
	largest := recOf("a b c d", four, four, four, recOf("a b c d", tInt, tInt, tInt, three))
	tooLarge := recOf("a b c d", four, four, four, recOf("a b c d", tInt, tInt, tInt, four))
	if sizeByParts(largest) != 24 || sizeByParts(tooLarge) != 25 || depthByParts(tooLarge) > 7 {
		t.Fatal("sizes")
	}
	checkVerdict(t, largest, true, true, false)
	checkVerdict(t, tooLarge, false, false, false)
	checkVerdict(t, bagOf(largest), false, false, false)
	checkVerdict(t, recOf("a", largest), false, false, false)
	checkVerdict(t, funOf(tInt, largest), false, false, false)
	checkVerdict(t, recOf("a b", four, largest), false, false, false)

	full := funOf(funOf(tInt, tInt), funOf(tInt, tInt))
	functions := funOf(funOf(full, tInt), funOf(full, tInt))
	for range 2 {
		functions = funOf(functions, tInt)
	}
	if sizeByParts(functions) != 23 || depthByParts(functions) != 7 {
		t.Fatal("sizes of functions")
	}
	checkVerdict(t, functions, true, false, false)
	functions.Args[1] = bagOf(tInt)
	checkVerdict(t, functions, true, false, false)
	functions.Args[1] = recOf("a b", tInt, tInt)
	checkVerdict(t, functions, false, false, false)
	functions.Args[1] = bagOf(bagOf(tInt))
	checkVerdict(t, functions, false, false, false)
}

func TestTypesOfTheGreatestDepth(t *testing.T) {
	inRec := func(x impl.Type) impl.Type { return recOf("a", x) }
	inSecond := func(x impl.Type) impl.Type { return recOf("a b", tInt, x) }
	from := func(x impl.Type) impl.Type { return funOf(x, tInt) }
	to := func(x impl.Type) impl.Type { return funOf(tInt, x) }
	for n := range 12 {
		valid := n+1 <= 7
		for _, leaf := range []impl.Type{tInt, tBool} {
			checkVerdict(t, nestedType(n, leaf, bagOf), valid, valid, false)
			checkVerdict(t, nestedType(n, leaf, inRec), valid, valid, n == 1)
			checkVerdict(t, nestedType(n, leaf, inSecond), valid, valid, n == 1)
			checkVerdict(t, nestedType(n, leaf, from), valid, valid && n == 0, false)
			checkVerdict(t, nestedType(n, leaf, to), valid, valid && n == 0, false)
		}
	}
	deepest := nestedType(6, tInt, bagOf)
	checkVerdict(t, recOf("a b", deepest.Args[0], tInt), true, true, false)
	checkVerdict(t, recOf("a b", tInt, deepest.Args[0]), true, true, false)
	checkVerdict(t, recOf("a b", deepest, tInt), false, false, false)
	checkVerdict(t, recOf("a b", tInt, deepest), false, false, false)
	both := recOf("a b c", deepest.Args[0], deepest.Args[0], deepest.Args[0].Args[0])
	both.Args[2] = recOf("a b", both.Args[2].Args[0], tInt)
	if sizeByParts(both) != 19 || depthByParts(both) != 7 {
		t.Fatal(sizeByParts(both), depthByParts(both))
	}
	checkVerdict(t, both, true, true, false)
}

func TestRecordsOfManyLabels(t *testing.T) {
	for n := range 12 {
		names := []string{"a", "a0", "ab", "b", "c", "d", "e", "f", "g", "h", "i", "j"}[:n]
		valid := 1 <= n && n <= 4
		checkVerdict(t, node(impl.TyRec, names, slices.Repeat([]impl.Type{tInt}, n)...), valid, valid, valid)
		checkVerdict(t, node(impl.TyRec, names, slices.Repeat([]impl.Type{bagOf(tInt)}, n)...), valid, valid, false)
	}
	checkNoType(t, node(impl.TyRec, nil), node(impl.TyRec, []string{}), node(impl.TyRec, nil, tInt), node(impl.TyRec, []string{}, tInt, tInt), recOf("a b c d e", tInt, tInt, tInt, tInt, tInt))
}

func TestLabels(t *testing.T) {
	for _, l := range []string{"a", "z", "if0", "x123", "fo", "abcd"} {
		checkVerdict(t, node(impl.TyRec, []string{l}, tInt), true, true, true)
	}
	for _, l := range []string{"", "if", "for", "1", "0a", "A", "aB", "a_", " a", "a ", "abcde", "é", "a\xff", "\x00", "a,b", "a:"} {
		checkNoType(t, node(impl.TyRec, []string{l}, tInt))
		checkVerdict(t, node(impl.TyRec, []string{l, "m"}, tInt, tInt), false, false, false)
		checkVerdict(t, node(impl.TyRec, []string{"m", l}, tInt, tInt), false, false, false)
	}
	checkVerdict(t, node(impl.TyRec, []string{"a", "b", "c", "\xff"}, tInt, tInt, tInt, tInt), false, false, false)
	checkVerdict(t, node(impl.TyRec, []string{"A", "b"}, tInt, tInt), false, false, false)
	for _, labels := range []string{"a a", "b a", "a b b", "a a b", "a c b", "b a c", "a b a", "a b c c", "a b d c", "d c b a", "a b c a", "ab a", "a9 a10"} {
		fields := slices.Repeat([]impl.Type{tInt}, len(strings.Fields(labels)))
		checkNoType(t, recOf(labels, fields...))
	}
	for _, labels := range []string{"a b", "a ab", "a10 a9", "a0 aa", "a b c", "a aa ab b"} {
		fields := slices.Repeat([]impl.Type{tBool}, len(strings.Fields(labels)))
		checkVerdict(t, recOf(labels, fields...), true, true, true)
	}
}

func TestRecordsWithOtherNumbersOfArgs(t *testing.T) {
	names := []string{"a", "b", "c", "d", "e", "f"}
	for labels := range 7 {
		for args := range 7 {
			x := node(impl.TyRec, names[:labels], slices.Repeat([]impl.Type{tInt}, args)...)
			if valid := labels == args && 1 <= labels && labels <= 4; valid {
				checkVerdict(t, x, true, true, true)
			} else {
				checkNoType(t, x)
			}
		}
	}
}

func TestKindsWithOtherNumbersOfArgs(t *testing.T) {
	arity := map[int]int{impl.TyInt: 0, impl.TyBool: 0, impl.TyBag: 1, impl.TyFun: 2}
	for kind, want := range arity {
		for args := range 7 {
			for _, arg := range []impl.Type{tInt, tBool, bagOf(tInt), recOf("a", tInt)} {
				x := node(kind, nil, slices.Repeat([]impl.Type{arg}, args)...)
				if args == want {
					checkVerdict(t, x, true, kind != impl.TyFun, false)
				} else {
					checkNoType(t, x)
				}
			}
		}
	}
}

func TestOnlyRecordsHaveLabels(t *testing.T) {
	for _, x := range []impl.Type{tInt, tBool, bagOf(tInt), bagOf(recOf("a", tInt)), funOf(tInt, tBool)} {
		for _, labels := range [][]string{{"a"}, {""}, {"a", "b"}, {"b", "a"}, {"if"}} {
			with := node(x.Kind, labels, x.Args...)
			checkNoType(t, with)
			checkType(t, funOf(funOf(with, tInt), tInt))
		}
		checkVerdict(t, node(x.Kind, []string{}, x.Args...), true, x.Kind != impl.TyFun, false)
	}
}

func TestOtherKinds(t *testing.T) {
	for _, kind := range []int{0, -1, -2, -3, -4, -5, 6, 7, 8, 100, -100, 256 + 1, 256 + 4, 1<<32 + 1, 1<<32 + 3, 1<<32 + 4, 1<<63 - 1, -1 << 63} {
		checkNoType(t,
			node(kind, nil), node(kind, nil, tInt), node(kind, nil, tInt, tInt), node(kind, nil, tInt, tInt, tInt),
			node(kind, []string{"a"}), node(kind, []string{"a"}, tInt), node(kind, []string{"a", "b"}, tInt, bagOf(tBool)),
			node(kind, nil, bagOf(tInt)), node(kind, nil, funOf(tInt, tInt)))
	}
}

func TestFunctionsWithinRecordsAndBags(t *testing.T) {
	f := funOf(tInt, tBool)
	checkNoType(t,
		bagOf(f), recOf("a", f), recOf("a b", tInt, f), recOf("a b", f, tInt), recOf("a b c", tInt, f, tBool),
		bagOf(bagOf(f)), bagOf(recOf("a", f)), recOf("a", bagOf(f)), recOf("a", recOf("b", f)), recOf("a b", tInt, recOf("c d", tBool, bagOf(f))),
		bagOf(funOf(f, tInt)), bagOf(funOf(tInt, f)), recOf("a", funOf(f, f)),
		funOf(bagOf(f), tInt), funOf(tInt, bagOf(f)), funOf(recOf("a", f), tInt), funOf(tInt, recOf("a b", tInt, f)),
		funOf(tInt, funOf(tInt, bagOf(bagOf(f)))), funOf(funOf(recOf("a", bagOf(f)), tInt), tInt))
	for _, x := range []impl.Type{
		f, funOf(f, tInt), funOf(tInt, f), funOf(f, f), funOf(funOf(f, f), f), funOf(f, funOf(tInt, funOf(f, tBool))),
		funOf(bagOf(tInt), f), funOf(f, bagOf(tInt)), funOf(recOf("a", tInt), f), funOf(f, recOf("a", bagOf(tInt))),
		funOf(bagOf(tInt), bagOf(tInt)), funOf(recOf("a", tInt), funOf(bagOf(recOf("b", bagOf(tBool))), f)),
	} {
		checkVerdict(t, x, true, false, false)
	}
}

func TestFieldType(t *testing.T) {
	f := funOf(tInt, tInt)
	x := recOf("a ab b z9", tInt, bagOf(recOf("a", tBool)), tBool, recOf("c d", tBool, tInt))
	for i, l := range x.Labels {
		checkField(t, x, l, true, i)
	}
	for _, l := range []string{"", "c", "d", "A", "abc", "z", "z90", "if", "for", " a", "a ", "\xff", "\x00", "a ab", "1"} {
		checkField(t, x, l, false, -1)
	}
	checkField(t, recOf("a", tInt), "a", true, 0)
	for _, no := range []impl.Type{
		{}, tInt, tBool, bagOf(x), f, funOf(x, x), bagOf(tInt),
		node(impl.TyInt, []string{"a"}, tInt), node(impl.TyBool, []string{"a"}), node(impl.TyBag, []string{"a"}, tInt), node(impl.TyFun, []string{"a", "b"}, tInt, tInt),
		node(0, []string{"a"}, tInt), node(6, []string{"a"}, tInt), node(-3, []string{"a"}, tInt),
		recOf(""), recOf("a"), recOf("a", tInt, tInt), recOf("a b", tInt), recOf("a a", tInt, tInt), recOf("b a", tInt, tInt), recOf("a if", tInt, tInt),
		recOf("a b", tInt, f), recOf("a b", f, tInt), recOf("a b", tInt, bagOf(f)), recOf("a b", tInt, impl.Type{}), recOf("a b", tInt, node(impl.TyInt, []string{"c"})),
		recOf("a b", tInt, nestedType(6, tInt, bagOf)), recOf("a b c d e", tInt, tInt, tInt, tInt, tInt), recOf("a b c d", tInt, bagOf(x), x, x),
	} {
		for _, l := range []string{"a", "b", "", "if", "c"} {
			checkField(t, no, l, false, -1)
		}
	}
}

// treesOver returns all trees of at most max nodes, where tops gives those that have the given parts.
func treesOver[T any](max int, tops func(parts []T) []T) []T {
	// Of every number of nodes, the trees and the lists of trees with so many in all.
	trees, lists := make([][]T, max+1), make([][][]T, max+1)
	lists[0] = [][]T{nil}
	var all []T
	for n := 1; n <= max; n++ {
		for _, parts := range lists[n-1] {
			trees[n] = append(trees[n], tops(parts)...)
		}
		for first := 1; first <= n; first++ {
			for _, x := range trees[first] {
				for _, rest := range lists[n-first] {
					lists[n] = append(lists[n], append([]T{x}, rest...))
				}
			}
		}
		all = append(all, trees[n]...)
	}
	return all
}

// typesOver returns all types of at most max nodes whose kinds and Labels are given.
func typesOver(kinds []int, labels [][]string, max int) []impl.Type {
	return treesOver(max, func(args []impl.Type) []impl.Type {
		var types []impl.Type
		for _, k := range kinds {
			for _, l := range labels {
				types = append(types, node(k, l, args...))
			}
		}
		return types
	})
}

func TestAllSmallTypes(t *testing.T) {
	valid := 0
	for _, x := range slices.Concat(
		typesOver([]int{0, 1, 2, 3, 4, 5, 6, -3}, [][]string{nil, {"a"}, {"b", "a"}, {"a", "b"}}, 3),
		typesOver([]int{1, 3, 4, 5}, [][]string{nil, {"a"}, {"a", "b"}}, 4)) {
		checkType(t, x)
		if impl.IsValidType(x) {
			valid++
		}
	}
	if valid < 40 {
		t.Errorf("only %d valid types", valid)
	}
}

func TestEqualType(t *testing.T) {
	all := typesOver([]int{1, 4}, [][]string{nil, {"a"}, {"b"}}, 3)
	all = append(all, typesOver([]int{1, 3}, [][]string{{"a", "b"}, {"b", "a"}, {"a", "b", "c"}, {"ab"}, {""}}, 2)...)
	for i, a := range all {
		for j, b := range all {
			if got := impl.EqualType(a, b); got != (i == j) {
				t.Errorf("EqualType(%v, %v) = %v", a, b, got)
			}
		}
	}
}

// variants returns types that differ from x in one field, at the top or further inside.
func variants(x impl.Type) []impl.Type {
	var out []impl.Type
	vary := func(kind int, labels []string, args []impl.Type) { out = append(out, node(kind, labels, args...)) }
	vary(x.Kind+1, x.Labels, x.Args)
	vary(x.Kind-6, x.Labels, x.Args)
	vary(x.Kind, append(slices.Clone(x.Labels), "z"), x.Args)
	vary(x.Kind, append([]string{""}, x.Labels...), x.Args)
	vary(x.Kind, x.Labels, append(slices.Clone(x.Args), tInt))
	vary(x.Kind, x.Labels, append([]impl.Type{{}}, x.Args...))
	for i, l := range x.Labels {
		vary(x.Kind, slices.Replace(slices.Clone(x.Labels), i, i+1, l+"0"), x.Args)
		vary(x.Kind, slices.Delete(slices.Clone(x.Labels), i, i+1), x.Args)
	}
	for i, a := range x.Args {
		vary(x.Kind, x.Labels, slices.Delete(slices.Clone(x.Args), i, i+1))
		for _, v := range variants(a) {
			vary(x.Kind, x.Labels, slices.Replace(slices.Clone(x.Args), i, i+1, v))
		}
	}
	return out
}

func TestEqualTypeOfTypesThatDifferInOneField(t *testing.T) {
	row := recOf("a b", tInt, tBool)
	for _, x := range []impl.Type{
		{}, tInt, tBool, bagOf(tInt), row, funOf(tInt, tBool), bagOf(bagOf(row)), funOf(funOf(row, tInt), bagOf(row)),
		recOf("a b c", row, bagOf(row), recOf("d", bagOf(tInt))), node(0, []string{"x"}, row), node(9, nil, row, tInt, row),
	} {
		if !impl.EqualType(x, withSpare(x)) {
			t.Errorf("EqualType(%v, the same) = false", x)
		}
		for _, v := range variants(x) {
			if impl.EqualType(x, v) || impl.EqualType(v, x) {
				t.Errorf("EqualType(%v, %v) = true", x, v)
			}
		}
	}
	for _, p := range [][2]impl.Type{
		{recOf("a b", tInt, tBool), recOf("a b", tBool, tInt)}, {recOf("a b", tInt, tBool), recOf("b a", tInt, tBool)},
		{funOf(tInt, tBool), funOf(tBool, tInt)}, {funOf(bagOf(tInt), tInt), funOf(tInt, bagOf(tInt))}, {recOf("a", bagOf(tInt)), bagOf(recOf("a", tInt))},
		// Both have the same nodes in the same order at each depth.
		{node(7, nil, node(7, nil, tInt, tInt), node(7, nil)), node(7, nil, node(7, nil), node(7, nil, tInt, tInt))},
		{node(7, nil, node(7, nil, tInt, tInt), node(7, nil, tBool)), node(7, nil, node(7, nil, tInt), node(7, nil, tInt, tBool))},
		{node(7, []string{"a b"}), node(7, []string{"a", "b"})}, {node(7, []string{"a", ""}), node(7, []string{"", "a"})},
	} {
		if impl.EqualType(p[0], p[1]) || impl.EqualType(p[1], p[0]) {
			t.Errorf("EqualType(%v, %v) = true", p[0], p[1])
		}
	}
}

// emptied returns x with empty slices in place of nil ones.
func emptied(x impl.Type) impl.Type {
	out := node(x.Kind, append([]string{}, x.Labels...), []impl.Type{}...)
	out.Args = []impl.Type{}
	for _, a := range x.Args {
		out.Args = append(out.Args, emptied(a))
	}
	return out
}

func TestNilAndEmptySlicesOfTypes(t *testing.T) {
	for _, x := range []impl.Type{{}, tInt, tBool, bagOf(tInt), recOf("a b", tInt, bagOf(tBool)), funOf(tInt, bagOf(tInt)), node(impl.TyRec, nil), node(impl.TyBag, nil), node(0, []string{"a"}, tInt)} {
		e := emptied(x)
		if !impl.EqualType(x, e) || !impl.EqualType(e, x) || !impl.EqualType(e, e) {
			t.Errorf("EqualType(%v, with empty slices) = false", x)
		}
		if impl.IsValidType(x) != impl.IsValidType(e) || impl.IsData(x) != impl.IsData(e) || impl.IsRow(x) != impl.IsRow(e) {
			t.Errorf("%v is judged otherwise with empty slices", x)
		}
		checkType(t, e)
	}
}

// withSpare returns x in new memory, with unused capacity in every slice.
func withSpare(x impl.Type) impl.Type {
	labels, _ := argument(x.Labels...)
	args := make([]impl.Type, len(x.Args), len(x.Args)+2)
	for i, a := range x.Args {
		args[i] = withSpare(a)
	}
	for i := len(args); i < cap(args); i++ {
		args[:cap(args)][i].Kind = 99
	}
	return impl.Type{Kind: x.Kind, Labels: labels, Args: args}
}

// wholeType returns x with the unused capacity of its slices, all in new memory.
func wholeType(x impl.Type) impl.Type {
	out := node(x.Kind, slices.Clone(x.Labels[:cap(x.Labels)]))
	for _, a := range x.Args[:cap(x.Args)] {
		out.Args = append(out.Args, wholeType(a))
	}
	return out
}

// overwrite changes all memory of x.
func overwrite(x impl.Type) {
	for i := range x.Labels[:cap(x.Labels)] {
		x.Labels[:cap(x.Labels)][i] = "overwritten"
	}
	for i, a := range x.Args[:cap(x.Args)] {
		overwrite(a)
		x.Args[:cap(x.Args)][i] = impl.Type{Kind: 77}
	}
}

func TestTypesAreKept(t *testing.T) {
	row := recOf("a b", tInt, tBool)
	for _, x := range []impl.Type{
		tInt, row, bagOf(row), funOf(bagOf(row), row), recOf("a b c", bagOf(row), tInt, row), recOf("a b", row, recOf("c", bagOf(bagOf(row)))),
		{}, recOf("b a", row, tInt), node(9, []string{"x"}, row, bagOf(row)), bagOf(funOf(row, tInt)),
	} {
		arg, other := withSpare(x), withSpare(x)
		before := wholeType(arg)
		impl.SizeOfType(arg)
		impl.DepthOfType(arg)
		impl.IsValidType(arg)
		impl.IsData(arg)
		impl.IsRow(arg)
		impl.CountBags(arg)
		impl.EqualType(arg, other)
		impl.EqualType(arg, bagOf(arg))
		for _, l := range []string{"a", "b", "c", "none", spare} {
			got, ok := impl.FieldType(arg, l)
			again, _ := impl.FieldType(arg, l)
			overwrite(got)
			if i := slices.Index(x.Labels, l); ok && !sameType(again, x.Args[i]) {
				t.Errorf("FieldType(%v, %q) became %v", x, l, again)
			}
		}
		if !sameType(wholeType(arg), before) || !sameType(wholeType(other), before) {
			t.Errorf("the memory of %v became %v", x, wholeType(arg))
		}
	}
}

func TestSlicesOfAFieldTypeAreApart(t *testing.T) {
	shared := recOf("a b", bagOf(tInt), tInt)
	x := recOf("x", recOf("a b", shared, shared))
	got, ok := impl.FieldType(x, "x")
	if !ok || !sameType(got, x.Args[0]) {
		t.Fatal(got, ok)
	}
	overwrite(got.Args[0])
	if !sameType(got.Args[1], shared) {
		t.Errorf("the second field became %v", got.Args[1])
	}
}

func TestTypesBeyondAllLimits(t *testing.T) {
	within := []impl.Type{{Kind: impl.TyBag}}
	within[0].Args = within
	twice := make([]impl.Type, 2)
	twice[0], twice[1] = node(impl.TyFun, nil, twice...), node(impl.TyFun, nil, twice...)
	doubled := nestedType(200, tInt, func(x impl.Type) impl.Type { return recOf("a b", x, x) })
	deep := nestedType(100000, tInt, bagOf)
	wide := node(impl.TyRec, nil, make([]impl.Type, 100000)...)
	for i, x := range []impl.Type{within[0], twice[0], doubled, deep, wide, recOf("a", deep), recOf("a b", tInt, doubled)} {
		_, ok := impl.FieldType(x, "a")
		if impl.IsValidType(x) || impl.IsData(x) || impl.IsRow(x) || ok {
			t.Errorf("type %d: IsValidType %v, IsData %v, IsRow %v, FieldType %v", i, impl.IsValidType(x), impl.IsData(x), impl.IsRow(x), ok)
		}
	}
	if impl.SizeOfType(deep) != 100001 || impl.DepthOfType(deep) != 100001 || impl.CountBags(deep) != 100000 || !impl.EqualType(deep, deep) || impl.EqualType(deep, bagOf(deep)) {
		t.Error("deep")
	}
	if impl.SizeOfType(wide) != 100001 || impl.DepthOfType(wide) != 2 || impl.CountBags(wide) != 0 || !impl.EqualType(wide, wide) {
		t.Error("wide")
	}
}
