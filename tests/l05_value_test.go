package tests

import (
	"math"
	"runtime/debug"
	"slices"
	"strings"
	"testing"

	"loop.example/g00587/impl"
)

func vInt(n int) impl.Value { return impl.Value{Kind: impl.VaInt, N: n} }

func vBool(n int) impl.Value { return impl.Value{Kind: impl.VaBool, N: n} }

func vBag(list ...impl.Value) impl.Value { return impl.Value{Kind: impl.VaBag, Args: list} }

// vInts returns a bag of integers.
func vInts(list ...int) impl.Value {
	bag := vBag()
	for _, n := range list {
		bag.Args = append(bag.Args, vInt(n))
	}
	return bag
}

// vRec returns the record whose labels are those of a text, separated by spaces.
func vRec(labels string, args ...impl.Value) impl.Value {
	return impl.Value{Kind: impl.VaRec, Labels: strings.Fields(labels), Args: args}
}

// vNode returns a node of any kind, with Args.
func vNode(kind, n int, labels string, args ...impl.Value) impl.Value {
	return impl.Value{Kind: kind, N: n, Labels: strings.Fields(labels), Args: args}
}

// The following are the sentences of the document, each by a recursion over the value.

func nodesOfValue(v impl.Value) int {
	n := 1
	for _, a := range v.Args {
		n += nodesOfValue(a)
	}
	return n
}

// sameValue says whether all fields are equal, and all Args in their order.
func sameValue(a, b impl.Value) bool {
	return a.Kind == b.Kind && a.N == b.N && slices.Equal(a.Labels, b.Labels) && slices.EqualFunc(a.Args, b.Args, sameValue)
}

func fits(v impl.Value, t impl.Type) bool {
	switch t.Kind {
	case impl.TyInt:
		return sameValue(v, vInt(v.N))
	case impl.TyBool:
		return sameValue(v, vBool(0)) || sameValue(v, vBool(1))
	case impl.TyRec:
		whole := impl.Value{Kind: impl.VaRec, Labels: t.Labels, Args: v.Args}
		return sameValue(v, whole) && slices.EqualFunc(v.Args, t.Args, fits)
	}
	return sameValue(v, vBag(v.Args...)) && !slices.ContainsFunc(v.Args, func(a impl.Value) bool { return !fits(a, t.Args[0]) })
}

func hasTypeBySentences(v impl.Value, t impl.Type) bool {
	return validBySentences(t) && nodesOfKind(t, impl.TyFun) == 0 && nodesOfValue(v) <= 2000 && fits(v, t)
}

// signOf says which of two numbers is the lesser one.
func signOf(a, b int) int {
	switch {
	case a < b:
		return -1
	case a > b:
		return 1
	}
	return 0
}

func compareBySentences(a, b impl.Value) int {
	for _, order := range []int{signOf(a.Kind, b.Kind), signOf(a.N, b.N), signOf(len(a.Args), len(b.Args)), compareLabels(a.Labels, b.Labels)} {
		if order != 0 {
			return order
		}
	}
	for i := range a.Args {
		if order := compareBySentences(a.Args[i], b.Args[i]); order != 0 {
			return order
		}
	}
	return 0
}

func compareLabels(a, b []string) int {
	for i := 0; i < len(a) && i < len(b); i++ {
		if order := compareBytes(a[i], b[i]); order != 0 {
			return order
		}
	}
	return signOf(len(a), len(b))
}

func compareBytes(a, b string) int {
	for i := 0; i < len(a) && i < len(b); i++ {
		if order := signOf(int(a[i]), int(b[i])); order != 0 {
			return order
		}
	}
	return signOf(len(a), len(b))
}

func canonBySentences(v impl.Value) impl.Value {
	canon := impl.Value{Kind: v.Kind, N: v.N, Labels: slices.Clone(v.Labels)}
	for _, a := range v.Args {
		at := len(canon.Args)
		c := canonBySentences(a)
		for v.Kind == impl.VaBag && at > 0 && compareBySentences(canon.Args[at-1], c) > 0 {
			at--
		}
		canon.Args = slices.Insert(canon.Args, at, c)
	}
	return canon
}

// sameUpToOrder finds for each element of a bag one of the other bag, without an order of values.
func sameUpToOrder(a, b impl.Value) bool {
	if a.Kind != b.Kind || a.N != b.N || !slices.Equal(a.Labels, b.Labels) || len(a.Args) != len(b.Args) {
		return false
	}
	if a.Kind != impl.VaBag {
		return slices.EqualFunc(a.Args, b.Args, sameUpToOrder)
	}
	left := slices.Clone(b.Args)
	for _, x := range a.Args {
		i := slices.IndexFunc(left, func(y impl.Value) bool { return sameUpToOrder(x, y) })
		if i < 0 {
			return false
		}
		left = slices.Delete(left, i, i+1)
	}
	return true
}

// checkHasType also says what the answer is, so that the sentences above are tested too.
func checkHasType(t *testing.T, v impl.Value, x impl.Type, want bool) {
	t.Helper()
	if hasTypeBySentences(v, x) != want {
		t.Errorf("the sentences do not say %v of %v and the type %v", want, v, x)
	}
	if impl.HasType(v, x) != want {
		t.Errorf("HasType(%v, %v) = %v", v, x, !want)
	}
}

// checkNoValue checks values that have not the type x, also where they stand further inside.
func checkNoValue(t *testing.T, x impl.Type, fitting impl.Value, list ...impl.Value) {
	t.Helper()
	checkHasType(t, fitting, x, true)
	for _, v := range list {
		checkHasType(t, v, x, false)
		checkHasType(t, vBag(v), bagOf(x), false)
		checkHasType(t, vBag(v, fitting, fitting), bagOf(x), false)
		checkHasType(t, vBag(fitting, v, fitting), bagOf(x), false)
		checkHasType(t, vBag(fitting, fitting, v), bagOf(x), false)
		checkHasType(t, vBag(vBag(), vBag(fitting, v), vBag()), bagOf(bagOf(x)), false)
		checkHasType(t, vRec("a", v), recOf("a", x), false)
		checkHasType(t, vRec("a b c", v, fitting, fitting), recOf("a b c", x, x, x), false)
		checkHasType(t, vRec("a b c", fitting, v, fitting), recOf("a b c", x, x, x), false)
		checkHasType(t, vRec("a b c", fitting, fitting, v), recOf("a b c", x, x, x), false)
		checkHasType(t, vBag(vRec("a", fitting), vRec("a", v)), bagOf(recOf("a", x)), false)
	}
}

// checkPair compares all that is asked of two values with the sentences above.
func checkPair(t *testing.T, a, b impl.Value) {
	t.Helper()
	if got, want := impl.CompareValues(a, b), compareBySentences(a, b); got != want {
		t.Errorf("CompareValues(%v, %v) = %d, want %d", a, b, got, want)
	}
	if got, want := impl.SameBag(a, b), sameUpToOrder(a, b); got != want {
		t.Errorf("SameBag(%v, %v) = %v", a, b, got)
	}
	if same := impl.CompareValues(impl.CanonValue(a), impl.CanonValue(b)) == 0; same != sameUpToOrder(a, b) {
		t.Errorf("the canonical values of %v and %v are equal: %v", a, b, same)
	}
}

func checkSameBag(t *testing.T, a, b impl.Value, want bool) {
	t.Helper()
	checkPair(t, a, b)
	checkPair(t, b, a)
	if impl.SameBag(a, b) != want || impl.SameBag(b, a) != want {
		t.Errorf("SameBag(%v, %v) = %v, %v the other way round", a, b, impl.SameBag(a, b), impl.SameBag(b, a))
	}
}

func checkCanon(t *testing.T, v, want impl.Value) {
	t.Helper()
	got := impl.CanonValue(v)
	if !sameValue(got, want) || !sameValue(canonBySentences(v), want) {
		t.Errorf("CanonValue(%v) = %v, want %v", v, got, want)
	}
	if again := impl.CanonValue(got); !sameValue(again, want) {
		t.Errorf("CanonValue(%v) = %v, but it is canonical", got, again)
	}
	checkSameBag(t, v, want, true)
}

func checkSize(t *testing.T, v impl.Value, want int) {
	t.Helper()
	if got := impl.SizeOfValue(v); got != want {
		t.Errorf("SizeOfValue(%v) = %d, want %d", v, got, want)
	}
}

func checkCount(t *testing.T, bag, v impl.Value, want int) {
	t.Helper()
	if got := impl.CountIn(bag, v); got != want {
		t.Errorf("CountIn(%v, %v) = %d, want %d", bag, v, got, want)
	}
}

// valuesOver returns all values of at most max nodes, each of which is one of heads with Args.
func valuesOver(heads []impl.Value, max int) []impl.Value {
	return treesOver(max, func(args []impl.Value) []impl.Value {
		values := slices.Clone(heads)
		for i := range values {
			values[i].Args = args
		}
		return values
	})
}

func TestConstantsOfValues(t *testing.T) {
	if impl.MaxValue != 2000 {
		t.Error("limit")
	}
	if impl.VaInt != 1 || impl.VaBool != 2 || impl.VaRec != 3 || impl.VaBag != 4 {
		t.Error("kinds")
	}
}

func TestSizeOfValue(t *testing.T) {
	row := vRec("a b", vInt(1), vBool(1))
	for _, c := range []struct {
		v    impl.Value
		size int
	}{
		{vInt(0), 1}, {vInt(math.MinInt), 1}, {vBool(1), 1}, {vBag(), 1}, {vRec(""), 1}, {impl.Value{}, 1}, {vNode(9, 9, "a b c"), 1},
		{vInts(1), 2}, {vInts(1, 1, 1), 4}, {row, 3}, {vBag(row, row), 7}, {vBag(vBag(), vBag(), vBag()), 4},
		{vRec("a b c", vInts(1, 2), vInt(1), vBag(vBag())), 7}, {vBag(vBag(vBag(vBag()))), 4},
		{vNode(impl.VaInt, 5, "", row, vInt(1)), 5}, {vNode(impl.VaBool, 5, "a"), 1}, {vNode(0, 0, "", vInt(1), row, impl.Value{}), 6}, {vRec("a b c", row), 4}, {vRec("", row, row), 7},
		{vBag(make([]impl.Value, 1999)...), 2000}, {vBag(make([]impl.Value, 2000)...), 2001}, {vBag(make([]impl.Value, 100000)...), 100001},
	} {
		checkSize(t, c.v, c.size)
		checkSize(t, vBag(vInt(1), c.v, c.v), 2*c.size+2)
		checkSize(t, vRec("a", c.v), c.size+1)
	}
}

func TestValuesOfEachType(t *testing.T) {
	row, rowType := vRec("a b", vInt(7), vBool(1)), recOf("a b", tInt, tBool)
	values := []impl.Value{
		vInt(3), vBool(1), row, vInts(1, 2), vBag(vBool(0)), vBag(row, row), vBag(vInts(1), vInts()), vRec("a", vBag(row)),
		vRec("a", vInts(1)), vRec("a b", vBool(1), vInt(7)), vRec("a b", vInt(7), vInt(1)), vBag(vBag(vBool(1)), vBag()),
		vBag(vRec("a b", vInts(1, 1), vBag(row)), vRec("a b", vBag(), vBag())), vRec("a", vRec("a", vInt(1))),
	}
	typesOfThem := []impl.Type{
		tInt, tBool, rowType, bagOf(tInt), bagOf(tBool), bagOf(rowType), bagOf(bagOf(tInt)), recOf("a", bagOf(rowType)),
		recOf("a", bagOf(tInt)), recOf("a b", tBool, tInt), recOf("a b", tInt, tInt), bagOf(bagOf(tBool)),
		bagOf(recOf("a b", bagOf(tInt), bagOf(rowType))), recOf("a", recOf("a", tInt)),
	}
	for i, v := range values {
		for j, x := range typesOfThem {
			checkHasType(t, v, x, i == j)
		}
	}
}

func TestIntegersAreAnyInts(t *testing.T) {
	for _, n := range []int{0, 1, -1, 2, 999999999999, -999999999999, 1 << 40, math.MaxInt, math.MinInt, math.MaxInt - 1, math.MinInt + 1} {
		checkHasType(t, vInt(n), tInt, true)
		checkHasType(t, vInt(n), tBool, false)
		checkHasType(t, vInts(n, 0, n), bagOf(tInt), true)
		checkHasType(t, vRec("a b", vBool(0), vInt(n)), recOf("a b", tBool, tInt), true)
	}
	checkNoValue(t, tInt, vInt(5), vBool(0), vBool(1), vBag(), vInts(5), vRec(""), vRec("a", vInt(5)), impl.Value{}, impl.Value{N: 5},
		vNode(impl.VaInt, 5, "a"), vNode(impl.VaInt, 5, "a b"), impl.Value{Kind: impl.VaInt, Labels: []string{""}},
		vNode(impl.VaInt, 5, "", vInt(5)), vNode(impl.VaInt, 0, "", vInt(5), vInt(5)), vNode(impl.VaInt, 5, "a", vInt(5)))
}

func TestBooleansAreZeroAndOne(t *testing.T) {
	checkHasType(t, vBool(0), tBool, true)
	checkHasType(t, vBool(1), tBool, true)
	checkHasType(t, vBag(vBool(1), vBool(0), vBool(1)), bagOf(tBool), true)
	for _, fitting := range []impl.Value{vBool(0), vBool(1)} {
		checkNoValue(t, tBool, fitting, vBool(2), vBool(-1), vBool(3), vBool(256), vBool(257), vBool(1<<32), vBool(1<<32+1), vBool(math.MaxInt), vBool(math.MinInt),
			vInt(0), vInt(1), vBag(), vBag(vBool(0)), vRec(""), vRec("a", vBool(1)), impl.Value{}, impl.Value{N: 1},
			vNode(impl.VaBool, 1, "a"), vNode(impl.VaBool, 0, "a b"), impl.Value{Kind: impl.VaBool, Labels: []string{""}},
			vNode(impl.VaBool, 1, "", vBool(1)), vNode(impl.VaBool, 0, "", vBool(0), vInt(5)), vNode(impl.VaBool, 0, "a", vBool(0)))
	}
}

func TestRecordsHaveTheLabelsOfTheType(t *testing.T) {
	x := recOf("a b c", tInt, tInt, tInt)
	one := vInt(1)
	fitting := vRec("a b c", one, one, one)
	var others []impl.Value
	for _, labels := range []string{"", "a", "a b", "b c", "a c", "a b d", "a b cc", "aa b c", "a bb c", "A b c", "b a c", "a c b", "c b a", "a a c", "a b b", "a b c d", "0 a b c", "a b c c", "ab c", "abc", "a0 b0 c0"} {
		others = append(others, vRec(labels, one, one, one), vRec(labels, slices.Repeat([]impl.Value{one}, len(strings.Fields(labels)))...), vRec(labels))
	}
	for args := range 6 {
		if args != 3 {
			others = append(others, vRec("a b c", slices.Repeat([]impl.Value{one}, args)...))
		}
	}
	for _, n := range []int{1, -1, 2, 3, math.MaxInt, math.MinInt} {
		others = append(others, vNode(impl.VaRec, n, "a b c", one, one, one))
	}
	for _, kind := range []int{impl.VaInt, impl.VaBool, impl.VaBag} {
		others = append(others, vNode(kind, 0, "a b c", one, one, one), vNode(kind, 0, "", one, one, one))
	}
	checkNoValue(t, x, fitting, others...)
	for _, labels := range []string{"", "a", "b c"} {
		checkNoValue(t, recOf("z", x), vRec("z", fitting), vRec("z", vRec(labels)), vRec("z"), vRec("z", fitting, fitting), vRec("z", vInt(0)), fitting)
	}
	// Types with as many fields, whose fields have other types.
	checkHasType(t, vRec("a b", vInt(1), vBool(1)), recOf("a b", tInt, tBool), true)
	checkHasType(t, vRec("a b", vInt(1), vBool(1)), recOf("a b", tBool, tInt), false)
	checkHasType(t, vRec("a b", vInt(1), vBool(1)), recOf("a c", tInt, tBool), false)
	checkHasType(t, vRec("a b c d", one, vBag(), vBool(0), vRec("e", vInts(1))), recOf("a b c d", tInt, bagOf(bagOf(tInt)), tBool, recOf("e", bagOf(tInt))), true)
}

func TestBagsOfElementsOfOneType(t *testing.T) {
	for _, x := range []impl.Type{tInt, tBool, bagOf(tInt), recOf("a", tInt), recOf("a b", bagOf(tInt), tBool), bagOf(bagOf(bagOf(tBool)))} {
		checkHasType(t, vBag(), bagOf(x), true)
		checkHasType(t, vBag(), x, x.Kind == impl.TyBag)
		checkHasType(t, vBag(vBag(), vBag()), bagOf(bagOf(x)), true)
		checkHasType(t, impl.Value{Kind: impl.VaBag, Args: []impl.Value{}}, bagOf(x), true)
	}
	checkNoValue(t, bagOf(tInt), vInts(1, 2), vInt(1), vBool(1), vRec(""), vRec("a", vInt(1)), vNode(impl.VaRec, 0, "", vInt(1)), impl.Value{},
		vBag(vBag()), vBag(vInts(1)), vBag(vBool(1)), vBag(vBool(1), vInt(1), vInt(1)), vBag(vInt(1), vBool(1), vInt(1)), vBag(vInt(1), vInt(1), vBool(1)),
		vBag(vInt(1), vRec("a", vInt(1))), vBag(vInt(1), impl.Value{}), vBag(impl.Value{}, vInt(1)), vBag(vInt(1), vNode(impl.VaInt, 1, "", vInt(1))),
		vNode(impl.VaBag, 0, "a"), vNode(impl.VaBag, 0, "a", vInt(1)), vNode(impl.VaBag, 0, "a b", vInt(1), vInt(1)), impl.Value{Kind: impl.VaBag, Labels: []string{""}},
		vNode(impl.VaBag, 1, ""), vNode(impl.VaBag, 1, "", vInt(1)), vNode(impl.VaBag, -1, "", vInt(1)), vNode(impl.VaBag, 2, "", vInt(1), vInt(1)), vNode(impl.VaBag, math.MinInt, ""))
	row, rowType := vRec("a b", vInt(1), vBool(1)), recOf("a b", tInt, tBool)
	checkNoValue(t, bagOf(rowType), vBag(row, row, row),
		row, vBag(vInt(1)), vBag(vBag(row)), vBag(row, vRec("a", vInt(1)), row), vBag(row, row, vRec("a c", vInt(1), vBool(1))), vBag(vRec("a b", vBool(1), vInt(1)), row), vBag(row, vRec("a b", vInt(1), vBool(2))))
	for at := range 50 {
		list := slices.Repeat([]impl.Value{vInt(1)}, 50)
		checkHasType(t, vBag(list...), bagOf(tInt), true)
		list[at] = vBool(1)
		checkHasType(t, vBag(list...), bagOf(tInt), false)
	}
}

func TestValuesOfOtherKinds(t *testing.T) {
	for _, kind := range []int{0, -1, -2, -3, -4, 5, 6, 7, 100, 256 + 1, 256 + 4, 1<<32 + 1, 1<<32 + 4, math.MaxInt, math.MinInt} {
		checkNoValue(t, tInt, vInt(0), vNode(kind, 0, ""), vNode(kind, 1, ""))
		checkNoValue(t, tBool, vBool(0), vNode(kind, 0, ""), vNode(kind, 1, ""))
		checkNoValue(t, recOf("a", tInt), vRec("a", vInt(1)), vNode(kind, 0, "a", vInt(1)), vNode(kind, 0, ""), vNode(kind, 0, "", vInt(1)), vRec("a", vNode(kind, 1, "")))
		checkNoValue(t, bagOf(tInt), vInts(1), vNode(kind, 0, "", vInt(1)), vNode(kind, 0, ""), vBag(vNode(kind, 0, "")))
	}
}

func TestValuesOfTheGreatestSize(t *testing.T) {
	ints := func(n int) impl.Value { return vBag(slices.Repeat([]impl.Value{vInt(1)}, n)...) }
	row := vRec("a b", vInt(1), ints(0))
	for _, c := range []struct {
		make func(n int) impl.Value
		x    impl.Type
		size func(n int) int
	}{
		{ints, bagOf(tInt), func(n int) int { return n + 1 }},
		{func(n int) impl.Value { return vBag(ints(n)) }, bagOf(bagOf(tInt)), func(n int) int { return n + 2 }},
		{func(n int) impl.Value { return vBag(ints(n), ints(3)) }, bagOf(bagOf(tInt)), func(n int) int { return n + 6 }},
		{func(n int) impl.Value { return vBag(slices.Repeat([]impl.Value{ints(0)}, n)...) }, bagOf(bagOf(tInt)), func(n int) int { return n + 1 }},
		{func(n int) impl.Value { return vRec("a b", ints(n-1000), ints(1000)) }, recOf("a b", bagOf(tInt), bagOf(tInt)), func(n int) int { return n + 3 }},
		{func(n int) impl.Value {
			return vBag(append(slices.Repeat([]impl.Value{row}, 600), vRec("a b", vInt(2), ints(n-1800)))...)
		}, bagOf(recOf("a b", tInt, bagOf(tInt))), func(n int) int { return n + 4 }},
	} {
		for n := 1990; n < 2010; n++ {
			v := c.make(n)
			if nodesOfValue(v) != c.size(n) {
				t.Fatal("size", n)
			}
			checkSize(t, v, c.size(n))
			checkHasType(t, v, c.x, c.size(n) <= 2000)
			v.N = 1
			checkHasType(t, v, c.x, false)
		}
	}
	last := append(slices.Repeat([]impl.Value{vInt(1)}, 1998), vBool(1))
	checkHasType(t, vBag(last...), bagOf(tInt), false)
}

func TestTypesThatAreNoDataTypes(t *testing.T) {
	one := vInt(1)
	f := funOf(tInt, tInt)
	for _, v := range []impl.Value{
		one, vBool(1), vBag(), vInts(1), vBag(vBag()), vBag(one, vBool(1)), vRec(""), vRec("a", one), vRec("a", vBag()), vRec("b a", one, one), vRec("a b", one, one), vRec("a a", one, one), vRec("if", one),
		vRec("a b c d e", one, one, one, one, one), vNode(impl.VaInt, 1, "a"), vNode(impl.VaBool, 1, "a"), vNode(impl.VaBag, 0, "a"), vNode(impl.VaInt, 1, "", one), impl.Value{}, vNode(5, 0, "", one, one), vNode(5, 0, ""), vNode(6, 0, ""),
	} {
		for _, x := range []impl.Type{
			{}, node(6, nil), node(-1, nil), f, funOf(bagOf(tInt), tBool), bagOf(f), recOf("a", f), recOf("a b", tInt, f), bagOf(bagOf(f)), recOf("a", bagOf(f)),
			recOf(""), recOf("a"), recOf("", tInt), recOf("a", tInt, tInt), recOf("b a", tInt, tInt), recOf("a a", tInt, tInt), recOf("if", tInt), recOf("a b c d e", tInt, tInt, tInt, tInt, tInt),
			node(impl.TyInt, []string{"a"}), node(impl.TyInt, nil, tInt), node(impl.TyBool, []string{"a"}), node(impl.TyBool, nil, tBool), node(impl.TyBag, nil), node(impl.TyBag, nil, tInt, tInt), node(impl.TyBag, []string{"a"}, tInt),
			bagOf(node(impl.TyBag, nil)), bagOf(impl.Type{}), bagOf(node(impl.TyInt, []string{"a"})), recOf("a", recOf("")), recOf("a", impl.Type{}), recOf("a b", tInt, recOf("a")),
			nestedType(7, tInt, bagOf), recOf("a", nestedType(6, tInt, bagOf)),
		} {
			checkHasType(t, v, x, false)
		}
	}
	checkHasType(t, vBag(), nestedType(6, tInt, bagOf), true)
	four := recOf("a b c d", tInt, tInt, tInt, tInt)
	three := recOf("a b c", tInt, tInt, tInt)
	row := vRec("a b c d", one, one, one, one)
	checkHasType(t, vRec("a b c d", row, row, row, vRec("a b c d", one, one, one, vRec("a b c", one, one, one))), recOf("a b c d", four, four, four, recOf("a b c d", tInt, tInt, tInt, three)), true)
	checkHasType(t, vRec("a b c d", row, row, row, vRec("a b c d", one, one, one, row)), recOf("a b c d", four, four, four, recOf("a b c d", tInt, tInt, tInt, four)), false)
	checkHasType(t, vRec("a b c d e", one, one, one, one, one), recOf("a b c d e", tInt, tInt, tInt, tInt, tInt), false)
}

func TestAllSmallValuesAndTypes(t *testing.T) {
	heads := []impl.Value{vInt(0), vInt(-1), vBool(0), vBool(1), vBool(2), vRec(""), vRec("a"), vRec("a b"), vRec("b"), vNode(impl.VaRec, 1, "a"), vBag(), vNode(impl.VaBag, 1, ""), vNode(impl.VaBag, 0, "a"), {}, vNode(5, 0, "")}
	all := append(typesOver([]int{1, 2, 4}, [][]string{nil}, 3),
		recOf("a", tInt), recOf("b", tBool), recOf("a b", tInt, tBool), recOf("a", bagOf(tInt)), bagOf(recOf("a", tInt)), bagOf(recOf("a", bagOf(tBool))), recOf("a", recOf("b", tBool)), recOf("", tInt), funOf(tInt, tInt), impl.Type{})
	having := 0
	for _, v := range valuesOver(heads, 3) {
		checkSize(t, v, nodesOfValue(v))
		for _, x := range all {
			want := hasTypeBySentences(v, x)
			checkHasType(t, v, x, want)
			if want {
				having++
			}
		}
	}
	if having < 40 {
		t.Errorf("only %d values have a type", having)
	}
}

// checkAscending checks that each value precedes all those after it.
func checkAscending(t *testing.T, list ...impl.Value) {
	t.Helper()
	for i, a := range list {
		for j, b := range list {
			checkPair(t, a, b)
			if got := impl.CompareValues(a, b); got != signOf(i, j) {
				t.Errorf("CompareValues(%v, %v) = %d", a, b, got)
			}
		}
	}
}

func TestCompareValuesStepByStep(t *testing.T) {
	one := vInt(1)
	// The kind comes first, whatever else there is.
	checkAscending(t, vNode(math.MinInt, 9, "z", one, one), vNode(-1, 8, "y", one), impl.Value{}, vNode(impl.VaInt, 3, "b", one), vNode(impl.VaBool, 2, "a"), vNode(impl.VaRec, -1, ""), vNode(impl.VaBag, -2, ""), vNode(5, -3, ""), vNode(math.MaxInt, math.MinInt, ""))
	for kind := range 7 {
		// Then N, then the number of Args, then the Labels, then the Args, each of which would decide otherwise.
		checkAscending(t, vNode(kind, math.MinInt, "c", one, one), vNode(kind, -1, "b", one), vNode(kind, 0, "a"), vNode(kind, 1, ""), vNode(kind, math.MaxInt, ""))
		checkAscending(t, vNode(kind, 0, "c"), vNode(kind, 0, "b", vInt(3)), vNode(kind, 0, "a", vInt(2), vInt(2)), vNode(kind, 0, "", one, one, one))
		checkAscending(t, vNode(kind, 0, "", vInt(3)), vNode(kind, 0, "a", vInt(2)), vNode(kind, 0, "b", vInt(1)), vNode(kind, 0, "b", vInt(2)))
		checkAscending(t, vNode(kind, 0, "a b", vInt(1), vInt(9)), vNode(kind, 0, "a b", vInt(2), vInt(3)), vNode(kind, 0, "a b", vInt(2), vInt(4)), vNode(kind, 0, "a b", vInt(3), vInt(0)))
	}
	checkAscending(t, vInt(math.MinInt), vInt(-1), vInt(0), vInt(1), vInt(math.MaxInt), vBool(0), vBool(1), vRec("a", vInt(1)), vRec("a", vInt(2)), vRec("a", vBool(0)), vRec("b", vInt(1)), vRec("a b", vInt(0), vInt(0)), vBag(), vInts(-5), vInts(1), vInts(1, 1), vInts(1, 2), vInts(2, 0), vInts(0, 0, 0))
}

func TestCompareValuesByLabels(t *testing.T) {
	lists := [][]string{nil, {""}, {"", ""}, {"", "b"}, {"A"}, {"Z", "z"}, {"a"}, {"a", ""}, {"a", "a"}, {"a", "a", "z"}, {"a", "ab"}, {"a", "b"}, {"a", "b", "a"}, {"a", "ba"}, {"a\x00"}, {"a b"}, {"aa"}, {"ab"}, {"ab", "a"}, {"b"}, {"b", "a"}, {"z", "z"}, {"\x7f"}, {"\x80"}, {"é"}, {"\xff"}, {"\xff\xff"}}
	for _, kind := range []int{impl.VaInt, impl.VaRec, impl.VaBag, 0, -7} {
		for _, args := range [][]impl.Value{nil, {vInt(1)}, {vInt(1), vInts(2, 3)}} {
			var list []impl.Value
			for _, labels := range lists {
				list = append(list, impl.Value{Kind: kind, Labels: labels, Args: args})
			}
			checkAscending(t, list...)
		}
	}
}

func TestCompareValuesByTheFirstArgsThatDiffer(t *testing.T) {
	// A difference further inside of an earlier part decides before one of a later part further outside.
	checkAscending(t,
		vBag(vBag(vInts(1), vInts(9)), vInt(0)),
		vBag(vBag(vInts(2), vInts(3)), vInt(7)),
		vBag(vBag(vInts(2), vInts(4)), vInt(5)),
		vBag(vBag(vInts(2), vInts(4)), vInt(6)),
		vBag(vBag(vInts(2), vInts(4)), vBool(0)),
		vBag(vBag(vInts(2), vInts(1, 1)), vInt(0)),
		vBag(vBag(vInts(2), vNode(5, 0, "")), vNode(-1, 0, "")),
		vBag(vBag(vInts(1, 1), vInts(1)), vInt(0)))
	checkAscending(t,
		vRec("a b c", vInts(1), vInts(2, 2), vInt(9)),
		vRec("a b c", vInts(1), vInts(2, 3), vInt(1)),
		vRec("a b c", vInts(1), vInts(2, 3), vInt(2)),
		vRec("a b c", vInts(1), vInts(3, 0), vInt(0)),
		vRec("a b c", vInts(2), vInts(0), vInt(0)),
		vRec("a b c", vInts(2), vInts(0), vRec("a", vInt(0))),
		vRec("a b d", vInts(1), vInts(0), vInt(0)))
	// Values are not made canonical for it.
	checkAscending(t, vInts(1, 2), vInts(2, 1))
	checkAscending(t, vBag(vInts(1, 2), vInts(3)), vBag(vInts(2, 1), vInts(0)))
}

func TestAllSmallValuesInPairs(t *testing.T) {
	for _, heads := range [][]impl.Value{{vInt(0), vInt(1), vBag()}, {vInt(0), vRec("a"), vBag()}} {
		all := valuesOver(heads, 4)
		for _, a := range all {
			for _, b := range all {
				checkPair(t, a, b)
			}
		}
	}
	mixed := valuesOver([]impl.Value{vInt(-1), vBool(0), vRec("a"), vRec("b"), vRec("a b"), vNode(impl.VaRec, 1, "a"), vBag(), vNode(impl.VaBag, 1, ""), vNode(impl.VaBag, 0, "a"), {}}, 2)
	for _, a := range mixed {
		for _, b := range mixed {
			checkPair(t, a, b)
			checkPair(t, vBag(a, b), vBag(b, a))
			checkPair(t, vRec("a b", a, b), vRec("a b", b, a))
		}
	}
}

func TestCanonValue(t *testing.T) {
	for _, c := range [][2]impl.Value{
		{vInt(5), vInt(5)}, {vInt(math.MinInt), vInt(math.MinInt)}, {vBool(1), vBool(1)}, {vBag(), vBag()}, {vInts(1), vInts(1)}, {vRec("a b", vInt(2), vInt(1)), vRec("a b", vInt(2), vInt(1))},
		{vInts(2, 1), vInts(1, 2)}, {vInts(3, 1, 2, 1, 3, 1), vInts(1, 1, 1, 2, 3, 3)}, {vInts(0, -1, math.MaxInt, math.MinInt), vInts(math.MinInt, -1, 0, math.MaxInt)},
		{vBag(vBool(1), vBool(0), vBool(1)), vBag(vBool(0), vBool(1), vBool(1))}, {vBag(vBag(), vInt(3), vRec("a", vInt(1)), vBool(0)), vBag(vInt(3), vBool(0), vRec("a", vInt(1)), vBag())},
		// Bags within bags are sorted first, so that the outer one is sorted by what they are then.
		{vBag(vInts(3, 1), vInts(2, 2)), vBag(vInts(1, 3), vInts(2, 2))}, {vBag(vInts(2, 2), vInts(3, 1)), vBag(vInts(1, 3), vInts(2, 2))},
		{vBag(vInts(9, 0), vInts(5), vInts(1, 2), vInts()), vBag(vInts(), vInts(5), vInts(0, 9), vInts(1, 2))},
		{vBag(vInts(2, 1), vInts(1, 2), vInts(2, 1)), vBag(vInts(1, 2), vInts(1, 2), vInts(1, 2))},
		{vBag(vBag(vInts(3, 2), vInts(1, 4)), vBag(vInts(4, 1), vInts(0, 9))), vBag(vBag(vInts(0, 9), vInts(1, 4)), vBag(vInts(1, 4), vInts(2, 3)))},
		{vBag(vBag(vBag(vInts(2, 1)))), vBag(vBag(vBag(vInts(1, 2))))},
		// The fields of records stay where they are, and the bags in them are sorted.
		{vRec("a b", vInts(2, 1), vInts(1, 0)), vRec("a b", vInts(1, 2), vInts(0, 1))}, {vRec("b a", vInts(9), vInts(1, 0)), vRec("b a", vInts(9), vInts(0, 1))},
		{vRec("a", vRec("b c", vInt(2), vBag(vInts(3, 2), vInts(1, 4)))), vRec("a", vRec("b c", vInt(2), vBag(vInts(1, 4), vInts(2, 3))))},
		{vBag(vRec("a b", vInt(2), vInt(1)), vRec("a b", vInt(1), vInt(2)), vRec("a b", vInt(1), vInt(1))), vBag(vRec("a b", vInt(1), vInt(1)), vRec("a b", vInt(1), vInt(2)), vRec("a b", vInt(2), vInt(1)))},
		{vBag(vRec("a", vInts(3, 1)), vRec("a", vInts(2, 2)), vRec("a", vInts(1, 3))), vBag(vRec("a", vInts(1, 3)), vRec("a", vInts(1, 3)), vRec("a", vInts(2, 2)))},
		{vBag(vRec("a b", vInts(2, 1), vInts(4, 3)), vRec("a b", vInts(1, 2), vInts(3, 3))), vBag(vRec("a b", vInts(1, 2), vInts(3, 3)), vRec("a b", vInts(1, 2), vInts(3, 4)))},
		// Values that are not well formed.
		{impl.Value{}, impl.Value{}}, {vNode(9, 3, "b a", vInt(2), vInt(1)), vNode(9, 3, "b a", vInt(2), vInt(1))}, {vNode(impl.VaInt, 3, "", vInts(2, 1), vInt(0)), vNode(impl.VaInt, 3, "", vInts(1, 2), vInt(0))},
		{vNode(impl.VaBag, 7, "b a", vInt(2), vInt(1)), vNode(impl.VaBag, 7, "b a", vInt(1), vInt(2))}, {vRec("", vInts(2, 1), vInts(0)), vRec("", vInts(1, 2), vInts(0))}, {vNode(0, 0, "", vNode(-4, 0, "", vInts(2, 1)), vInt(0)), vNode(0, 0, "", vNode(-4, 0, "", vInts(1, 2)), vInt(0))},
		{vBag(vNode(9, 0, ""), vNode(impl.VaBag, 1, ""), vNode(impl.VaInt, 0, "", vInts(2, 1)), vNode(impl.VaInt, 0, "", vInts(1, 2)), vNode(-9, 5, "")), vBag(vNode(-9, 5, ""), vNode(impl.VaInt, 0, "", vInts(1, 2)), vNode(impl.VaInt, 0, "", vInts(1, 2)), vNode(impl.VaBag, 1, ""), vNode(9, 0, ""))},
	} {
		checkCanon(t, c[0], c[1])
		checkCanon(t, vBag(c[0]), vBag(c[1]))
		checkCanon(t, vRec("a b", c[0], c[0]), vRec("a b", c[1], c[1]))
		checkCanon(t, vBag(vNode(9, 0, ""), c[0], vNode(-1, 0, "")), canonBySentences(vBag(vNode(-1, 0, ""), vNode(9, 0, ""), c[1])))
	}
	for _, v := range valuesOver([]impl.Value{vInt(0), vRec("a"), vBag()}, 6) {
		if got, want := impl.CanonValue(v), canonBySentences(v); !sameValue(got, want) {
			t.Errorf("CanonValue(%v) = %v", v, got)
		}
	}
}

// orders returns the values of a list in all orders.
func orders(list []impl.Value) [][]impl.Value {
	if len(list) == 0 {
		return [][]impl.Value{nil}
	}
	var all [][]impl.Value
	for i, v := range list {
		for _, rest := range orders(slices.Delete(slices.Clone(list), i, i+1)) {
			all = append(all, append([]impl.Value{v}, rest...))
		}
	}
	return all
}

func TestSameBagInAllOrders(t *testing.T) {
	row := func(n int) impl.Value { return vRec("a b", vInts(n, 1), vInt(n)) }
	for _, list := range [][]impl.Value{
		{vInt(3), vInt(1), vInt(2), vInt(1)}, {vInts(2, 1), vInts(1, 2), vInts(), vInts(3)}, {row(1), row(2), row(2), row(0)}, {vBag(row(1), row(2)), vBag(row(2), row(1)), vBag(row(2)), vBag()},
		{vInt(1), vBool(1), vRec("a", vInt(1)), vInts(1)},
	} {
		bag := vBag(list...)
		for _, order := range orders(list) {
			other := vBag(order...)
			checkSameBag(t, bag, other, true)
			checkSameBag(t, vBag(bag, other, vBag()), vBag(vBag(), bag, bag), true)
			checkSameBag(t, vRec("a b", bag, other), vRec("a b", other, bag), true)
			checkSameBag(t, vBag(vRec("a b", other, vInt(1)), vRec("a b", bag, vInt(0))), vBag(vRec("a b", other, vInt(0)), vRec("a b", other, vInt(1))), true)
			// An element once more or less.
			for _, wrong := range []impl.Value{vBag(order[1:]...), vBag(append(slices.Clone(order), order[0])...), vBag(append(slices.Clone(order[1:]), vInt(77))...)} {
				checkSameBag(t, bag, wrong, false)
				checkSameBag(t, vBag(bag, other), vBag(wrong, bag), false)
				checkSameBag(t, vRec("a", bag), vRec("a", wrong), false)
				checkSameBag(t, vBag(vRec("a", bag), vRec("a", other)), vBag(vRec("a", wrong), vRec("a", other)), false)
			}
		}
	}
}

func TestSameBag(t *testing.T) {
	row := vRec("a b", vInt(1), vInt(2))
	for _, c := range []struct {
		a, b impl.Value
		want bool
	}{
		{vInt(1), vInt(1), true}, {vInt(1), vInt(2), false}, {vInt(1), vBool(1), false}, {vInt(0), vBag(), false}, {vBag(), vBag(), true}, {vBag(), vBag(vBag()), false}, {vBag(), vRec(""), false},
		{vInts(1, 1, 2), vInts(1, 2, 2), false}, {vInts(1, 1, 2, 2), vInts(2, 1, 2, 1), true}, {vInts(1), vInt(1), false}, {vInts(1, 2), vBag(vInt(1), vBool(2)), false},
		{row, row, true}, {row, vRec("a b", vInt(2), vInt(1)), false}, {row, vRec("b a", vInt(2), vInt(1)), false}, {row, vRec("a c", vInt(1), vInt(2)), false}, {row, vRec("a", vInt(1)), false},
		{vBag(row, vRec("a b", vInt(2), vInt(1))), vBag(vRec("a b", vInt(2), vInt(1)), row), true}, {vBag(row), vBag(vRec("a b", vInt(2), vInt(1))), false}, {vBag(row, row), vBag(row), false},
		{vBag(vInts(1, 2), vInts(3)), vBag(vInts(1), vInts(2, 3)), false}, {vBag(vInts(1, 2), vInts(3)), vBag(vInts(3), vInts(2, 1)), true}, {vBag(vInts(1), vInts(1)), vBag(vInts(1, 1)), false}, {vBag(vInts(1), vInts()), vInts(1), false},
		{vRec("a b", vInts(1, 2), vInts(3)), vRec("a b", vInts(3), vInts(1, 2)), false}, {vRec("a b", vInts(1, 2), vInts(3)), vRec("a b", vInts(2, 1), vInts(3)), true},
		// Values that are not well formed: only the Args of bags have no order.
		{vNode(9, 0, "", vInt(1), vInt(2)), vNode(9, 0, "", vInt(2), vInt(1)), false}, {vNode(9, 0, "", vInts(1, 2)), vNode(9, 0, "", vInts(2, 1)), true}, {vNode(impl.VaInt, 0, "", vInt(1), vInt(2)), vNode(impl.VaInt, 0, "", vInt(2), vInt(1)), false},
		{vNode(impl.VaBag, 1, "a", vInt(1), vInt(2)), vNode(impl.VaBag, 1, "a", vInt(2), vInt(1)), true}, {vNode(impl.VaBag, 1, ""), vBag(), false}, {vNode(impl.VaBag, 0, "a"), vBag(), false}, {vNode(impl.VaBag, 0, "a b"), vNode(impl.VaBag, 0, "b a"), false},
		{impl.Value{}, impl.Value{}, true}, {impl.Value{}, vInt(0), false}, {impl.Value{N: 1}, impl.Value{}, false},
	} {
		checkSameBag(t, c.a, c.b, c.want)
		checkSameBag(t, vBag(c.a), vBag(c.b), c.want)
		checkSameBag(t, vBag(c.a, row, c.b), vBag(c.b, c.b, row), c.want)
		checkSameBag(t, vRec("a b", c.a, c.b), vRec("a b", c.b, c.b), c.want)
	}
}

func TestCountIn(t *testing.T) {
	bag := vInts(3, 1, 3, 2, 3)
	for n, want := range []int{0, 1, 1, 3, 0} {
		checkCount(t, bag, vInt(n), want)
	}
	checkCount(t, bag, vBool(1), 0)
	checkCount(t, bag, bag, 0)
	checkCount(t, vBag(), vInt(1), 0)
	checkCount(t, vBag(), vBag(), 0)
	checkCount(t, vBag(vBag()), vBag(), 1)
	checkCount(t, vBag(vBag(), vInts(1), vBag()), vBag(), 2)

	// The elements, the value that is counted, or both are not canonical.
	nested := vBag(vInts(1, 2), vInts(2, 1), vInts(1, 2, 2), vInts(1), vInts(2, 1, 2), vInts(2, 1))
	checkCount(t, nested, vInts(1, 2), 3)
	checkCount(t, nested, vInts(2, 1), 3)
	checkCount(t, nested, vInts(2, 2, 1), 2)
	checkCount(t, nested, vInts(1, 1, 2), 0)
	checkCount(t, nested, vInts(1), 1)
	checkCount(t, nested, vInt(1), 0)
	row := func(n int, list ...int) impl.Value { return vRec("a b", vInts(list...), vInt(n)) }
	rows := vBag(row(1, 1, 2), row(1, 2, 1), row(2, 1, 2), row(1), row(1, 2))
	checkCount(t, rows, row(1, 1, 2), 2)
	checkCount(t, rows, row(1, 2, 1), 2)
	checkCount(t, rows, row(2, 2, 1), 1)
	checkCount(t, rows, row(2, 2), 0)
	checkCount(t, vBag(nested, nested, vBag()), vBag(slices.Clone(nested.Args)...), 2)
	for _, order := range orders(nested.Args[:5]) {
		checkCount(t, vBag(vBag(order...), nested, vBag(nested.Args[:5]...)), vBag(order...), 2)
	}

	// Only elements of the bag itself are counted, and only those of a bag.
	checkCount(t, vBag(vInts(1, 1), vInt(1)), vInt(1), 1)
	for _, no := range []impl.Value{vInt(3), vBool(1), vRec("a", vInt(3)), vRec("a b", vInt(3), vInt(3)), vNode(impl.VaInt, 0, "", vInt(3)), vNode(impl.VaBool, 0, "", vInt(3)), vNode(0, 0, "", vInt(3)), vNode(5, 0, "", vInt(3)), vNode(-4, 0, "", vInt(3)), vNode(1<<32+4, 0, "", vInt(3)), {}} {
		checkCount(t, no, vInt(3), 0)
		checkCount(t, no, no, 0)
		checkCount(t, vBag(no, vInt(3), no), no, 2+map[bool]int{true: 1}[sameValue(no, vInt(3))])
	}
	// A bag that is not well formed has the kind of bags, and so may its elements be anything.
	checkCount(t, vNode(impl.VaBag, 7, "a", vInt(3), vInt(3), vInt(1)), vInt(3), 2)
	checkCount(t, vBag(vNode(9, 1, "a"), vNode(9, 1, "b"), vNode(9, 1, "a"), vNode(9, 0, "a")), vNode(9, 1, "a"), 2)
}

func TestCountInAgreesWithSameBag(t *testing.T) {
	all := valuesOver([]impl.Value{vInt(0), vRec("a"), vBag()}, 4)
	bag := vBag(all...)
	for _, v := range all {
		want := 0
		for _, w := range all {
			if sameUpToOrder(v, w) {
				want++
			}
		}
		checkCount(t, bag, v, want)
	}
}

// emptiedValue returns v with empty slices in place of nil ones.
func emptiedValue(v impl.Value) impl.Value {
	out := impl.Value{Kind: v.Kind, N: v.N, Labels: append([]string{}, v.Labels...), Args: []impl.Value{}}
	for _, a := range v.Args {
		out.Args = append(out.Args, emptiedValue(a))
	}
	return out
}

// nilledValue returns v with nil slices in place of empty ones.
func nilledValue(v impl.Value) impl.Value {
	out := impl.Value{Kind: v.Kind, N: v.N, Labels: append([]string(nil), v.Labels...)}
	for _, a := range v.Args {
		out.Args = append(out.Args, nilledValue(a))
	}
	return out
}

func TestNilAndEmptySlicesOfValues(t *testing.T) {
	for _, c := range []struct {
		v impl.Value
		x impl.Type
	}{
		{vInt(1), tInt}, {vBool(1), tBool}, {vBag(), bagOf(tInt)}, {vInts(2, 1), bagOf(tInt)}, {vBag(vBag(), vInts(2, 1)), bagOf(bagOf(tInt))}, {vRec("a b", vInt(1), vBag(vInts(), vInts(1))), recOf("a b", tInt, bagOf(bagOf(tInt)))},
	} {
		e, n := emptiedValue(c.v), nilledValue(c.v)
		for _, v := range []impl.Value{e, n} {
			checkHasType(t, v, c.x, true)
			checkHasType(t, v, emptied(c.x), true)
			checkSize(t, v, nodesOfValue(c.v))
			checkCanon(t, v, canonBySentences(c.v))
			checkCount(t, vBag(e, n, c.v), v, 3)
		}
		checkSameBag(t, e, n, true)
		if impl.CompareValues(e, n) != 0 || impl.CompareValues(n, e) != 0 {
			t.Errorf("%v differs with empty slices", c.v)
		}
	}
	checkSameBag(t, emptiedValue(vNode(9, 1, "")), nilledValue(vNode(9, 1, "")), true)
}

// valueWithSpare returns v in new memory, with unused capacity in every slice.
func valueWithSpare(v impl.Value) impl.Value {
	labels, _ := argument(v.Labels...)
	args := make([]impl.Value, len(v.Args), len(v.Args)+2)
	for i, a := range v.Args {
		args[i] = valueWithSpare(a)
	}
	for i := len(args); i < cap(args); i++ {
		args[:cap(args)][i].N = 99
	}
	return impl.Value{Kind: v.Kind, N: v.N, Labels: labels, Args: args}
}

// wholeValue returns v with the unused capacity of its slices, all in new memory.
func wholeValue(v impl.Value) impl.Value {
	out := impl.Value{Kind: v.Kind, N: v.N, Labels: slices.Clone(v.Labels[:cap(v.Labels)])}
	for _, a := range v.Args[:cap(v.Args)] {
		out.Args = append(out.Args, wholeValue(a))
	}
	return out
}

// overwriteValue changes all memory of v.
func overwriteValue(v impl.Value) {
	for i := range v.Labels[:cap(v.Labels)] {
		v.Labels[:cap(v.Labels)][i] = "overwritten"
	}
	for i, a := range v.Args[:cap(v.Args)] {
		overwriteValue(a)
		v.Args[:cap(v.Args)][i] = impl.Value{Kind: 77}
	}
}

func TestValuesAreKept(t *testing.T) {
	row := vRec("a b", vInts(3, 1, 2), vBool(1))
	for _, v := range []impl.Value{
		vInt(5), vBool(0), vInts(3, 1, 2), row, vBag(row, vInt(1), row), vBag(vInts(2, 1), vInts(1, 2), vBag()), vRec("b a", vBag(row, row), vInts(9, 8)),
		{}, vNode(9, 4, "b a", vInts(2, 1), row), vNode(impl.VaBag, 3, "z y", vInt(2), vInt(1)), vBag(vBag(vBag(vInts(2, 1), vInts(1, 0)))),
	} {
		arg, other := valueWithSpare(v), valueWithSpare(v)
		x := withSpare(bagOf(recOf("a b", bagOf(tInt), tBool)))
		before, typeBefore := wholeValue(arg), wholeType(x)
		impl.SizeOfValue(arg)
		impl.HasType(arg, x)
		impl.HasType(vBag(arg, arg), x)
		impl.CompareValues(arg, other)
		impl.CompareValues(vBag(arg, vInt(1)), vBag(other, vInt(0)))
		impl.SameBag(arg, other)
		impl.CountIn(arg, other)
		impl.CountIn(vBag(arg, other), arg)
		got, again := impl.CanonValue(arg), impl.CanonValue(arg)
		overwriteValue(got)
		if !sameValue(again, canonBySentences(v)) {
			t.Errorf("CanonValue(%v) became %v", v, again)
		}
		if !sameValue(wholeValue(arg), before) || !sameValue(wholeValue(other), before) {
			t.Errorf("the memory of %v became %v", v, wholeValue(arg))
		}
		if !sameType(wholeType(x), typeBefore) {
			t.Errorf("the memory of the type became %v", wholeType(x))
		}
	}
}

func TestSlicesOfACanonicalValueAreApart(t *testing.T) {
	shared := vRec("a b", vInts(2, 1), vInt(1))
	v := vBag(shared, vBag(shared, shared), vRec("c d", shared, shared.Args[0]), shared)
	want := canonBySentences(v)
	for i := range want.Args {
		got := impl.CanonValue(v)
		overwriteValue(got.Args[i])
		for j, a := range got.Args {
			if j != i && !sameValue(a, want.Args[j]) {
				t.Errorf("the element %d became %v", j, a)
			}
			// What lies behind the end of one slice is not part of another one.
			_ = append(a.Args, vNode(66, 6, "z"))
			_ = append(a.Labels, "z")
		}
		for j, a := range got.Args {
			if j != i && !sameValue(a, want.Args[j]) {
				t.Errorf("the element %d became %v after an append", j, a)
			}
		}
	}
}

// nestedValue returns the value that around makes of leaf, n times.
func nestedValue(n int, leaf impl.Value, around func(impl.Value) impl.Value) impl.Value {
	for range n {
		leaf = around(leaf)
	}
	return leaf
}

func inBag(v impl.Value) impl.Value { return vBag(v) }

func TestValuesBeyondAllLimits(t *testing.T) {
	within := []impl.Value{{Kind: impl.VaBag}}
	within[0].Args = within
	doubled := nestedValue(200, vInt(1), func(v impl.Value) impl.Value { return vBag(v, v) })
	deep := nestedValue(100000, vInt(1), inBag)
	wide := vBag(make([]impl.Value, 100000)...)
	for i, v := range []impl.Value{within[0], doubled, deep, wide, vRec("a", deep), vBag(vInt(1), doubled), vRec("a b", vInt(1), within[0])} {
		for _, x := range []impl.Type{tInt, bagOf(tInt), nestedType(6, tInt, bagOf), recOf("a", bagOf(bagOf(tInt))), recOf("a b", tInt, bagOf(tInt))} {
			if impl.HasType(v, x) {
				t.Errorf("value %d has the type %v", i, x)
			}
		}
	}
	checkCount(t, vBag(make([]impl.Value, 5000)...), impl.Value{}, 5000)
}

func TestDeepValuesNeedNoStack(t *testing.T) {
	defer debug.SetMaxStack(debug.SetMaxStack(4 << 20))
	const depth = 200000
	low, high := nestedValue(depth, vInts(2, 1), inBag), nestedValue(depth, vInts(2, 2), inBag)
	again, sorted := nestedValue(depth, vInts(2, 1), inBag), nestedValue(depth, vInts(1, 2), inBag)
	if impl.SizeOfValue(low) != depth+3 || impl.HasType(low, bagOf(tInt)) {
		t.Error("size")
	}
	if impl.CompareValues(low, high) != -1 || impl.CompareValues(high, low) != 1 || impl.CompareValues(low, again) != 0 || impl.CompareValues(low, sorted) != 1 {
		t.Error("comparison")
	}
	if impl.CompareValues(impl.CanonValue(low), sorted) != 0 || !impl.SameBag(low, sorted) || impl.SameBag(low, high) {
		t.Error("canonical values")
	}
	if impl.CountIn(vBag(low, sorted, high, again), sorted) != 3 || impl.CountIn(low, low.Args[0]) != 1 {
		t.Error("count")
	}
	left := func(v impl.Value) impl.Value { return vBag(v, vInt(1)) }
	right := func(v impl.Value) impl.Value { return vBag(vInt(1), v) }
	if leftmost, rightmost := nestedValue(depth, vInt(1), left), nestedValue(depth, vInt(1), right); !impl.SameBag(leftmost, rightmost) || impl.CompareValues(leftmost, rightmost) != 1 {
		t.Error("other shapes")
	}
}
