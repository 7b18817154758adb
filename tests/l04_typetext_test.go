package tests

import (
	"reflect"
	"slices"
	"strings"
	"testing"

	"loop.example/g00587/impl"
)

// textBySentences is the representation of a type by the sentence of the document.
func textBySentences(x impl.Type) string {
	if !validBySentences(x) {
		return ""
	}
	var parts []string
	for _, a := range x.Args {
		parts = append(parts, textBySentences(a))
	}
	for i, l := range x.Labels {
		parts[i] = l + ":" + parts[i]
	}
	return map[int]string{impl.TyInt: "I", impl.TyBool: "B", impl.TyRec: "{", impl.TyBag: "[", impl.TyFun: "("}[x.Kind] +
		strings.Join(parts, map[int]string{impl.TyRec: ",", impl.TyFun: ">"}[x.Kind]) +
		map[int]string{impl.TyRec: "}", impl.TyBag: "]", impl.TyFun: ")"}[x.Kind]
}

// typeBySplitting reads a type by trying all places where its parts may end.
func typeBySplitting(s string) (impl.Type, bool) {
	x, ok := partBySplitting(s)
	return x, ok && validBySentences(x)
}

func partBySplitting(s string) (impl.Type, bool) {
	if s == "I" {
		return tInt, true
	}
	if s == "B" {
		return tBool, true
	}
	if len(s) < 3 {
		return impl.Type{}, false
	}
	switch inner := s[1 : len(s)-1]; s[:1] + s[len(s)-1:] {
	case "[]":
		x, ok := partBySplitting(inner)
		return bagOf(x), ok
	case "()":
		for i := range len(inner) {
			if from, ok := partBySplitting(inner[:i]); ok && inner[i] == '>' {
				to, ok := partBySplitting(inner[i+1:])
				return funOf(from, to), ok
			}
		}
	case "{}":
		return fieldsBySplitting(inner + ",")
	}
	return impl.Type{}, false
}

// fieldsBySplitting reads fields with a comma behind each of them.
func fieldsBySplitting(s string) (impl.Type, bool) {
	rec := node(impl.TyRec, nil)
	for s != "" {
		label, after, _ := strings.Cut(s, ":")
		end := 0
		var x impl.Type
		for ok := false; !ok; end++ {
			if end == len(after) {
				return impl.Type{}, false
			}
			x, ok = partBySplitting(after[:end])
			ok = ok && after[end] == ','
		}
		rec.Labels, rec.Args = append(rec.Labels, label), append(rec.Args, x)
		s = after[end:]
	}
	return rec, true
}

// checkTypeText says what the representation of x is, "" for none, and reads it back.
func checkTypeText(t *testing.T, x impl.Type, want string) {
	t.Helper()
	if got := impl.FormatType(x); got != want {
		t.Errorf("FormatType(%v) = %q, want %q", x, got, want)
	}
	if want != "" {
		checkReads(t, want, x)
	}
}

// checkNoText also puts x into types that would be valid but for it.
func checkNoText(t *testing.T, list ...impl.Type) {
	t.Helper()
	for _, x := range list {
		for _, whole := range []impl.Type{
			x, bagOf(x), funOf(x, tInt), funOf(tInt, x), recOf("a", x), recOf("a b", tInt, x), recOf("a b c", x, tInt, tBool), bagOf(recOf("a b", tBool, bagOf(x))),
		} {
			checkTypeText(t, whole, "")
		}
	}
}

func checkReads(t *testing.T, s string, want impl.Type) {
	t.Helper()
	if got, ok := impl.ParseType(s); !ok || !sameType(got, want) {
		t.Errorf("ParseType(%.80q) = %v, %v, want %v", s, got, ok, want)
	}
}

func checkReadsNothing(t *testing.T, list ...string) {
	t.Helper()
	for _, s := range list {
		if got, ok := impl.ParseType(s); ok || !reflect.DeepEqual(got, impl.Type{}) {
			t.Errorf("ParseType(%.80q) = %v, %v", s, got, ok)
		}
	}
}

// checkString compares what is read from any string with what splitting finds in it.
func checkString(t *testing.T, s string) (ok bool) {
	t.Helper()
	want, ok := typeBySplitting(s)
	if !ok {
		checkReadsNothing(t, s)
		return false
	}
	checkTypeText(t, want, s)
	return true
}

func TestTypesAndTheirTexts(t *testing.T) {
	row := recOf("a b", tInt, tBool)
	for want, x := range map[string]impl.Type{
		"I":                                     tInt,
		"B":                                     tBool,
		"[I]":                                   bagOf(tInt),
		"[B]":                                   bagOf(tBool),
		"[[I]]":                                 bagOf(bagOf(tInt)),
		"{a:I}":                                 recOf("a", tInt),
		"{a:B}":                                 recOf("a", tBool),
		"{a:I,b:B}":                             row,
		"{a:B,b:I}":                             recOf("a b", tBool, tInt),
		"{x123:I}":                              recOf("x123", tInt),
		"{i:I,if0:B,ifs:I}":                     recOf("i if0 ifs", tInt, tBool, tInt),
		"{a:I,a0:B,aa:I,b:B}":                   recOf("a a0 aa b", tInt, tBool, tInt, tBool),
		"{a:I,b:[{c:B}]}":                       recOf("a b", tInt, bagOf(recOf("c", tBool))),
		"{a:[{c:B}],b:I}":                       recOf("a b", bagOf(recOf("c", tBool)), tInt),
		"{a:{a:{a:I}}}":                         recOf("a", recOf("a", recOf("a", tInt))),
		"{a:{a:I,b:B},b:I}":                     recOf("a b", row, tInt),
		"{a:{a:I},b:B}":                         recOf("a b", recOf("a", tInt), tBool),
		"[{a:I,b:B}]":                           bagOf(row),
		"(I>B)":                                 funOf(tInt, tBool),
		"(B>I)":                                 funOf(tBool, tInt),
		"(I>[I])":                               funOf(tInt, bagOf(tInt)),
		"([I]>I)":                               funOf(bagOf(tInt), tInt),
		"((I>B)>I)":                             funOf(funOf(tInt, tBool), tInt),
		"(I>(B>I))":                             funOf(tInt, funOf(tBool, tInt)),
		"((I>I)>(B>B))":                         funOf(funOf(tInt, tInt), funOf(tBool, tBool)),
		"([{a:I,b:B}]>{c:[I]})":                 funOf(bagOf(row), recOf("c", bagOf(tInt))),
		"({a:I,b:B}>(I>[B]))":                   funOf(row, funOf(tInt, bagOf(tBool))),
		"[{b:[{a:I,b:B}],i:[[I]],z:{a:I,b:B}}]": bagOf(recOf("b i z", bagOf(row), bagOf(bagOf(tInt)), row)),
	} {
		checkTypeText(t, x, want)
		if !checkString(t, want) || textBySentences(x) != want {
			t.Errorf("%q is no type by splitting, or another one than %v", want, x)
		}
	}
}

func TestTextsOfAllSmallTypes(t *testing.T) {
	texts := map[string]impl.Type{}
	for _, x := range slices.Concat(
		typesOver([]int{0, 1, 2, 3, 4, 5, 6, -3}, [][]string{nil, {"a"}, {"b", "a"}, {"a", "b"}}, 3),
		typesOver([]int{1, 3, 4, 5}, [][]string{nil, {"a"}, {"a", "b"}}, 4)) {
		s := textBySentences(x)
		checkTypeText(t, x, s)
		if before, ok := texts[s]; ok && s != "" && !sameType(before, x) {
			t.Errorf("%v and %v have the same text", before, x)
		}
		texts[s] = x
	}
	if len(texts) < 40 {
		t.Errorf("only %d texts", len(texts))
	}
}

func TestTypesWithoutText(t *testing.T) {
	f := funOf(tInt, tBool)
	checkNoText(t,
		impl.Type{}, node(6, nil), node(-1, nil, tInt), node(256+1, nil), node(1<<32+4, nil, tInt), node(7, []string{"a"}, tInt), node(9, nil, tInt, tInt),
		node(impl.TyInt, nil, tInt), node(impl.TyBool, nil, tBool), node(impl.TyInt, []string{"a"}), node(impl.TyBool, []string{"a"}, tInt), node(impl.TyBool, []string{""}),
		node(impl.TyBag, nil), node(impl.TyBag, nil, tInt, tInt), node(impl.TyBag, []string{"a"}, tInt), node(impl.TyBag, []string{"a", "b"}, tInt, tInt),
		node(impl.TyFun, nil), node(impl.TyFun, nil, tInt), node(impl.TyFun, nil, tInt, tInt, tInt), node(impl.TyFun, []string{"a", "b"}, tInt, tInt), node(impl.TyFun, []string{"a"}, tInt, tInt),
		node(impl.TyRec, nil), node(impl.TyRec, nil, tInt), recOf("a"), recOf("a", tInt, tInt), recOf("a b", tInt), recOf("a b c d", tInt, tInt, tInt),
		recOf("a b c d e", tInt, tInt, tInt, tInt, tInt), recOf("a a", tInt, tInt), recOf("a a", tInt, tBool), recOf("b a", tInt, tInt), recOf("a c b", tInt, tInt, tInt), recOf("a b b c", tInt, tInt, tInt, tInt), recOf("ab a", tInt, tInt), recOf("a9 a10", tInt, tInt),
		bagOf(f), recOf("a", f), recOf("a b", tInt, f), bagOf(bagOf(f)), recOf("a", bagOf(f)), bagOf(recOf("a", f)), funOf(tInt, bagOf(f)), funOf(recOf("a", f), tInt))
	for _, l := range []string{"", "if", "for", "1", "0a", "A", "aB", "a_", " a", "a ", "abcde", "é", "a\xff", "\x00", "a,b", "a:", "a:I,b", ":", "{a", "}"} {
		checkNoText(t, node(impl.TyRec, []string{l}, tInt), node(impl.TyRec, []string{l, "m"}, tInt, tInt), node(impl.TyRec, []string{"a", l}, tInt, tInt))
	}
}

func TestTextsOfTypesThatDifferInOneField(t *testing.T) {
	row := recOf("a b", tInt, tBool)
	for _, x := range []impl.Type{tInt, tBool, bagOf(row), funOf(funOf(row, tInt), bagOf(row)), recOf("a b c", row, bagOf(row), recOf("d", bagOf(tInt)))} {
		for _, v := range variants(x) {
			s := textBySentences(v)
			checkTypeText(t, v, s)
			if s == textBySentences(x) {
				t.Errorf("%v and %v have the text %q", x, v, s)
			}
		}
	}
}

func TestTextsOfTheGreatestSize(t *testing.T) {
	four, three, full := "{a:I,b:B,c:I,d:B}", "{a:I,b:B,c:I}", "((I>I)>(I>I))"
	large := "{a:" + four + ",b:" + four + ",c:" + four + ",d:{a:I,b:I,c:I,d:" + three + "}}"
	for s, size := range map[string]int{
		large: 24, "{a:" + four + ",b:" + four + ",c:" + four + ",d:{a:I,b:I,c:I,d:" + four + "}}": 25,
		"[" + large + "]": 25, "{a:" + large + "}": 25, "(I>" + large + ")": 26, "{a:I,b:" + large + "}": 26, "(" + three + ">" + large + ")": 29,
		"((" + full + ">" + full + ")>" + full + ")": 23, "((" + full + ">" + full + ")>((I>I)>(I>[I])))": 24, "((" + full + ">" + full + ")>(([I]>I)>(I>[I])))": 25,
		"((" + full + ">" + full + ")>(" + full + ">I))": 25, "((" + full + ">" + full + ")>(" + full + ">" + full + "))": 31,
	} {
		x, ok := partBySplitting(s)
		if !ok || sizeByParts(x) != size || depthByParts(x) > 7 {
			t.Fatal(s, ok, sizeByParts(x), depthByParts(x))
		}
		if checkString(t, s) != (size <= 24) {
			t.Errorf("%q has %d nodes", s, size)
		}
		if size > 24 {
			checkTypeText(t, x, "")
		}
	}
}

func TestTextsOfTheGreatestDepth(t *testing.T) {
	for _, around := range [][2]string{{"[", "]"}, {"{a:", "}"}, {"{a:I,b:", "}"}, {"{a:", ",b:I}"}, {"(", ">I)"}, {"(I>", ")"}, {"[{a:", "}]"}, {"{a:I,b:[", "]}"}} {
		for n := range 12 {
			for _, leaf := range []string{"I", "B", "[I]", "{a:B}"} {
				s := strings.Repeat(around[0], n) + leaf + strings.Repeat(around[1], n)
				x, ok := partBySplitting(s)
				if !ok {
					t.Fatal(s)
				}
				if depth := depthByParts(x); checkString(t, s) != (depth <= 7) {
					t.Errorf("%q has the depth %d", s, depth)
				} else if depth > 7 {
					checkTypeText(t, x, "")
				}
			}
		}
	}
	checkReads(t, "[[[[[[I]]]]]]", nestedType(6, tInt, bagOf))
	checkReadsNothing(t, "[[[[[[[I]]]]]]]")
	checkReads(t, "{a:[[[[[I]]]]],b:[[[[[B]]]]]}", recOf("a b", nestedType(5, tInt, bagOf), nestedType(5, tBool, bagOf)))
	checkReadsNothing(t, "{a:[[[[[[I]]]]]],b:I}", "{a:I,b:[[[[[[I]]]]]]}", "(I>[[[[[[I]]]]]])", "([[[[[[I]]]]]]>I)")
}

func TestStringsThatAreNoTypes(t *testing.T) {
	checkReadsNothing(t,
		"", "?", "i", "b", "Int", "int", "1", "#t", "II", "IB", "I,", ",I", "I:I", "a", "a:I", "aI",
		" ", " I", "I ", "\tI", "I\n", "\nI", "[ I]", "[I ]", "[I] ", "{ a:I}", "{a :I}", "{a: I}", "{a:I }", "{a:I} ", "{a:I, b:I}", "{a:I ,b:I}", "( I>B)", "(I >B)", "(I> B)", "(I>B )",
		"[]", "{}", "()", "[[]]", "[{}]", "{a:}", "{a:{}}", "{a:[]}", "{:}", "{:I}", "{,}", "{a}", "{a,b}", "{I}", "{a:,b:I}", "{a:I,b:}", "(>)", "(I>)", "(>I)", "(I)", "((I>I))", "([I])",
		"[I", "I]", "[[I]", "[I]]", "{a:I", "a:I}", "{a:{b:I}", "{a:I}}", "(I>B", "I>B)", "I>B", "((I>B)", "(I>B))", "(I>(B>I)", "((I>B)>I",
		"[I)", "[I}", "(I>B]", "(I>B}", "{a:I]", "{a:I)", "{a:[I}]", "[{a:I]}", "([I>B)]", "{a:I>B}", "<I>", "]I[", ")I>B(", "}a:I{", "[[I[[",
		"[I,B]", "[I,I]", "[I>B]", "[I,]", "[,I]", "[:I]", "[a:I]", "(I,B)", "(I:B)", "(I>>B)", "(I>B>I)", "(I-B)", "(I->B)", "(I<B)", "(a:I>B)", "(IB)", "(I>BI)", "(II>B)", "(I>B,)",
		"{a::I}", "{a:I,,b:I}", "{,a:I}", "{a:I,}", "{a:I,b:I,}", "{a:I,}}", "{a:I,b:I,}}", "{a:I,}I}", "{a:I:b:I}", "{a,I}", "{a:I;b:I}", "{a=I}", "{a:Ib:I}", "{aI}", "{a:I,b}", "{a:I,I}", "{a:I,:I}", "{a:b:I}", "{a,b:I}", "{:a:I}", "{a:II}", "{a:I.b:I}", "{a:I,b:I:}",
		"[II]", "[I][I]", "[I]I", "I[I]", "{a:I}{b:I}", "(I>B)(I>B)", "{a:I},{b:I}", "[I],", "[I]:", "(I>B)>I", "I>(B>I)")
}

func TestStringsWithOtherLabels(t *testing.T) {
	for _, l := range []string{
		"", "if", "for", "1", "0a", "A", "I", "B", "aB", "Ab", "a_", "_", "a-b", " ", " a", "a ", "abcde", "x1234", strings.Repeat("a", 1000), "é", "aé", "a\xff", "\x00", "a\x00", "\xc1\xa1", "a'", "\"a\"", "@a", "[a]", "(a)", "a>", "?",
	} {
		checkReadsNothing(t, "{"+l+":I}", "{"+l+":[B]}", "{"+l+":I,m:B}", "{a:I,"+l+":B}", "[{"+l+":I}]", "({"+l+":I}>I)", "{a:{"+l+":I}}", "{a:I,b:B,c:I,"+l+":B}")
	}
	for _, l := range []string{"a", "z", "a0", "abcd", "x123", "iff", "fo", "fore", "i", "f", "xif"} {
		checkReads(t, "{"+l+":I}", recOf(l, tInt))
	}
}

func TestStringsWithLabelsInOtherOrders(t *testing.T) {
	names := []string{"a", "a0", "ab", "b", "c"}
	for _, list := range listsOver(names, 5) {
		fields := make([]string, len(list))
		for i, l := range list {
			fields[i] = l + ":" + []string{"I", "B", "[I]"}[i%3]
		}
		valid := 1 <= len(list) && len(list) <= 4
		for i := 1; i < len(list); i++ {
			valid = valid && list[i-1] < list[i]
		}
		s := "{" + strings.Join(fields, ",") + "}"
		if checkString(t, s) != valid || checkString(t, "["+s+"]") != valid {
			t.Errorf("%q: read as a type, want %v", s, valid)
		}
	}
	checkReadsNothing(t, "{a:I,a:I}", "{b:I,a:I}", "{a:I,b:I,b:I}", "{a:I,c:I,b:I}", "{ab:I,a:I}", "{a9:I,a10:I}", "{a:I,b:I,c:I,d:I,e:I}", "{a:{b:I,a:I}}", "{a:I,b:{c:I,c:I}}")
}

func TestStringsWithFunctionsWithinRecordsAndBags(t *testing.T) {
	for _, f := range []string{"(I>I)", "(I>[B])", "((I>B)>I)", "({a:I}>I)"} {
		checkReadsNothing(t, "["+f+"]", "{a:"+f+"}", "{a:I,b:"+f+"}", "{a:"+f+",b:I}", "[["+f+"]]", "[{a:"+f+"}]", "{a:["+f+"]}", "{a:{b:"+f+"}}",
			"(["+f+"]>I)", "(I>["+f+"])", "({a:"+f+"}>I)", "(I>{a:"+f+"})", "((I>I)>(I>[["+f+"]]))")
		if !checkString(t, f) || !checkString(t, "("+f+">"+f+")") || !checkString(t, "(I>"+f+")") || !checkString(t, "([I]>"+f+")") {
			t.Errorf("no functions of %q", f)
		}
	}
}

func TestAllShortStrings(t *testing.T) {
	types := 0
	for _, s := range slices.Concat(stringsOver("IB{}[]():,>a ", 4), stringsOver("I[]()>", 6), stringsOver("I{}a:,b", 6), stringsOver("I{}a:,", 7), stringsOver("B{}a:[]", 7)) {
		if checkString(t, s) {
			types++
		}
	}
	if types < 20 {
		t.Errorf("only %d types", types)
	}
}

// edits returns what one edit of s at a byte gives: the byte removed, doubled, replaced by
// or preceded by another one, or exchanged for its neighbour, and what is left of s from or up to it.
func edits(s string, others []string) []string {
	var out []string
	for i := range len(s) {
		out = append(out, s[:i], s[i+1:], s[:i]+s[i+1:], s[:i+1]+s[i:])
		if i > 0 {
			out = append(out, s[:i-1]+s[i:i+1]+s[i-1:i]+s[i+1:])
		}
		for _, o := range others {
			out = append(out, s[:i]+o+s[i+1:], s[:i]+o+s[i:])
		}
	}
	for _, o := range others {
		out = append(out, s+o)
	}
	return out
}

func TestTextsWithAnEdit(t *testing.T) {
	others := strings.Split("I B { } [ ] ( ) : , > a b c 0 A _ \x00 \x80 \xff é \n", " ")
	others = append(others, " ", "if", "for", "a:I,", ",c:I")
	for _, s := range []string{
		"I", "B", "[I]", "(I>B)", "{a:I}", "{a:I,b:[{c:B}]}", "{b:[I],c:B,d:{b:I}}", "((I>[B])>(B>{a:I}))", "([{a:I,b:B}]>{c:[[I]]})", "[[[[[[I]]]]]]", "{a:I,b:B,c:I,d:B}",
		"{if0:I,ifs:[I]}", "{a:{a:I,b:B,c:I,d:B},b:{a:I,b:B,c:I,d:B},c:{a:I,b:B,c:I,d:B},d:{a:I,b:I,c:I,d:{a:I,b:B,c:I}}}",
	} {
		if !checkString(t, s) {
			t.Errorf("%q is no type", s)
		}
		for _, e := range edits(s, others) {
			checkString(t, e)
		}
		for i := range len(s) {
			checkReadsNothing(t, s[:i])
		}
	}
}

func TestTextsWithAnyOtherByte(t *testing.T) {
	var bytes []string
	for b := range 256 {
		bytes = append(bytes, string([]byte{byte(b)}))
	}
	for _, s := range []string{"I", "[B]", "(I>B)", "{a:I,b:[B]}"} {
		for _, e := range edits(s, bytes) {
			checkString(t, e)
		}
	}
}

func TestVeryLongStringsAreNoTypes(t *testing.T) {
	const n = 1 << 23
	long := func(s string) string { return strings.Repeat(s, n) }
	for _, s := range []string{
		long("["), long("{"), long("("), long("{a:"), long("(I>"), long("]"), long("I"), long(" "), long(","), long(":"), long(">"), long("\xff"),
		long("[") + "I" + long("]"), long("(") + "I" + long(">I)"), long("(I>") + "I" + long(")"), long("{a:") + "I" + long("}"), long("{a:I,b:") + "I" + long("}"),
		"{" + long("a") + ":I}", "{" + long(",") + "}", "{a:I" + long(",") + "}", "{" + long(":") + "I}", "{a:I," + long("b:I,") + "c:I}", "{" + long("a:I,"), "{a:" + long("I") + "}", "{a:I}" + long(" "), "I" + long("I"), "[I]" + long("]"), long(" ") + "I",
	} {
		checkReadsNothing(t, s)
	}
}

func TestTypesBeyondAllLimitsHaveNoText(t *testing.T) {
	within := []impl.Type{{Kind: impl.TyBag}}
	within[0].Args = within
	twice := make([]impl.Type, 2)
	twice[0], twice[1] = node(impl.TyFun, nil, twice...), node(impl.TyFun, nil, twice...)
	doubled := nestedType(200, tInt, func(x impl.Type) impl.Type { return funOf(x, x) })
	for i, x := range []impl.Type{
		within[0], twice[0], doubled, nestedType(100000, tInt, bagOf), recOf("a b", tInt, nestedType(100000, tInt, bagOf)), node(impl.TyRec, nil, make([]impl.Type, 100000)...), node(impl.TyRec, make([]string, 100000), make([]impl.Type, 100000)...),
	} {
		if got := impl.FormatType(x); got != "" {
			t.Errorf("type %d: FormatType = %.80q", i, got)
		}
	}
}

func TestNilAndEmptySlicesHaveTheSameText(t *testing.T) {
	for _, x := range []impl.Type{{}, tInt, tBool, bagOf(tInt), recOf("a b", tInt, bagOf(tBool)), funOf(tInt, bagOf(tInt)), node(impl.TyRec, nil), node(impl.TyBag, nil), node(0, []string{"a"}, tInt)} {
		want := textBySentences(x)
		checkTypeText(t, x, want)
		checkTypeText(t, emptied(x), want)
	}
}

func TestFormatTypeKeepsItsArgument(t *testing.T) {
	row := recOf("a b", tInt, tBool)
	for _, x := range []impl.Type{
		tInt, row, bagOf(row), funOf(bagOf(row), row), recOf("a b c", bagOf(row), tInt, row), {}, recOf("b a", row, tInt), node(9, []string{"x"}, row, bagOf(row)), bagOf(funOf(row, tInt)),
	} {
		arg := withSpare(x)
		before := wholeType(arg)
		checkTypeText(t, arg, textBySentences(x))
		if !sameType(wholeType(arg), before) {
			t.Errorf("FormatType changed the memory of %v to %v", x, wholeType(arg))
		}
	}
}

func TestTypesThatAreReadAreNewMemory(t *testing.T) {
	for _, s := range []string{"I", "[I]", "{a:I,b:B}", "[{a:[I],b:{a:I}}]", "({a:I}>({a:I}>{a:I}))", "{a:{a:I},b:{a:I},c:{a:I}}"} {
		want, _ := typeBySplitting(s)
		first, _ := impl.ParseType(s)
		second, _ := impl.ParseType(s)
		overwrite(second)
		if !sameType(first, want) {
			t.Errorf("an earlier result of ParseType(%q) became %v", s, first)
		}
		checkReads(t, s, want)
		for i := range first.Args {
			overwrite(first.Args[i])
			if !slices.EqualFunc(first.Args[i+1:], want.Args[i+1:], sameType) {
				t.Errorf("the parts of ParseType(%q) share memory: %v", s, first.Args)
			}
		}
	}
}

func TestReadingAfterAFailureIsAsBefore(t *testing.T) {
	for range 3 {
		checkReads(t, "{a:I,b:[B]}", recOf("a b", tInt, bagOf(tBool)))
		checkReadsNothing(t, "{a:I,b:[B}", strings.Repeat("[", 100))
		checkReads(t, "(I>B)", funOf(tInt, tBool))
	}
}
