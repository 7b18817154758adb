package tests

import (
	"math"
	"reflect"
	"slices"
	"strconv"
	"strings"
	"testing"

	"loop.example/g00587/impl"
)

// isValueBySentences says whether v is a value by the sentence of the document.
func isValueBySentences(v impl.Value) bool {
	return nodesOfValue(v) <= 2000 && hasValueForms(v)
}

func hasValueForms(v impl.Value) bool {
	whole := impl.Value{Kind: v.Kind, Args: v.Args}
	fits := false
	switch v.Kind {
	case impl.VaInt:
		fits = sameValue(v, vInt(v.N))
	case impl.VaBool:
		fits = sameValue(v, vBool(0)) || sameValue(v, vBool(1))
	case impl.VaRec:
		whole.Labels = v.Labels
		fits = sameValue(v, whole) && validBySentences(node(impl.TyRec, v.Labels, slices.Repeat([]impl.Type{tInt}, len(v.Args))...))
	case impl.VaBag:
		fits = sameValue(v, whole)
	}
	return fits && !slices.ContainsFunc(v.Args, func(a impl.Value) bool { return !hasValueForms(a) })
}

// valueTextBySentences is the representation of a value, "" for others.
func valueTextBySentences(v impl.Value) string {
	if !isValueBySentences(v) {
		return ""
	}
	return valueTextOfParts(v)
}

func valueTextOfParts(v impl.Value) string {
	var parts []string
	for _, a := range v.Args {
		parts = append(parts, valueTextOfParts(a))
	}
	for i, l := range v.Labels {
		parts[i] = l + "=" + parts[i]
	}
	switch inner := strings.Join(parts, ","); v.Kind {
	case impl.VaInt:
		return strconv.Itoa(v.N)
	case impl.VaBool:
		return []string{"#f", "#t"}[v.N]
	case impl.VaRec:
		return "{" + inner + "}"
	default:
		return "[" + inner + "]"
	}
}

// valueBySplitting reads a value by trying all places where its parts may end.
func valueBySplitting(s string) (impl.Value, bool) {
	v, ok := valuePartBySplitting(s)
	return v, ok && isValueBySentences(v)
}

func valuePartBySplitting(s string) (impl.Value, bool) {
	if s == "#t" || s == "#f" {
		return vBool(strings.Index("ft", s[1:])), true
	}
	if n, err := strconv.ParseInt(s, 10, 64); err == nil && -999999999999 <= n && n <= 999999999999 && strconv.FormatInt(n, 10) == s {
		return vInt(int(n)), true
	}
	if len(s) < 2 {
		return impl.Value{}, false
	}
	switch inner := s[1 : len(s)-1]; s[:1] + s[len(s)-1:] {
	case "[]":
		return valuePartsBySplitting(vBag(), inner)
	case "{}":
		return valuePartsBySplitting(vRec(""), inner)
	}
	return impl.Value{}, false
}

// valuePartsBySplitting adds the parts in a text to v.
func valuePartsBySplitting(v impl.Value, s string) (impl.Value, bool) {
	if s == "" {
		return v, true
	}
	for s += ","; s != ""; {
		if v.Kind == impl.VaRec {
			var label string
			label, s, _ = strings.Cut(s, "=")
			v.Labels = append(v.Labels, label)
		}
		end := 0
		var part impl.Value
		for ok := false; !ok; end++ {
			if end == len(s) {
				return impl.Value{}, false
			}
			part, ok = valuePartBySplitting(s[:end])
			ok = ok && s[end] == ','
		}
		v.Args = append(v.Args, part)
		s = s[end:]
	}
	return v, true
}

// checkValueText says what the representation of v is, "" for none.
func checkValueText(t *testing.T, v impl.Value, want string) {
	t.Helper()
	if by := valueTextBySentences(v); by != want {
		t.Errorf("the sentences say that the text of %v is %.80q, not %.80q", v, by, want)
	}
	if got := impl.IsValue(v); got != (want != "") {
		t.Errorf("IsValue(%v) = %v", v, got)
	}
	if got := impl.FormatValue(v); got != want {
		t.Errorf("FormatValue(%v) = %.80q, want %.80q", v, got, want)
	}
}

// checkValueAndText also reads the text back.
func checkValueAndText(t *testing.T, v impl.Value, want string) {
	t.Helper()
	checkValueText(t, v, want)
	checkReadsValue(t, want, v)
}

// checkNoValueText also puts the nodes into values that would be values but for them.
func checkNoValueText(t *testing.T, list ...impl.Value) {
	t.Helper()
	one, bag := vInt(1), vBag()
	for _, v := range list {
		for _, whole := range []impl.Value{
			v, vBag(v), vBag(v, one, bag), vBag(one, v, bag), vBag(one, bag, v), vBag(vBag(vBag(v))), vBag(bag, vBag(one, v), bag),
			vRec("a", v), vRec("a b c", v, one, bag), vRec("a b c", one, v, bag), vRec("a b c", one, bag, v), vRec("a", vRec("b", v)), vRec("a b", bag, vBag(vRec("a", v), one)), vBag(vRec("a b", vBag(v), one)),
		} {
			checkValueText(t, whole, "")
		}
	}
}

func checkReadsValue(t *testing.T, s string, want impl.Value) {
	t.Helper()
	if got, ok := impl.ParseValue(s); !ok || !sameValue(got, want) {
		t.Errorf("ParseValue(%.80q) = %v, %v, want %v", s, got, ok, want)
	}
}

func checkReadsNoValue(t *testing.T, list ...string) {
	t.Helper()
	for _, s := range list {
		if got, ok := impl.ParseValue(s); ok || !reflect.DeepEqual(got, impl.Value{}) {
			t.Errorf("ParseValue(%.80q) = %v, %v", s, got, ok)
		}
	}
}

// checkValueString compares what is read from any string with what splitting finds in it.
func checkValueString(t *testing.T, s string) (ok bool) {
	t.Helper()
	want, ok := valueBySplitting(s)
	if !ok {
		checkReadsNoValue(t, s)
		return false
	}
	checkValueAndText(t, want, s)
	return true
}

func TestValuesAndTheirTexts(t *testing.T) {
	row := vRec("a b", vInt(1), vBool(1))
	for want, v := range map[string]impl.Value{
		"0":                                 vInt(0),
		"5":                                 vInt(5),
		"-7":                                vInt(-7),
		"-10":                               vInt(-10),
		"1000000":                           vInt(1000000),
		"#t":                                vBool(1),
		"#f":                                vBool(0),
		"[]":                                vBag(),
		"[5]":                               vInts(5),
		"[3,1,2,1]":                         vInts(3, 1, 2, 1),
		"[-1,0]":                            vInts(-1, 0),
		"[#t,#f]":                           vBag(vBool(1), vBool(0)),
		"[[]]":                              vBag(vBag()),
		"[[],[]]":                           vBag(vBag(), vBag()),
		"[[],[[]],[1],[]]":                  vBag(vBag(), vBag(vBag()), vInts(1), vBag()),
		"[1,[2]]":                           vBag(vInt(1), vInts(2)),
		"[1,#t,[],{a=1}]":                   vBag(vInt(1), vBool(1), vBag(), vRec("a", vInt(1))),
		"[{a=1},{b=1},{a=1,b=1}]":           vBag(vRec("a", vInt(1)), vRec("b", vInt(1)), vRec("a b", vInt(1), vInt(1))),
		"{a=1}":                             vRec("a", vInt(1)),
		"{a=-1}":                            vRec("a", vInt(-1)),
		"{a=#f}":                            vRec("a", vBool(0)),
		"{a=[]}":                            vRec("a", vBag()),
		"{a=[],b=[]}":                       vRec("a b", vBag(), vBag()),
		"{a=1,b=#t}":                        row,
		"{a=1,b=[#t]}":                      vRec("a b", vInt(1), vBag(vBool(1))),
		"{a=[#t],b=1}":                      vRec("a b", vBag(vBool(1)), vInt(1)),
		"{a=1,a0=2,aa=3,b=4}":               vRec("a a0 aa b", vInt(1), vInt(2), vInt(3), vInt(4)),
		"{a={a={a=1}}}":                     vRec("a", vRec("a", vRec("a", vInt(1)))),
		"{a={a=1,b=#t},b=2}":                vRec("a b", row, vInt(2)),
		"{a={a=1},b=2}":                     vRec("a b", vRec("a", vInt(1)), vInt(2)),
		"{if0=1,ifs=2,x123=3}":              vRec("if0 ifs x123", vInt(1), vInt(2), vInt(3)),
		"{f=#f,t=#t}":                       vRec("f t", vBool(0), vBool(1)),
		"[{a=1,b=#t},{a=1,b=#t}]":           vBag(row, row),
		"[{a=[[1],[]],b={c=[{a=1,b=#t}]}}]": vBag(vRec("a b", vBag(vInts(1), vBag()), vRec("c", vBag(row)))),
	} {
		checkValueAndText(t, v, want)
		if got, ok := valueBySplitting(want); !ok || !sameValue(got, v) {
			t.Errorf("%q is no value by splitting, or another one than %v", want, v)
		}
	}
}

func TestTextsOfAllSmallValues(t *testing.T) {
	texts := map[string]impl.Value{}
	for _, v := range slices.Concat(
		valuesOver([]impl.Value{vInt(0), vInt(-12), vBool(0), vBool(1), vBool(2), vRec("a"), vRec("a b"), vRec("b a"), vRec(""), vBag(), vNode(impl.VaBag, 1, ""), vNode(impl.VaBag, 0, "a"), {}, vNode(5, 0, "")}, 3),
		valuesOver([]impl.Value{vInt(1), vBool(1), vRec("a"), vRec("b c"), vBag()}, 5),
		valuesOver([]impl.Value{vInt(1), vRec("a"), vBag()}, 6)) {
		s := valueTextBySentences(v)
		checkValueText(t, v, s)
		if s == "" {
			continue
		}
		checkReadsValue(t, s, v)
		if before, ok := texts[s]; ok && !sameValue(before, v) {
			t.Errorf("%v and %v have the same text", before, v)
		}
		texts[s] = v
	}
	if len(texts) < 200 {
		t.Errorf("only %d texts", len(texts))
	}
}

func TestTextsOfEveryInteger(t *testing.T) {
	for n := -1200; n <= 1200; n++ {
		checkValueAndText(t, vInt(n), strconv.Itoa(n))
		checkValueAndText(t, vInts(n, -n), "["+strconv.Itoa(n)+","+strconv.Itoa(-n)+"]")
	}
	for n := 1; n < 1e12; n = n*3 + 1 {
		checkValueAndText(t, vInt(n), strconv.Itoa(n))
		checkValueAndText(t, vRec("a", vInt(-n)), "{a=-"+strconv.Itoa(n)+"}")
	}
}

func TestIntegersThatAreFormattedButNotRead(t *testing.T) {
	const limit = 999999999999
	for _, n := range []int{limit, -limit, limit - 1, 1 - limit, limit + 1, -limit - 1, limit * 10, -limit * 10, 1 << 53, math.MaxInt64, math.MinInt64, math.MaxInt64 - 1, math.MinInt64 + 1} {
		for text, v := range map[string]impl.Value{
			"_": vInt(n), "[_]": vInts(n), "[1,_,2]": vInts(1, n, 2), "{a=_}": vRec("a", vInt(n)), "{a=1,b=_}": vRec("a b", vInt(1), vInt(n)), "[{a=[_],b=#t}]": vBag(vRec("a b", vInts(n), vBool(1))), "[[],[[_]]]": vBag(vBag(), vBag(vInts(n))),
		} {
			s := strings.ReplaceAll(text, "_", strconv.Itoa(n))
			checkValueText(t, v, s)
			if -limit <= n && n <= limit {
				checkReadsValue(t, s, v)
			} else {
				checkReadsNoValue(t, s)
			}
		}
	}
	checkReadsNoValue(t, "9223372036854775808", "-9223372036854775809", "18446744073709551616", "[18446744073709551617]", "340282366920938463463374607431768211457", "{a=4294967296000000}")
}

func TestNodesThatAreNoValues(t *testing.T) {
	one, bag, row := vInt(1), vBag(), vRec("a b", vInt(1), vBool(1))
	for _, n := range []int{0, 1, -5, math.MaxInt, math.MinInt} {
		checkNoValueText(t, impl.Value{N: n}, vNode(5, n, ""), vNode(-1, n, ""), vNode(256+1, n, ""), vNode(1<<32+4, n, ""), vNode(1<<32+1, n, ""), vNode(-4, n, "", one), vNode(0, n, "a", one), vNode(5, n, "a b", one, bag), vNode(math.MaxInt, n, ""), vNode(math.MinInt, n, ""))
		checkNoValueText(t, vNode(impl.VaInt, n, "a"), vNode(impl.VaInt, n, "a b"), vNode(impl.VaInt, n, "", one), vNode(impl.VaInt, n, "", bag, row), vNode(impl.VaInt, n, "a", one), impl.Value{Kind: impl.VaInt, N: n, Labels: []string{""}})
	}
	for _, n := range []int{2, -1, 3, 255, 256, 257, 1 << 32, 1<<32 + 1, math.MaxInt, math.MinInt} {
		checkNoValueText(t, vBool(n), vNode(impl.VaRec, n, "a", one), vNode(impl.VaRec, n, "a b", bag, row), vNode(impl.VaBag, n, ""), vNode(impl.VaBag, n, "", one), vNode(impl.VaBag, n, "", row, row))
	}
	for _, n := range []int{0, 1} {
		checkNoValueText(t, vNode(impl.VaBool, n, "a"), vNode(impl.VaBool, n, "a b"), vNode(impl.VaBool, n, "", vBool(n)), vNode(impl.VaBool, n, "", one, bag), vNode(impl.VaBool, n, "a", one), impl.Value{Kind: impl.VaBool, N: n, Labels: []string{""}})
	}
	checkNoValueText(t, vNode(impl.VaRec, 1, "a", one), vNode(impl.VaRec, -1, "a", one), vNode(impl.VaBag, 1, ""), vNode(impl.VaBag, -1, "", one),
		vNode(impl.VaBag, 0, "a"), vNode(impl.VaBag, 0, "a", one), vNode(impl.VaBag, 0, "a b", one, one), impl.Value{Kind: impl.VaBag, Labels: []string{""}}, impl.Value{Kind: impl.VaBag, Labels: []string{""}, Args: []impl.Value{one}})
}

func TestRecordsThatAreNoValues(t *testing.T) {
	one, bag := vInt(1), vBag()
	checkNoValueText(t, vRec(""), vRec("", one), vRec("a"), vRec("a", one, bag), vRec("a b"), vRec("a b", one), vRec("a b", one, one, one), vRec("a b c", one, bag), vRec("a b c d"), vRec("a b c d", one, one, one), vRec("a b c d", one, one, one, one, one),
		vRec("a b c d e"), vRec("a b c d e", one, one, one, one), vRec("a b c d e", one, one, one, one, one), vRec("a b c d e f", one, one, one, one, one, one),
		vRec("a a", one, one), vRec("a a", one, bag), vRec("b a", one, one), vRec("a c b", one, one, one), vRec("c a b", one, one, one), vRec("a b b c", one, one, one, one), vRec("a b c c", one, one, one, one), vRec("ab a", one, one), vRec("a9 a10", one, one), vRec("aa a0", one, one))
	// The last one is no label either, but what a text with it says is another value.
	for _, l := range append(wordsThatAreNoLabels(), "a=1,b") {
		for _, labels := range [][]string{{l}, {l, "m"}, {"a", l}, {"a", "b", "c", l}, {"a", l, "z"}} {
			checkNoValueText(t, impl.Value{Kind: impl.VaRec, Labels: labels, Args: vInts(1, 2, 3, 4).Args[:len(labels)]}, impl.Value{Kind: impl.VaRec, Labels: labels})
		}
	}
	for _, list := range listsOver([]string{"a", "a0", "ab", "b", "c"}, 5) {
		v := vNode(impl.VaRec, 0, "", vInts(1, 2, 3, 4, 5).Args[:len(list)]...)
		v.Labels = list
		checkValueText(t, v, valueTextBySentences(v))
		checkValueText(t, vBag(v, v), valueTextBySentences(vBag(v, v)))
	}
}

func wordsThatAreNoLabels() []string {
	return []string{
		"", "if", "for", "1", "0a", "A", "I", "B", "aB", "Ab", "a_", "_", "a-b", "-1", " ", " a", "a ", "abcde", "x1234", strings.Repeat("a", 1000), "é", "aé", "a\xff", "\xff", "\x00", "a\x00", "\xc1\xa1", "a'", "\"a\"", "@a", "#t", "#", "a#", "a:", "a.b",
		"[", "]", "a]", "[a", "[a]", "{", "}", "a}", "{a}", ",", "a,", ",a", "a,b", "=", "a=", "=a", "a==", "a=[", "[]", "{}", "?",
	}
}

func TestLabelsOfTexts(t *testing.T) {
	for _, l := range wordsThatAreNoLabels() {
		for _, s := range []string{"{_=1}", "{_=[#t]}", "{_=1,m=#f}", "{a=1,_=2}", "{a=1,b=2,c=3,_=4}", "[{_=1}]", "[1,{a={_=1}}]", "{a=[],b={_=[]}}"} {
			checkReadsNoValue(t, strings.ReplaceAll(s, "_", l))
		}
	}
	for _, l := range []string{"a", "z", "a0", "abcd", "x123", "z999", "iff", "fo", "fore", "i", "f", "t", "xif"} {
		checkValueAndText(t, vRec(l, vInt(1)), "{"+l+"=1}")
		checkValueAndText(t, vBag(vRec(l, vRec(l, vBag()))), "[{"+l+"={"+l+"=[]}}]")
	}
	for _, list := range listsOver([]string{"a", "a0", "ab", "b", "c"}, 5) {
		fields := make([]string, len(list))
		for i, l := range list {
			fields[i] = l + "=" + []string{"1", "#t", "[]"}[i%3]
		}
		valid := 1 <= len(list) && len(list) <= 4
		for i := 1; i < len(list); i++ {
			valid = valid && list[i-1] < list[i]
		}
		s := "{" + strings.Join(fields, ",") + "}"
		if checkValueString(t, s) != valid || checkValueString(t, "[1,"+s+"]") != valid {
			t.Errorf("%q: read as a value, want %v", s, valid)
		}
	}
}

// checkLimit checks a value and its text, which are to be accepted if they have at most MaxValue nodes.
func checkLimit(t *testing.T, v impl.Value, text string, nodes int) {
	t.Helper()
	if n := nodesOfValue(v); n != nodes || valueTextOfParts(v) != text {
		t.Errorf("%d nodes, not %d, or another text than %.80q", n, nodes, text)
	}
	if nodes <= 2000 {
		checkValueAndText(t, v, text)
	} else {
		checkValueText(t, v, "")
		checkReadsNoValue(t, text)
	}
}

func TestValuesOfTheGreatestSizeAndTheirTexts(t *testing.T) {
	full := vRec("a b c d", vInt(1), vBool(0), vBag(), vInt(-1))
	for nodes := 1996; nodes <= 2004; nodes++ {
		for text, v := range map[string]impl.Value{"1": vInt(1), "#t": vBool(1), "[]": vBag()} {
			checkLimit(t, vBag(slices.Repeat([]impl.Value{v}, nodes-1)...), "["+strings.Repeat(text+",", nodes-2)+text+"]", nodes)
			checkLimit(t, nestedValue(nodes-1, v, inBag), strings.Repeat("[", nodes-1)+text+strings.Repeat("]", nodes-1), nodes)
			checkLimit(t, nestedValue(nodes-1, v, func(v impl.Value) impl.Value { return vRec("a", v) }), strings.Repeat("{a=", nodes-1)+text+strings.Repeat("}", nodes-1), nodes)
		}
		rest := nodes - 1 - 5*398
		if rest < 0 {
			continue
		}
		list := slices.Concat(slices.Repeat([]impl.Value{full}, 398), slices.Repeat([]impl.Value{vInt(7)}, rest))
		checkLimit(t, vBag(list...), "["+strings.Repeat("{a=1,b=#f,c=[],d=-1},", 397)+"{a=1,b=#f,c=[],d=-1}"+strings.Repeat(",7", rest)+"]", nodes)
	}
	for _, pair := range []struct{ left, right int }{{998, 999}, {999, 999}, {999, 1000}, {1000, 999}, {1, 1998}, {1998, 1}, {0, 1999}, {1996, 0}, {1997, 0}, {1999, 0}} {
		left, right := vInts(make([]int, pair.left)...), vInts(make([]int, pair.right)...)
		zeros := func(n int) string { return strings.TrimSuffix("["+strings.Repeat("0,", n), ",") + "]" }
		checkLimit(t, vRec("a b", left, right), "{a="+zeros(pair.left)+",b="+zeros(pair.right)+"}", pair.left+pair.right+3)
		checkLimit(t, vBag(left, right), "["+zeros(pair.left)+","+zeros(pair.right)+"]", pair.left+pair.right+3)
	}
}

func TestStringsThatAreNoValues(t *testing.T) {
	checkReadsNoValue(t,
		"", "?", "a", "t", "f", "I", "#", "#x", "#T", "#F", "#tt", "#ft", "##t", "t#", "#t#f", "#1", "#0", "# t", "#true", "true", "#t1", "1#t", "-#t", "#-1", "a#t",
		"-", "--1", "-0", "00", "01", "-01", "007", "+1", "+0", "1-", "1-1", "1_0", "0x1", "0b1", "1e3", "1.0", "1.", ".1", "\u0661", "1 000", "-a", "1a", "a1",
		" ", " 1", "1 ", "\t1", "1\n", "\n1", "1\x00", "\x001", "[ 1]", "[1 ]", "[1, 2]", "[1 ,2]", "[1] ", " [1]", "[ ]", "{ a=1}", "{a =1}", "{a= 1}", "{a=1 }", "{a=1} ", "{a=1, b=2}", "{a=1 ,b=2}", "- 1", "{ }", "#t ", " #t",
		"[", "]", "{", "}", "][", "}{", "()", "(1)", "<1>", "[}", "{]", "[1}", "{a=1]", "[{a=1]}", "{a=[1}]", "[1)", "[[1]", "[1]]", "[[]", "[]]", "{a=1", "a=1}", "a=1", "{a={b=1}", "{a=1}}", "{{a=1}", "[1", "1]", "[,1]", "[1,]", "[,]", "[1,,2]", "[,,]", "[1,2,]", "[[],]", "[,[]]", "[#t,]",
		"{}", "{{}}", "[{}]", "{a={}}", "{a=1,b={}}", "[[],{}]", "{a}", "{a=}", "{=1}", "{=}", "{1}", "{[]}", "{a,b}", "{a=,b=1}", "{a=1,b=}", "{a=1,b}", "{a=1,=1}", "{a=1,1}", "{,}", "{,a=1}", "{a=1,}", "{a=1,,b=2}", "{a=1,b=2,}", "{a==1}", "{a=1=1}", "{a=b=1}", "{a=1b=2}", "{a:1}", "{a=1;b=2}", "{a=1 b=2}", "{a1}", "{a=1,b:2}", "{a=1.b=2}", "{=a=1}", "{a=1,b=2=}",
		"{a=1,a=2}", "{a=1,a=1}", "{b=1,a=2}", "{a=1,c=2,b=3}", "{a=1,b=2,b=3}", "{a=1,b=2,c=3,d=4,e=5}", "{ab=1,a=2}", "{a9=1,a10=2}", "[{a=1,a=2}]", "{a={b=1,b=2}}", "{a={b=2,a=1}}",
		"11111111111111", "1000000000000", "-1000000000000", "[1000000000000]", "{a=-1000000000000}", "[01]", "[-0]", "[1,-0]", "[00]", "{a=01}", "{a=-0}", "{a=+1}", "[+1]", "[--1]", "[-]", "{a=-}",
		"[a=1]", "[a]", "[=1]", "[1=2]", "[a=1,b=2]", "[:I]", "[1:I]", "1,2", "1,", ",1", "1=1", "[1 2]", "[12", "[1;2]", "[1][2]", "[1]1", "1[1]", "1{a=1}", "{a=1}1", "{a=1}{b=2}", "[],[]", "[][]", "[]1", "[],", "#t,#f", "#t#t", "[#t#f]", "[1#t]", "[1[2]]", "[[1]2]", "[[1][2]]", "[{a=1}{a=2}]", "[{a=1}2]", "{a=1[2]}", "{a=[1]2}", "{a={b=1}c=2}", "{a=[1][2]}", "[]\x00", "[\xff]", "\xff", "é", "[é]")
}

func TestAllShortStringsAndValues(t *testing.T) {
	values := 0
	for _, s := range slices.Concat(stringsOver("10-[]{}=,#tfa ", 4), stringsOver("1[],", 8), stringsOver("1{}a=,b", 6), stringsOver("1{}a=,", 7), stringsOver("#t[],f", 6), stringsOver("01-[]", 6), stringsOver("2{}z=[]", 7)) {
		if checkValueString(t, s) {
			values++
		}
	}
	if values < 300 {
		t.Errorf("only %d values", values)
	}
}

func TestTextsOfValuesWithAnEdit(t *testing.T) {
	others := strings.Split("0 1 - # t f [ ] { } = , : a b c A _ \x00 \x80 \xff é \n #t #f [] {} -0 if for a=1, ,c=1 ,1 1, []] {a=1}", " ")
	others = append(others, " ", ",,")
	for _, s := range []string{
		"0", "5", "-7", "100", "#t", "#f", "[]", "[[]]", "[1,[2]]", "[[],[],1]", "{a=1}", "{a=[]}", "{a=1,b=[#t]}", "{b=[1],c=#f,d={b=-12}}", "[{a=1,b=#t},{a=2,b=#f}]", "{a=1,b=2,c=3,d=4}", "[999999999999,-999999999999]",
		"{if0=1,ifs=[2]}", "[[[[]]],{a={a=[]}}]", "[{a=[{c=1}],b=20},{a=[],b=-3}]",
	} {
		if !checkValueString(t, s) {
			t.Errorf("%q is no value", s)
		}
		for _, e := range edits(s, others) {
			checkValueString(t, e)
		}
	}
}

func TestTextsOfValuesWithAnyOtherByte(t *testing.T) {
	var bytes []string
	for b := range 256 {
		bytes = append(bytes, string([]byte{byte(b)}))
	}
	for _, s := range []string{"12", "#t", "[]", "[1,#f]", "[[],[]]", "{a=1,b=[2]}", "{a=[],b={c=[]}}"} {
		for _, e := range edits(s, bytes) {
			checkValueString(t, e)
		}
	}
}

func TestVeryLongStringsAreNoValues(t *testing.T) {
	const n = 1 << 22
	long := func(s string) string { return strings.Repeat(s, n) }
	checkReadsNoValue(t,
		long("["), long("{"), long("{a="), long("[{a="), long("]"), long("}"), long("1"), long("0"), long("-"), long("#"), long("#t"), long("t"), long(" "), long(","), long("="), long("\xff"), long("\x00"), long("[]"), long("[1,"), long("{a=1,b="),
		long("[")+long("]"), long("[")+"1"+long("]"), long("{a=")+"1"+long("}"), long("{a=1,b=")+"1"+long("}"), long("[1,")+"1"+long("]"), long("[{a=")+"1"+long("}]"),
		"["+long("1,")+"1]", "["+long("[],")+"[]]", "["+long("[1],")+"[1]]", "["+long("1")+"]", "["+long(",")+"]", "{"+long("a")+"=1}", "{"+long(",")+"}", "{"+long("=")+"1}", "{a=1,"+long("b=1,")+"c=1}", "{"+long("a=1,"), "{a="+long("1")+"}", "{"+long("a"), "{a"+long("="),
		"1"+long(" "), "[]"+long("]"), "[1]"+long(","), long(" ")+"1", "-"+long("0"), "{a=1}"+long("}"), "#t"+long("#t"))
}

func TestDeeplyNestedBracketsOfEveryKind(t *testing.T) {
	for _, around := range [][2]string{{"[", "]"}, {"{a=", "}"}, {"[1,", "]"}, {"[", ",1]"}, {"{a=[],b=", "}"}, {"{a=", ",b=#t}"}, {"[{z=[", "]}]"}} {
		nodes := strings.Count(around[0]+around[1], "[") + strings.Count(around[0]+around[1], "{") + strings.Count(around[0]+around[1], "1") + strings.Count(around[0]+around[1], "#")
		for _, depth := range []int{1, 10, 100, 499, 500, 666, 667, 999, 1000, 1999, 2000, 2001, 3000} {
			s := strings.Repeat(around[0], depth) + "[]" + strings.Repeat(around[1], depth)
			v, ok := impl.ParseValue(s)
			if ok != (nodes*depth+1 <= 2000) {
				t.Errorf("%d times %q around a bag is a value: %v", depth, around, ok)
			}
			if ok && (impl.FormatValue(v) != s || valueTextBySentences(v) != s) {
				t.Errorf("%d times %q around a bag is read as another value", depth, around)
			}
			checkReadsNoValue(t, s[1:], s[:len(s)-1], s+"]", "["+s, s+"}", s+",")
		}
	}
}

func TestValuesBeyondAllLimitsHaveNoText(t *testing.T) {
	within := []impl.Value{{Kind: impl.VaBag}}
	within[0].Args = within
	record := []impl.Value{vRec("a")}
	record[0].Args = record
	doubled := nestedValue(200, vInt(1), func(v impl.Value) impl.Value { return vBag(v, v) })
	deep, deepRecord := nestedValue(100000, vInt(1), inBag), nestedValue(100000, vInt(1), func(v impl.Value) impl.Value { return vRec("a", v) })
	wide := impl.Value{Kind: impl.VaRec, Labels: make([]string, 100000), Args: make([]impl.Value, 100000)}
	for i, v := range []impl.Value{
		within[0], record[0], doubled, deep, deepRecord, wide, vRec("a", within[0]), vBag(vInt(1), doubled), vRec("a b", vInt(1), record[0]), vBag(make([]impl.Value, 100000)...), {Kind: impl.VaRec, Labels: make([]string, 100000)}, {Kind: impl.VaInt, Args: within}, {Args: within},
	} {
		if impl.IsValue(v) || impl.FormatValue(v) != "" {
			t.Errorf("value %d is a value, or its text is %.80q", i, impl.FormatValue(v))
		}
	}
}

func TestWhatHasATypeIsAValue(t *testing.T) {
	for _, c := range []struct{ text, typeText string }{
		{"[]", "[I]"}, {"[]", "[[B]]"}, {"[1,2]", "[I]"}, {"{a=[],b=#t}", "{a:[I],b:B}"}, {"[{a=[1],b=2},{a=[],b=3}]", "[{a:[I],b:I}]"}, {"-999999999999", "I"}, {"[[],[[]],[[#f]]]", "[[[B]]]"},
	} {
		v, ok := impl.ParseValue(c.text)
		x, okType := impl.ParseType(c.typeText)
		if !ok || !okType || !impl.HasType(v, x) || !impl.IsValue(v) || impl.FormatValue(v) != c.text {
			t.Errorf("%q is no value of the type %q", c.text, c.typeText)
		}
	}
	// A value need not have a type, and texts keep the order of the elements.
	checkValueAndText(t, vBag(vInt(2), vBool(1), vInt(1), vInts(1)), "[2,#t,1,[1]]")
	if v, _ := impl.ParseValue("[2,#t,1,[2,1],[]]"); impl.FormatValue(impl.CanonValue(v)) != "[1,2,#t,[],[1,2]]" {
		t.Error("the elements of a canonical value are in another order")
	}
}

func TestNilAndEmptySlicesOfValuesHaveTheSameText(t *testing.T) {
	for _, v := range []impl.Value{
		vInt(1), vBool(1), vBag(), vInts(2, 1), vBag(vBag(), vInts(2, 1)), vRec("a b", vInt(1), vBag(vInts(), vInts(1))), vRec(""), vRec("a"), {}, vNode(impl.VaBag, 1, ""), vNode(impl.VaInt, 1, "", vBag()), vNode(9, 0, ""),
	} {
		want := valueTextBySentences(v)
		checkValueText(t, emptiedValue(v), want)
		checkValueText(t, nilledValue(v), want)
		checkValueText(t, vBag(emptiedValue(v), nilledValue(v)), valueTextBySentences(vBag(v, v)))
	}
}

func TestTextsKeepTheirValues(t *testing.T) {
	row := vRec("a b", vInts(3, 1, 2), vBool(1))
	for _, v := range []impl.Value{
		vInt(5), vBool(0), vBag(), vInts(3, 1, 2), row, vBag(row, vInt(1), row), vRec("a b c", vBag(row, row), vInts(9, 8), row), vRec("b a", row, row), {}, vNode(9, 4, "b a", vInts(2, 1), row), vNode(impl.VaBag, 3, "z y", vInt(2), vInt(1)), vNode(impl.VaInt, 3, "", row), vRec("a", row, row), vRec("a b", row),
	} {
		arg := valueWithSpare(v)
		before := wholeValue(arg)
		checkValueText(t, arg, valueTextBySentences(v))
		if !sameValue(wholeValue(arg), before) {
			t.Errorf("the memory of %v became %v", v, wholeValue(arg))
		}
	}
}

func TestValuesThatAreReadAreNewMemory(t *testing.T) {
	for _, s := range []string{"1", "[]", "[1,2]", "{a=1,b=#t}", "[{a=[1],b={a=1}},{a=[1],b={a=1}},{a=[1],b={a=1}}]", "{a={a=1},b={a=1},c={a=1}}", "[[1,1],[1,1],[1,1],[]]", "[[],[],[]]"} {
		want, _ := valueBySplitting(s)
		first, _ := impl.ParseValue(s)
		second, _ := impl.ParseValue(s)
		overwriteValue(second)
		if !sameValue(first, want) {
			t.Errorf("an earlier result of ParseValue(%q) became %v", s, first)
		}
		checkReadsValue(t, s, want)
		for i, a := range first.Args {
			// What lies behind the end of one slice is not part of another one.
			_ = append(a.Args, vNode(66, 6, "z"))
			_ = append(a.Labels, "z")
			overwriteValue(a)
			if !slices.EqualFunc(first.Args[i+1:], want.Args[i+1:], sameValue) {
				t.Errorf("the parts of ParseValue(%q) share memory: %v", s, first.Args)
			}
		}
	}
}

func TestReadingAValueAfterAFailureIsAsBefore(t *testing.T) {
	for range 3 {
		checkReadsValue(t, "{a=1,b=[#t]}", vRec("a b", vInt(1), vBag(vBool(1))))
		checkReadsNoValue(t, "{a=1,b=[#t}", strings.Repeat("[", 5000), "[1,", "{a")
		checkReadsValue(t, "[1,[]]", vBag(vInt(1), vBag()))
	}
}
