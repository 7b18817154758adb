package tests

import (
	"math"
	"reflect"
	"runtime/debug"
	"slices"
	"strconv"
	"strings"
	"testing"

	"loop.example/g00587/impl"
)

// termForms has the forms of the document, with A, B and C in place of the Args.
var termForms = map[int]string{
	impl.TeVar: "NAME", impl.TeProj: "A.NAME", impl.TeEmpty: "[:TYPE]", impl.TeOne: "[A]", impl.TeUnion: "(A++B)", impl.TeFor: "(for NAME<-A B)", impl.TeIf: "(if A B C)",
	impl.TeTable: "@NAME", impl.TeLam: "(\\NAME:TYPE.A)", impl.TeApp: "(A B)", impl.TeNone: "(empty A)", impl.TeCount: "(count A)",
}

// termTextBySentences is the representation of a term, "" for those that are not valid.
func termTextBySentences(e impl.Term) string {
	if !validTermBySentences(e) {
		return ""
	}
	return termTextOfParts(e)
}

func termTextOfParts(e impl.Term) string {
	args := make([]string, len(e.Args), len(e.Args)+3)
	for i, a := range e.Args {
		args[i] = termTextOfParts(a)
	}
	switch e.Kind {
	case impl.TeInt:
		return strconv.Itoa(e.N)
	case impl.TeBool:
		return []string{"#f", "#t"}[e.N]
	case impl.TeOp:
		if len(args) == 1 {
			args = []string{"", args[0]}
		}
		return "(" + args[0] + e.Name + args[1] + ")"
	case impl.TeRec:
		for i, l := range e.Labels {
			args[i] = l + "=" + args[i]
		}
		return "{" + strings.Join(args, ",") + "}"
	}
	args = args[:3]
	return strings.NewReplacer("NAME", e.Name, "TYPE", textBySentences(e.Type), "A", args[0], "B", args[1], "C", args[2]).Replace(termForms[e.Kind])
}

// termReadings reads terms by trying all places where their parts may end. It keeps, for each
// text, all terms with this representation: they need not be valid in size and depth.
type termReadings map[string][]impl.Term

// termBySplitting is the valid term with a representation.
func termBySplitting(t *testing.T, s string) (impl.Term, bool) {
	t.Helper()
	var valid []impl.Term
	for _, e := range (termReadings{}).of(s) {
		if validTermBySentences(e) {
			valid = append(valid, e)
		}
	}
	if len(valid) > 1 {
		t.Errorf("%q represents %v", s, valid)
	}
	if len(valid) == 0 {
		return impl.Term{}, false
	}
	return valid[0], true
}

func (m termReadings) of(s string) []impl.Term {
	list, ok := m[s]
	if !ok && s != "" && isBalanced(s) {
		list = m.search(s)
		m[s] = list
	}
	return list
}

func isBalanced(s string) bool {
	open := 0
	for i := range len(s) {
		switch s[i] {
		case '(', '[', '{':
			open++
		case ')', ']', '}':
			open--
		}
		if open < 0 {
			return false
		}
	}
	return open == 0
}

func (m termReadings) search(s string) []impl.Term {
	var list []impl.Term
	if nameByItsBytes(s) {
		list = append(list, eVar(s))
	}
	if s == "#t" || s == "#f" {
		list = append(list, eBool(strings.Index("ft", s[1:])))
	}
	if n, err := strconv.Atoi(s); err == nil && strconv.Itoa(n) == s {
		list = append(list, eInt(n))
	}
	if s[0] == '@' && nameByItsBytes(s[1:]) {
		list = append(list, eTable(s[1:]))
	}
	if dot := strings.LastIndexByte(s, '.'); dot >= 0 && nameByItsBytes(s[dot+1:]) {
		for _, e := range m.of(s[:dot]) {
			list = append(list, eProj(e, s[dot+1:]))
		}
	}
	if len(s) < 2 {
		return list
	}
	switch inner := s[1 : len(s)-1]; s[:1] + s[len(s)-1:] {
	case "[]":
		list = append(list, m.whole(impl.TeOne, "", inner)...)
		if text, ok := strings.CutPrefix(inner, ":"); ok {
			if x, ok := typeBySplitting(text); ok {
				list = append(list, eEmpty(x))
			}
		}
	case "{}":
		list = append(list, m.records(inner)...)
	case "()":
		list = append(list, m.inBrackets(inner)...)
	}
	return list
}

// whole returns the terms of a kind whose Args are the terms in s, separated by by.
func (m termReadings) whole(kind int, by, s string) []impl.Term {
	n := map[int]int{impl.TeOne: 1, impl.TeUnion: 2, impl.TeFor: 2, impl.TeIf: 3, impl.TeLam: 1, impl.TeApp: 2, impl.TeNone: 1, impl.TeCount: 1}[kind]
	var list []impl.Term
	for _, args := range m.lists(n, by, s) {
		list = append(list, eNode(kind, args...))
	}
	return list
}

// lists returns the lists of n terms in s, separated by by.
func (m termReadings) lists(n int, by, s string) [][]impl.Term {
	var out [][]impl.Term
	if n == 1 {
		for _, e := range m.of(s) {
			out = append(out, []impl.Term{e})
		}
		return out
	}
	for i := range len(s) {
		if !strings.HasPrefix(s[i:], by) {
			continue
		}
		for _, first := range m.of(s[:i]) {
			for _, rest := range m.lists(n-1, by, s[i+len(by):]) {
				out = append(out, append([]impl.Term{first}, rest...))
			}
		}
	}
	return out
}

func (m termReadings) records(s string) []impl.Term {
	var list []impl.Term
	label, after, ok := strings.Cut(s, "=")
	if !ok || !nameByItsBytes(label) {
		return nil
	}
	for i := range len(after) + 1 {
		for _, e := range m.of(after[:i]) {
			if i == len(after) {
				list = append(list, withLabels(eNode(impl.TeRec, e), label))
			} else if after[i] == ',' {
				for _, rest := range m.records(after[i+1:]) {
					list = append(list, withLabels(eNode(impl.TeRec, append([]impl.Term{e}, rest.Args...)...), append([]string{label}, rest.Labels...)...))
				}
			}
		}
	}
	return list
}

func (m termReadings) inBrackets(s string) []impl.Term {
	var list []impl.Term
	for _, op := range []string{"+", "-", "=", "<", "&", "|"} {
		for _, args := range m.lists(2, op, s) {
			list = append(list, eOp(op, args...))
		}
	}
	list = append(list, m.whole(impl.TeUnion, "++", s)...)
	list = append(list, m.whole(impl.TeApp, " ", s)...)
	if arg, ok := strings.CutPrefix(s, "!"); ok {
		for _, e := range m.of(arg) {
			list = append(list, eOp("!", e))
		}
	}
	for word, kind := range map[string]int{"if ": impl.TeIf, "empty ": impl.TeNone, "count ": impl.TeCount} {
		if args, ok := strings.CutPrefix(s, word); ok {
			list = append(list, m.whole(kind, " ", args)...)
		}
	}
	if loop, ok := strings.CutPrefix(s, "for "); ok {
		if name, args, ok := strings.Cut(loop, "<-"); ok {
			for _, e := range m.whole(impl.TeFor, " ", args) {
				list = append(list, withName(e, name))
			}
		}
	}
	return append(list, m.functions(s)...)
}

func (m termReadings) functions(s string) []impl.Term {
	var list []impl.Term
	name, after, ok := strings.Cut(s, ":")
	if !ok || name == "" || name[0] != '\\' {
		return nil
	}
	for i := range len(after) {
		if x, ok := typeBySplitting(after[:i]); ok && after[i] == '.' {
			for _, e := range m.of(after[i+1:]) {
				list = append(list, eLam(name[1:], x, e))
			}
		}
	}
	return list
}

// checkTermText says what the representation of e is, "" for none.
func checkTermText(t *testing.T, e impl.Term, want string) {
	t.Helper()
	if by := termTextBySentences(e); by != want {
		t.Errorf("the sentences say that the text of %v is %.80q, not %.80q", e, by, want)
	}
	if got := impl.FormatTerm(e); got != want {
		t.Errorf("FormatTerm(%v) = %.80q, want %.80q", e, got, want)
	}
}

// checkTermAndText also reads the text back.
func checkTermAndText(t *testing.T, e impl.Term, want string) {
	t.Helper()
	checkTermText(t, e, want)
	checkReadsTerm(t, want, e)
}

// checkTextBySentences takes the representation from the sentences, and reads it back if there is one.
func checkTextBySentences(t *testing.T, e impl.Term) string {
	t.Helper()
	s := termTextBySentences(e)
	checkTermText(t, e, s)
	if s != "" {
		checkReadsTerm(t, s, e)
	}
	return s
}

// checkNoTermText also puts the terms into each place of terms that would be valid but for them.
func checkNoTermText(t *testing.T, list ...impl.Term) {
	t.Helper()
	for _, e := range list {
		checkTermText(t, e, "")
		for i, whole := range around(e) {
			checkTermText(t, whole, "")
			checkTermText(t, around(whole)[(4*i+7)%21], "")
		}
	}
}

func checkReadsTerm(t *testing.T, s string, want impl.Term) {
	t.Helper()
	if got, ok := impl.ParseTerm(s); !ok || !sameTerm(got, want) {
		t.Errorf("ParseTerm(%.80q) = %v, %v, want %v", s, got, ok, want)
	}
}

func checkReadsNoTerm(t *testing.T, list ...string) {
	t.Helper()
	for _, s := range list {
		if got, ok := impl.ParseTerm(s); ok || !reflect.DeepEqual(got, impl.Term{}) {
			t.Errorf("ParseTerm(%.80q) = %v, %v", s, got, ok)
		}
	}
}

// checkTermString compares what is read from any string with what splitting finds in it.
func checkTermString(t *testing.T, s string) (ok bool) {
	t.Helper()
	want, ok := termBySplitting(t, s)
	if !ok {
		checkReadsNoTerm(t, s)
		return false
	}
	checkTermAndText(t, want, s)
	return true
}

// checkTermStrings says of strings, with _ for each of words, whether they are terms.
func checkTermStrings(t *testing.T, want bool, words []string, list ...string) {
	t.Helper()
	for _, w := range words {
		for _, s := range list {
			s = strings.ReplaceAll(s, "_", w)
			if checkTermString(t, s) != want {
				t.Errorf("%.80q: read as a term, want %v", s, want)
			}
		}
	}
}

// checkTermsAndTexts checks terms by their representations, forth, back and by splitting.
func checkTermsAndTexts(t *testing.T, terms map[string]impl.Term) {
	t.Helper()
	for want, e := range terms {
		checkTermAndText(t, e, want)
		if got, ok := termBySplitting(t, want); !ok || !sameTerm(got, e) {
			t.Errorf("%q is no term by splitting, or another one than %v", want, e)
		}
	}
}

func TestTermsAndTheirTexts(t *testing.T) {
	y0, k := eVar("y"), eProj(x0, "k")
	checkTermsAndTexts(t, map[string]impl.Term{
		"x":                   x0,
		"d":                   eVar("d"),
		"t":                   eVar("t"),
		"x123":                eVar("x123"),
		"0":                   eInt(0),
		"12":                  eInt(12),
		"999":                 eInt(999),
		"#t":                  eBool(1),
		"#f":                  eBool(0),
		"@d":                  d0,
		"@t123":               eTable("t123"),
		"(x+1)":               eOp("+", x0, eInt(1)),
		"(3-x)":               eOp("-", eInt(3), x0),
		"(x=y)":               eOp("=", x0, y0),
		"(1<2)":               eOp("<", eInt(1), eInt(2)),
		"(x&y)":               eOp("&", x0, y0),
		"(x|#f)":              eOp("|", x0, eBool(0)),
		"(!#f)":               eOp("!", eBool(0)),
		"(!(!x))":             eOp("!", eOp("!", x0)),
		"(!(x=y))":            eOp("!", eOp("=", x0, y0)),
		"((!x)=y)":            eOp("=", eOp("!", x0), y0),
		"((x+1)+2)":           eOp("+", eOp("+", x0, eInt(1)), eInt(2)),
		"(x+(1+2))":           eOp("+", x0, eOp("+", eInt(1), eInt(2))),
		"(x-(1-2))":           eOp("-", x0, eOp("-", eInt(1), eInt(2))),
		"{a=1}":               eRec("a", eInt(1)),
		"{a=1,b=x.k}":         eRec("a b", eInt(1), k),
		"{a=x,a0=x,aa=x,b=x}": eRec("a a0 aa b", x0, x0, x0, x0),
		"{a={b=1},c={d=2}}":   eRec("a c", eRec("b", eInt(1)), eRec("d", eInt(2))),
		"{a=(x=y),b=(x<y)}":   eRec("a b", eOp("=", x0, y0), eOp("<", x0, y0)),
		"x.k":                 k,
		"x.a.b":               eProj(eProj(x0, "a"), "b"),
		"x.if0.iff":           eProj(eProj(x0, "if0"), "iff"),
		"{a=1}.a":             eProj(eRec("a", eInt(1)), "a"),
		"12.a":                eProj(eInt(12), "a"),
		"#t.t":                eProj(eBool(1), "t"),
		"@d.d":                eProj(d0, "d"),
		"[:I]":                eEmpty(tInt),
		"[:{a:I}]":            eEmpty(recOf("a", tInt)),
		"[:(I>[I])]":          eEmpty(funOf(tInt, bagOf(tInt))),
		"[:[I]]":              eEmpty(bagOf(tInt)),
		"[x]":                 eOne(x0),
		"[[:I]]":              eOne(eEmpty(tInt)),
		"[[[x]]]":             eOne(eOne(eOne(x0))),
	})
}

func TestTermsInBracketsAndTheirTexts(t *testing.T) {
	row := recOf("a b", tInt, tBool)
	y0 := eVar("y")
	checkTermsAndTexts(t, map[string]impl.Term{
		"([1]++[2])":                      eUnion(eOne(eInt(1)), eOne(eInt(2))),
		"((@d++@d)++@d)":                  eUnion(eUnion(d0, d0), d0),
		"(@d++(@d++@d))":                  eUnion(d0, eUnion(d0, d0)),
		"((x+y)++(x+y))":                  eUnion(eOp("+", x0, y0), eOp("+", x0, y0)),
		"((x++y)+(x++y))":                 eOp("+", eUnion(x0, y0), eUnion(x0, y0)),
		"(for x<-@d [x.n])":               eFor("x", d0, eOne(eProj(x0, "n"))),
		"(for x<-(for y<-@d [y]) [x])":    eFor("x", eFor("y", d0, eOne(y0)), eOne(x0)),
		"(for x<-@d (for y<-@d [x]))":     eFor("x", d0, eFor("y", d0, eOne(x0))),
		"(for f<-r o)":                    eFor("f", eVar("r"), eVar("o")),
		"(if #t 1 2)":                     eIf(eBool(1), eInt(1), eInt(2)),
		"(if (x<y) [x] [:I])":             eIf(eOp("<", x0, y0), eOne(x0), eEmpty(tInt)),
		"(if (if x y y) (if x x x) x)":    eIf(eIf(x0, y0, y0), eIf(x0, x0, x0), x0),
		"(\\x:I.x)":                       eLam("x", tInt, x0),
		"(\\x:I.(x+1))":                   eLam("x", tInt, eOp("+", x0, eInt(1))),
		"(\\x:{a:I,b:B}.x.a)":             eLam("x", row, eProj(x0, "a")),
		"(\\x:[{a:I,b:B}].[:{a:I,b:B}])":  eLam("x", bagOf(row), eEmpty(row)),
		"(\\f:(I>B).(\\x:I.(f x)))":       eLam("f", funOf(tInt, tBool), eLam("x", tInt, eApp(eVar("f"), x0))),
		"(\\x:B.x).a":                     eProj(eLam("x", tBool, x0), "a"),
		"((\\x:I.x) 5)":                   eApp(eLam("x", tInt, x0), eInt(5)),
		"(f x)":                           eApp(eVar("f"), x0),
		"((f x) y)":                       eApp(eApp(eVar("f"), x0), y0),
		"(f (x y))":                       eApp(eVar("f"), eApp(x0, y0)),
		"(x.f 1)":                         eApp(eProj(x0, "f"), eInt(1)),
		"((if x f g) 1)":                  eApp(eIf(x0, eVar("f"), eVar("g")), eInt(1)),
		"((for x<-@d x) @d)":              eApp(eFor("x", d0, x0), d0),
		"(empty @d)":                      eNone(d0),
		"(empty (empty @d))":              eNone(eNone(d0)),
		"((empty @d) x)":                  eApp(eNone(d0), x0),
		"(count [1])":                     eCount(eOne(eInt(1))),
		"((count @d)+(count @e))":         eOp("+", eCount(d0), eCount(eTable("e"))),
		"(count @d).a":                    eProj(eCount(d0), "a"),
		"(a&(b|c))":                       eOp("&", eVar("a"), eOp("|", eVar("b"), eVar("c"))),
		"(fort x)":                        eApp(eVar("fort"), x0),
		"(iff x)":                         eApp(eVar("iff"), x0),
		"(empt x)":                        eApp(eVar("empt"), x0),
		"(coun x)":                        eApp(eVar("coun"), x0),
		"(f0 (fo i))":                     eApp(eVar("f0"), eApp(eVar("fo"), eVar("i"))),
		"[{a=(!x),b=[x.k]}]":              eOne(eRec("a b", eOp("!", x0), eOne(eProj(x0, "k")))),
		"(for x<-@d (if x.b [x.a] [:I]))": eFor("x", d0, eIf(eProj(x0, "b"), eOne(eProj(x0, "a")), eEmpty(tInt))),
	})
}

func TestQueriesAsText(t *testing.T) {
	for _, s := range []string{
		"(for x<-@d (for y<-@e (if (x.k=y.k) [{a=x.n,b=y.s}] [:{a:I,b:I}])))",
		"(for x<-@d [{a=x.n,b=(for y<-@e (if (y.k=x.k) [y.s] [:I]))}])",
		"(for x<-@d (if (empty (for y<-@e (if (y.k=x.k) [y.s] [:I]))) [x.n] [:I]))",
		"((\\f:(I>[I]).(for x<-@d (f x.k))) (\\n:I.([n]++[(n+1)])))",
		"(for x<-@d [{a=(count (for y<-@e (if (y.k=x.k) [y.s] [:I]))),b=x.k}])",
		"(for x<-@d (for y<-@d (if (x.k=y.k) [(x.n+y.n)] [:I])))",
	} {
		if !checkTermString(t, s) {
			t.Errorf("%q is no term", s)
		}
	}
}

func TestTextsOfEachKindInEachPlace(t *testing.T) {
	texts := map[string]impl.Term{}
	add := func(e impl.Term) {
		s := checkTextBySentences(t, e)
		if before, ok := texts[s]; ok && !sameTerm(before, e) {
			t.Errorf("%v and %v have the text %q", before, e, s)
		}
		texts[s] = e
	}
	for i, e := range termsOfEachKind() {
		add(e)
		for j, whole := range around(e) {
			add(whole)
			if s := termTextOfParts(whole); (i+j)%3 == 0 && !checkTermString(t, s) {
				t.Errorf("%q is no term by splitting", s)
			}
			for _, larger := range around(whole) {
				add(larger)
			}
		}
	}
	if _, ok := texts[""]; ok || len(texts) < 7000 {
		t.Errorf("a term without text, or only %d texts", len(texts))
	}
}

func TestTextsOfAllSmallTerms(t *testing.T) {
	texts := map[string]impl.Term{}
	check := func(list []impl.Term) {
		for _, e := range list {
			s := checkTextBySentences(t, e)
			if before, ok := texts[s]; ok && s != "" && !sameTerm(before, e) {
				t.Errorf("%v and %v have the text %q", before, e, s)
			}
			texts[s] = e
		}
	}
	heads := headsOver(allKinds(), []string{"", "a", "+", "!", "if"}, []int{0, 1, 2, -1, 1000}, []impl.Type{{}, tInt, node(impl.TyBag, nil)}, []string{"", "a", "a b", "b a"})
	for _, args := range [][]impl.Term{nil, {x0}, {x0, d0}, {d0, x0, eInt(1)}, {x0, d0, d0, x0}, {x0, {}}, {eInt(1000)}} {
		list := slices.Clone(heads)
		for i := range list {
			list[i].Args = args
		}
		check(list)
	}
	check(termsOver(headsOver(allKinds(), []string{"", "a", "!"}, []int{0}, []impl.Type{{}, tInt}, []string{"", "a"}), 2))
	check(termsOver([]impl.Term{x0, eInt(0), eBool(1), eOp("-"), eRec("a"), eRec("a b"), eProj(x0, "a"), eOne(x0), eUnion(x0, x0), eFor("y", x0, x0), eApp(x0, x0), d0, eOp("!"), eLam("x", tInt, x0), eIf(x0, x0, x0)}, 4))
	if len(texts) < 2000 {
		t.Errorf("only %d texts", len(texts))
	}
}

func TestTermsWithoutText(t *testing.T) {
	for _, e := range termsOfEachKind() {
		checkNoTermText(t, withLabels(e, "z", "y"), withLabels(e, ""), withN(e, 1000), withN(e, -1), withN(e, 1<<32), withType(e, node(6, nil)), withType(e, node(impl.TyBag, nil)))
		long, kind := e, e
		long.Args = append(slices.Clone(e.Args), x0)
		checkNoTermText(t, long)
		if len(e.Args) > 0 {
			long.Args = e.Args[1:]
			checkNoTermText(t, long)
		}
		for _, k := range []int{0, -1, 17, 256 + e.Kind, 1<<32 + e.Kind, math.MinInt, math.MaxInt} {
			kind.Kind = k
			checkNoTermText(t, kind)
		}
		for _, name := range []string{"if", "for", "abcde", "A", "0", "a b", "x.a", "++", "*", "\xff", "(x)", "@d"} {
			checkNoTermText(t, withName(e, name))
		}
		switch e.Kind {
		case impl.TeVar, impl.TeProj, impl.TeFor, impl.TeTable, impl.TeLam, impl.TeOp:
			checkNoTermText(t, withName(e, ""))
		default:
			checkNoTermText(t, withName(e, "a"))
		}
		switch e.Kind {
		case impl.TeEmpty, impl.TeLam:
			for _, x := range []impl.Type{{}, recOf("b a", tInt, tInt), bagOf(funOf(tInt, tInt)), nestedType(7, tInt, bagOf)} {
				checkNoTermText(t, withType(e, x))
			}
		default:
			checkNoTermText(t, withType(e, tInt), withType(e, bagOf(tInt)))
		}
	}
	checkNoTermText(t, impl.Term{}, eRec("a a", x0, x0), eRec("b a", x0, x0), eRec("a b c d e", x0, x0, x0, x0, x0), eRec("", x0), eRec(""), eRec("if", x0), withLabels(eNode(impl.TeRec, x0, x0), "a=1,b", "c"), eBool(2), eInt(1000), eOp("!", x0, x0), eOp("-", x0))
}

func TestTextsOfTermsThatDifferInOneField(t *testing.T) {
	row := recOf("a b", tInt, bagOf(tBool))
	list := append(termsOfEachKind(), eOne(eLam("x", row, eLam("y", funOf(row, tInt), eEmpty(row)))), eFor("x", eFor("y", d0, d0), eIf(x0, d0, eUnion(d0, eOne(eRec("a b", x0, x0))))), eRec("a b c", eProj(x0, "a"), eOp("!", x0), eCount(d0)))
	for _, e := range list {
		s := checkTextBySentences(t, e)
		for _, v := range termVariants(e) {
			if checkTextBySentences(t, v) == s {
				t.Errorf("%v and %v have the text %q", e, v, s)
			}
		}
	}
}

func TestTextsOfNamesAndNumbers(t *testing.T) {
	for _, name := range []string{"a", "z", "x9", "abcd", "x123", "fo", "iff", "for1", "if0", "i", "t", "e", "d", "empt", "coun", "i0"} {
		checkTermStrings(t, true, []string{name}, "_", "@_", "x._", "_._._", "{_=_}", "(for _<-@_ _)", "(\\_:I._)", "(_ _)", "(_+_)", "(if _ _ _)", "(empty _)", "(!_)", "[_]", "[:{_:I}]", "(\\_:{_:B}._._)")
	}
	for n := range 1100 {
		s := strconv.Itoa(n)
		if n > 999 {
			checkTermText(t, eInt(n), "")
			checkReadsNoTerm(t, s, "("+s+"+1)", "(x "+s+")", "[@d."+s+"]")
			continue
		}
		checkTermAndText(t, eInt(n), s)
		checkTermAndText(t, eOp("-", eInt(n), eInt(999-n)), "("+s+"-"+strconv.Itoa(999-n)+")")
		checkReadsNoTerm(t, "0"+s, "+"+s, "-"+s, s+".", "."+s, "x."+s, "@"+s, "#"+s, s+"a", s+" ", " "+s, s+"_", "[0"+s+"]")
	}
	// "a.b" is a name in none of these places, though it is a field.
	noNames := slices.DeleteFunc(slices.Clone(namesOfNone), func(s string) bool { return s == "a.b" })
	checkTermStrings(t, false, noNames, "@_", "x._")
	checkTermStrings(t, false, namesOfNone, "{_=x}", "{a=x,_=x}", "(for _<-@d x)", "(\\_:I.x)", "[:{_:I}]")
	checkReadsNoTerm(t, "999999", "1000000", "999999999999", "9223372036854775807", "9223372036854775808", "18446744073709551617", strings.Repeat("1", 10000), strings.Repeat("0", 10000), "1_0", "0x1", "1e1", "1.0", "1.", ".1", "١", "-0", "+0", "00", "-1", "--1", "(x--1)", "(x+-1)", "(x<-1)", "(x=-1)")
}

func TestTextsOfBooleansAndTables(t *testing.T) {
	around := []string{"_", "[_]", "(_ x)", "(x _)", "(_+_)", "(!_)", "{a=_,b=_}", "_.a", "(if _ _ _)"}
	checkTermStrings(t, true, []string{"#t", "#f", "@d", "@t", "@e1", "@abcd", "@iff"}, around...)
	checkTermStrings(t, false, []string{"#", "#x", "#tt", "#tf", "#ft", "##t", "#T", "#F", "#1", "#0", "#t1", "#t#t", "t#", "# t", "#true", "#\x00", "#é"}, around...)
	checkTermStrings(t, false, []string{"@", "@@d", "@if", "@for", "@D", "@0", "@1a", "@abcde", "@ d", "@d@e", "@d ", "@(d)", "@#t", "@d1234", "@_", "@dD", "@é", "@\x00", "@[d]", "@.a", "d@"}, around...)
}

func TestWordsOfFormsAsNames(t *testing.T) {
	places := []string{"_", "@_", "x._", "_.x", "[_]", "(x _)", "(x+_)", "(_+x)", "(_++x)", "(!_)", "{a=_}", "{_=x}", "(for _<-@d x)", "(for x<-_ x)", "(for x<-x _)", "(if _ x x)", "(if x _ x)", "(if x x _)", "(\\_:I.x)", "(\\x:I._)", "(empty _)", "(count _)", "[:{_:I}]", "(_.a x)"}
	checkTermStrings(t, false, []string{"for", "if", "empty", "count", "emptyx", "counts", "forth", "count0", "empty1"}, places...)
	checkTermStrings(t, true, []string{"fort", "iff", "for0", "if1", "if12", "f", "fo", "i", "e", "empt", "emp", "coun", "c"}, places...)
	// Behind an opening bracket.
	checkTermStrings(t, false, []string{"for", "if"}, "(_ x)", "((_ x) y)", "(_ @d)", "(_ x y)", "(_)", "(_ )", "(_x)", "(_(x))", "(_[x] y)", "(_\tx)", "(_  x)", "( _ x)", "(_<-@d x)", "(_.a x)", "(_=x)")
	checkTermStrings(t, true, []string{"empty", "count"}, "(_ x)", "(_ @d)", "(_ (_ x))", "((_ x) x)", "(_ x).a", "(_ {a=(_ x)}.a)")
	checkTermStrings(t, false, []string{"empty", "count"}, "(_ x y)", "(_)", "(_ )", "(_x)", "(_(x+y))", "(_[x])", "(_@d)", "(_  x)", "( _ x)", "(_+x)", "(_.a x)", "(_\tx)", "(_ x )", "_ x", "[_ x]", "(_ x", "(x _ y)")
	checkTermStrings(t, true, []string{"fort", "iff", "for0", "if9", "empt", "coun", "fo", "i"}, "(_ x)", "((_ x) y)", "(_ @d)", "(_ (_ x))", "(_.a x)", "(_+x)", "(x _)", "(_ _)")
	checkTermStrings(t, false, []string{"fort", "iff", "for0", "if9", "empt", "emptyx", "counts", "forx", "ifx"}, "(_ x y)", "(_ x y z)", "(_ x<-@d x)", "(_)", "(_x<-@d x)")
	checkReadsNoTerm(t, "(emptyx @d)", "(counts @d)", "(forx<-@d x)", "(ifx y z)", "(IF x y z)", "(For x<-@d x)", "(Empty x)", "(COUNT x)")
}

func TestWhatFollowsTheFirstTerm(t *testing.T) {
	terms := []string{"x", "1", "#t", "@d", "(x+1)", "(!x)", "{a=1}", "x.a", "[:I]", "[x]", "(x++y)", "(for x<-@d x)", "(if x y z)", "(\\x:I.x)", "(f x)", "(empty x)", "(count x)", "(x y).a"}
	between := []string{"+", "-", "=", "<", "&", "|", "++", " "}
	others := []string{
		"", ")", "(", ",", ":", ".", ">", "!", "*", "/", "^", "%", "~", "\\", "@", "#", "_", "?", ";", "\t", "\n", "\x00", "\x80", "\xff", "é", "＋",
		"+++", "++++", "--", "==", "<=", "<-", "=<", "->", "=>", "<<", "&&", "||", "!=", "+-", "-+", "+=", "+ ", " +", " + ", "++ ", " ++", " ++ ", "  ", " - ", " =", "< ", "& ", " |", "+\x00", "\x00+", "+!", " !", "=)", "+)", "+.", ".+", "+,", ",+", "++)", "+\n",
	}
	for _, first := range terms {
		for _, second := range terms {
			for _, mark := range between {
				s := "(" + first + mark + second + ")"
				if e, ok := impl.ParseTerm(s); !ok || impl.FormatTerm(e) != s || len(e.Args) != 2 || termTextOfParts(e.Args[0]) != first || termTextOfParts(e.Args[1]) != second || termTextOfParts(e) != s {
					t.Errorf("ParseTerm(%q) = %v, %v", s, e, ok)
				}
			}
		}
		for _, mark := range between {
			checkReadsNoTerm(t, first+mark+"x", "["+first+mark+"x]", "("+first+mark+")", "("+first+mark, "("+mark+first+")", "("+first+mark+"x", "("+first+mark+"x"+mark+"x)", "("+first+mark+"x "+first+")", "("+first+mark+"x,y)", "("+first+mark+"x))", "{a="+first+mark+"x}")
		}
		for _, mark := range others {
			// "x.x" is one term, and so is what the first word is continued to.
			for _, second := range []string{"x", "@d", "(y-1)", "{b=2}"} {
				checkTermString(t, "("+first+mark+second+")")
			}
			checkReadsNoTerm(t, "("+first+mark+")", "("+first+mark, "("+first+mark+"[y])", "("+first+mark+"(y=2))")
		}
		checkReadsNoTerm(t, "("+first+")", "(("+first+"))", "("+first, "(("+first+") x)", "(("+first+")+x)", "[("+first+")]")
	}
	checkReadsNoTerm(t, "()", "(", ")", "( )", "(+)", "(++)", "(x)", "((x))", "(x++)", "(x+)", "(++x)", "(+x)", "(x+++y)", "(x+ +y)", "(x++ y)", "(x ++y)", "(x + 1)", "(x*y)", "(x y z)", "(x+y+z)", "(x++y++z)", "(x+y z)", "(x y+z)", "(-x)", "(- x)", "(x!y)", "(x!)", "(!)", "(!x y)", "(!x+y)", "(! x)", "(!!x)", "!x", "!(x)", "(x=y=z)", "(x<y<z)", "(x>y)", "(x==y)", "(x<=y)")
}

func TestTextsOfApplications(t *testing.T) {
	for _, f := range termsOfEachKind() {
		for _, arg := range termsOfEachKind() {
			checkTermAndText(t, eApp(f, arg), "("+termTextOfParts(f)+" "+termTextOfParts(arg)+")")
			checkTermAndText(t, eApp(eApp(f, arg), f), "(("+termTextOfParts(f)+" "+termTextOfParts(arg)+") "+termTextOfParts(f)+")")
		}
	}
	for _, f := range []string{"f", "x.f", "x.f.g", "(if c f g)", "(for x<-@d f)", "(\\x:I.x)", "(\\x:(I>I).(\\y:I.(x y)))", "(f x)", "{f=x}.f", "@f", "[f]", "[:(I>I)]", "1", "#t", "(f+g)", "(f++g)", "(!f)", "(empty f)", "(count f)"} {
		checkTermStrings(t, true, []string{f}, "(_ x)", "(_ _)", "((_ x) y)", "(_ (_ x))", "(_ x).a", "(_.a x)", "(x _)", "[(_ x)]", "{a=(_ x)}")
		checkTermStrings(t, false, []string{f}, "(_  x)", "(_ x )", "( _ x)", "(_ x y)", "(_ )", "(_)", "_ x", "(_x)", "(_,x)", "((_) x)", "(_ (x))", "[_ x]")
	}
}

func TestTextsOfFields(t *testing.T) {
	for _, e := range termsOfEachKind() {
		field, s := e, termTextOfParts(e)
		for _, label := range []string{"a", "k", "t", "if0", "x123", "for1", "a", "d"} {
			field, s = eProj(field, label), s+"."+label
			checkTermAndText(t, field, s)
			checkTermAndText(t, eOp("+", field, field), "("+s+"+"+s+")")
			checkReadsNoTerm(t, s+".", s+"..a", s+". a", s+" .a", s+".(a)", s+".[a]", s+".@d", s+".#t", s+".1", s+".A", s+".if", s+".for", s+".abcde", s+".a b", s+".-", s+".\xff", "."+s, s+".a.", s+"a ", s+".a]")
		}
	}
	checkReadsNoTerm(t, "x.", ".x", ".", "x..y", "x.y.", ".x.y", "x.1", "1.1", "1.", "x.[y]", "x.{y}", "x.(y)", "[x.]", "(x.+y)", "(x.y.z.)", "{a=x.}", "{.a=x}", "{a.b=x}", "(for x.a<-@d x)", "(\\x.a:I.x)", "@.d", "#.t", "x.#t", "x.@d")
}

func TestTextsOfRecords(t *testing.T) {
	for _, list := range listsOver([]string{"a", "a0", "ab", "b", "c"}, 5) {
		fields := make([]string, len(list))
		for i, l := range list {
			fields[i] = l + "=" + []string{"1", "x.a", "(x=y)"}[i%3]
		}
		valid := 1 <= len(list) && len(list) <= 4
		for i := 1; i < len(list); i++ {
			valid = valid && list[i-1] < list[i]
		}
		checkTermStrings(t, valid, []string{"{" + strings.Join(fields, ",") + "}"}, "_", "[_]", "_.a")
	}
	checkReadsNoTerm(t, "{}", "{{}}", "{a={}}", "{a}", "{a=}", "{=1}", "{=}", "{1}", "{a,b}", "{a=,b=1}", "{a=1,b=}", "{a=1,b}", "{a=1,=1}", "{a=1,1}", "{,}", "{,a=1}", "{a=1,}", "{a=1,,b=2}", "{a=1,b=2,}", "{a==1}", "{a=1=1}", "{a=b=1}", "{a=1b=2}", "{a:1}", "{a=1;b=2}", "{a=1 b=2}", "{a=1 ,b=2}", "{a=1, b=2}", "{ a=1}", "{a =1}", "{a= 1}", "{a=1 }", "{a=1", "a=1}", "a=1", "{a=1}}", "{{a=1}", "{a=1]", "{a=1)", "{a=x+1}", "{a=x=y}", "{a=x y}", "{a=(x=y}",
		"{a=1,a=2}", "{a=1,a=1}", "{b=1,a=2}", "{a=1,c=2,b=3}", "{a=1,b=2,b=3}", "{a=1,b=2,c=3,d=4,e=5}", "{ab=1,a=2}", "{a9=1,a10=2}", "{a={b=1,b=2}}", "{if=1}", "{for=1}", "{abcde=1}", "{A=1}", "{0=1}", "{a_=1}", "{é=1}", "{a=1}{b=2}", "{a=1}.a.", "{a=1}[x]", "{a=1}(x)", "{a=1},{b=2}")
}

func TestTypesInTexts(t *testing.T) {
	places := []string{"[:_]", "(\\x:_.x)", "[[:_]]", "(\\x:_.[:_])", "((\\x:_.x) [:_])", "{a=[:_],b=(\\f:_.x)}", "[:_].a", "(\\x:_.x).a", "(\\x:_.(\\y:_.y))", "(\\x:_.x.a.b)", "(\\x:_.{a=x})", "([:_]++[:_])"}
	four := "{a:I,b:B,c:I,d:B}"
	large := "{a:" + four + ",b:" + four + ",c:" + four + ",d:{a:I,b:I,c:I,d:{a:I,b:B,c:I}}}"
	right := []string{"I", "B", "[I]", "{a:I}", "{a:I,b:[{c:B}]}", "(I>B)", "([I]>(I>I))", "((I>B)>{a:I})", "[[[[[[I]]]]]]", large, "{iff:I}"}
	checkTermStrings(t, true, right, places...)
	wrong := []string{
		"", "i", "x", "1", "#t", "@d", "II", "IB", "I>B", "(I>B", "I>B)", "[]", "{}", "()", "(I)", "[I", "I]", "{a}", "{a:I", "{a:}", "{a=I}", "{b:I,a:I}", "{a:I,a:I}", "{if:I}", "{a:I,}", "(I->B)", "(I,B)", "(I B)", " I", "I ", "[ I]", "[:I]", "[[[[[[[I]]]]]]]",
		"[" + large + "]", "[(I>I)]", "{a:(I>I)}", "(I>[(I>I)])", "{a:I,b:I,c:I,d:I,e:I}", "I.", ".I", "I:", ":I", "I,", "(I>B)>I", "\xff", "[é]",
	}
	checkTermStrings(t, false, wrong, places...)
	checkReadsNoTerm(t, "[:I", "[:]", "[I:]", "[:I]]", "[:I:I]", "[:I,B]", "[::I]", "[: I]", "[ :I]", "[:I ]", "[:Ix]", "[:I]I", "[:I)", "[:I}", "(:I)", "{:I}", ":I", "[a:I]", "[x:I]", "[:I.x]",
		"(\\x:I.)", "(\\x:I)", "(\\x:.x)", "(\\x:x)", "(\\x.x)", "(\\:I.x)", "(\\x:I:x)", "(\\x:I x)", "(\\x:I,x)", "(\\xI.x)", "(\\x :I.x)", "(\\ x:I.x)", "(\\x: I.x)", "(\\x:I .x)", "(\\x:I. x)", "(\\x:I.x )", "(\\x:I.x", "\\x:I.x)", "\\x:I.x", "(\\x:I..x)", "(\\x:I.x y)", "(\\x:I.x+y)", "(\\x,y:I.x)", "(\\x:I,y:I.x)", "(\\x:I.x)y", "(\\(x):I.x)", "(\\1:I.x)", "(\\if:I.x)", "(\\for:I.x)", "(\\X:I.x)", "(\\abcde:I.x)", "(/x:I.x)", "(λx:I.x)", "[\\x:I.x]", "{\\x:I.x}", "(\\@d:I.x)", "(\\x:I.\\y:I.y)", "(\\\\x:I.x)")
}

func TestTextsOfLoopsAndChoices(t *testing.T) {
	checkReadsNoTerm(t,
		"(for)", "(for )", "(for x)", "(for x<-@d)", "(for x<-@d )", "(for x<-@d  x)", "(for  x<-@d x)", "(for x <-@d x)", "(for x<- @d x)", "(for x< -@d x)", "(for x<-@dx)", "(for x@d x)", "(for x<@d x)", "(for x-@d x)", "(for x->@d x)", "(for x=@d x)", "(for x<--@d x)", "(for x<<-@d x)", "(for x<-<-@d x)", "(for <-@d x)", "(for x<-@d x )", "(for x<-@d x y)", "(for x<-@d x", "for x<-@d x)", "for x<-@d x", "[for x<-@d x]", "(for x,y<-@d x)", "(for x<-@d,y<-@e x)", "(for x<-@d x))", "(for 1<-@d x)", "(for X<-@d x)", "(for @d<-@d x)", "(for x.a<-@d x)", "(for (x)<-@d x)", "(for x<-@d,x)", "(for x<-@d.x)", "(for x<-x+y x)", "(for x<-(x+y)x)", "(for x<-@d\tx)", "(for\tx<-@d x)", "(for x<-@d x y z)", "(for x in @d x)", "(for x:I<-@d x)", "(for x<-@d [x]", "(for x<-@d [x)",
		"(if)", "(if )", "(if x)", "(if 1 2)", "(if x y)", "(if x y )", "(if x y z )", "(if x y z w)", "(if x  y z)", "(if x y  z)", "(if  x y z)", "( if x y z)", "(if x,y,z)", "(if x y,z)", "(if x y z", "if x y z)", "if x y z", "[if x y z]", "(if (x) y z)", "(if x+1 y z)", "(if xyz)", "(if x yz)", "(if\tx y z)", "(if(x=y) y z)", "(if#t 1 2)", "(if x y z))", "(if x y else z)", "(if x then y else z)", "(ifx y z)", "(iff x y z)", "(if x[y]z)", "(if x [y][z])", "(if x [y] [z]]",
		"(empty)", "(empty )", "(empty  x)", "(empty x )", "(empty x y)", "(emptyx)", "(empty(x))", "(empty[x])", "(empty x", "empty x)", "empty x", "[empty x]", "(empty x+1)", "(empty x))", "(count)", "(count )", "(count  x)", "(count x )", "(count x y)", "(countx)", "(count[x])", "(count x", "count x)", "count x", "(count x++y)",
		"[]", "[ ]", "[x", "x]", "[[x]", "[x]]", "[x,y]", "[1,2]", "[x y]", "[x+y]", "[x,]", "[,x]", "[x}", "[x)", "[ x]", "[x ]", "[x][y]", "[x]y", "x[y]", "[[]]", "[x;y]", "[x++y]", "][")
	checkTermStrings(t, true, []string{"x", "1", "[x]", "(x=y)", "(if x y z)", "(for x<-@d x)", "{a=1,b=2}", "x.a.b", "(f x)"},
		"(for x<-_ _)", "(if _ _ _)", "(if _ (if _ _ _) x)", "(for x<-(for x<-_ _) _)", "(for x<-(if _ _ _) _)", "(if (for x<-_ _) _ _)", "(empty _)", "(count _)", "[_]", "([_]++[_])", "((if _ _ _)+(for x<-_ _))")
}

func TestTextsWithSpacesElsewhere(t *testing.T) {
	for _, e := range termsOfEachKind() {
		for _, whole := range around(e) {
			s := termTextOfParts(whole)
			for i := range len(s) + 1 {
				checkReadsNoTerm(t, s[:i]+" "+s[i:], s[:i]+"\n"+s[i:], s[:i]+"\t"+s[i:])
				if i < len(s) && s[i] == ' ' {
					checkTermString(t, s[:i]+s[i+1:])
					checkReadsNoTerm(t, s[:i]+"\t"+s[i+1:], s[:i]+"_"+s[i+1:])
				}
			}
		}
	}
}

func TestTextsOfTermsWithAnEdit(t *testing.T) {
	others := strings.Split("0 1 x I B # @ [ ] { } ( ) = , : . + - < & | ! > \\ _ A \x00 \x80 \xff é \n ++ <- #t @d .a [x] [:I] if for empty count (x 1) {a=", " ")
	others = append(others, " ", " x", "x ", ",c=1", "for ", "if ", "(\\x:I.")
	for _, s := range []string{
		"x", "12", "#t", "#f", "@d", "(x+1)", "(3-x)", "(x=y)", "(1<2)", "(x&y)", "(x|y)", "(!x)", "{a=1}", "{a=1,b=x.k}", "x.a.b", "[:I]", "[:{a:I,b:[B]}]", "[x]", "([1]++[2])", "(for x<-@d [x.n])", "(if #t 1 2)", "(\\x:I.(x+1))", "(\\f:(I>[B]).x)", "((\\x:I.x) 5)", "(f x)", "(empty @d)", "(count [1])",
		"((if c f x.g) (a&(b|c)))", "(for x<-(if #f @d [x]) {a=(count [:B])})", "[{a=(!x),b=[x.k]}]", "((empty (x y))++((x-1)<999))",
	} {
		if !checkTermString(t, s) {
			t.Errorf("%q is no term", s)
		}
		for _, edit := range edits(s, others) {
			checkTermString(t, edit)
		}
		for i := range len(s) {
			// In what is left of it, a bracket is still open.
			if strings.ContainsAny(s, "([{") {
				checkReadsNoTerm(t, s[:i])
			}
		}
		checkReadsNoTerm(t, s+" ", " "+s, s+")", s+"]", s+"}", s+",", s+"(x+y)", s+"\x00", s+"#t", s+"@d", s+"{a=1}", s+"[x]", s+"\n", "("+s, "["+s, "{"+s, s+" "+s)
	}
}

func TestTextsOfTermsWithAnyOtherByte(t *testing.T) {
	var bytes []string
	for b := range 256 {
		bytes = append(bytes, string([]byte{byte(b)}))
	}
	for _, s := range []string{"x", "12", "#t", "@d", "(x+y)", "(!x)", "{a=1,b=2}", "x.a", "[:I]", "[x]", "(x++y)", "(for x<-y z)", "(if x y z)", "(\\x:I.x)", "(f x)", "(empty x)", "(count x)"} {
		for _, edit := range edits(s, bytes) {
			checkTermString(t, edit)
		}
	}
}

func TestAllShortStringsAndTerms(t *testing.T) {
	terms := 0
	for _, s := range slices.Concat(
		stringsOver("x1#t@[]{}()=,.+-<!: I", 3), stringsOver("x0@#t.[]", 5), stringsOver("x()+ ", 7), stringsOver("x(+-)", 6), stringsOver("x1(!&|)", 5), stringsOver("x{}a=,", 6), stringsOver("x[]:IB.", 6), stringsOver("(\\x:I.)", 7), stringsOver("(x<=)1", 6)) {
		if checkTermString(t, s) {
			terms++
		}
	}
	if terms < 600 {
		t.Errorf("only %d terms", terms)
	}
	// All ways to put words behind an opening bracket.
	words := []string{"for", "if", "empty", "count", "iff", "x", "1", " ", "<-", "(x y)", "+", ".a"}
	for _, list := range listsOver(words, 5) {
		s := strings.Join(list, "")
		checkTermString(t, "("+s+")")
	}
}

func TestTextsOfTheGreatestTerms(t *testing.T) {
	for n := 1; n < 130; n++ {
		for i, e := range append(around(inRow(n)), inRow(n)) {
			if i == 21 || n > 50 || i == n%21 {
				checkGreatTerm(t, e)
			}
		}
		checkGreatTerm(t, eOp("+", inRow(n), inRow(20)))
		checkGreatTerm(t, eRec("a b c", inRow(10), inRow(n), inRow(7)))
		checkGreatTerm(t, eFor("x", inRow(n), eProj(inRow(5), "a")))
	}
	four := "{a:I,b:B,c:I,d:B}"
	large := "{a:" + four + ",b:" + four + ",c:" + four + ",d:{a:I,b:I,c:I,d:{a:I,b:B,c:I}}}"
	x, ok := typeBySplitting(large)
	if !ok || sizeByParts(x) != 24 {
		t.Fatal("not the greatest type")
	}
	// The nodes of types do not count.
	bags := eEmpty(x)
	for range 5 {
		bags = eUnion(bags, bags)
	}
	for _, e := range []impl.Term{bags, eLam("x", x, bags), eOne(bags)} {
		checkGreatTerm(t, e)
	}
	half := eUnion(eUnion(eUnion(eEmpty(x), eEmpty(x)), eEmpty(x)), eUnion(eEmpty(x), eEmpty(x)))
	for range 2 {
		half = eUnion(half, half)
	}
	for n := nodesOfTerm(half); n < 63; n++ {
		checkGreatTerm(t, half)
		half = eLam("y", x, half)
	}
}

// checkGreatTerm also reads the texts of terms that are too large or too deep.
func checkGreatTerm(t *testing.T, e impl.Term) {
	t.Helper()
	s := termTextOfParts(e)
	if nodesOfTerm(e) <= 60 && depthOfTerm(e) <= 16 {
		checkTermAndText(t, e, s)
	} else {
		checkTermText(t, e, "")
		checkReadsNoTerm(t, s)
	}
}

func TestTextsOfTheDeepestTerms(t *testing.T) {
	for place := range around(x0) {
		for _, leaf := range []impl.Term{x0, eEmpty(bagOf(bagOf(tInt))), eTable("t"), eInt(999)} {
			e := leaf
			for depth := 1; depth < 24; depth++ {
				if depthOfTerm(e) != depth {
					t.Fatal("depth", depth)
				}
				checkGreatTerm(t, e)
				e = around(e)[place]
			}
		}
	}
	deepest := nestedTerm(14, x0, eOne)
	for _, whole := range around(deepest) {
		checkGreatTerm(t, whole)
		for _, beyond := range around(whole) {
			checkGreatTerm(t, beyond)
		}
	}
	checkReadsTerm(t, strings.Repeat("[", 15)+"x"+strings.Repeat("]", 15), nestedTerm(15, x0, eOne))
	checkReadsNoTerm(t, strings.Repeat("[", 16)+"x"+strings.Repeat("]", 16))
	checkReadsTerm(t, "x"+strings.Repeat(".a", 15), nestedTerm(15, x0, func(e impl.Term) impl.Term { return eProj(e, "a") }))
	checkReadsNoTerm(t, "x"+strings.Repeat(".a", 16))
	checkReadsTerm(t, strings.Repeat("(!", 15)+"x"+strings.Repeat(")", 15), nestedTerm(15, x0, func(e impl.Term) impl.Term { return eOp("!", e) }))
	checkReadsNoTerm(t, strings.Repeat("(!", 16)+"x"+strings.Repeat(")", 16))
}

func TestVeryLongStringsAreNoTerms(t *testing.T) {
	defer debug.SetMaxStack(debug.SetMaxStack(1 << 20))
	const n = 1 << 20
	long := func(s string) string { return strings.Repeat(s, n) }
	checkReadsNoTerm(t,
		long("("), long("["), long("{"), long("(("), long("([{"), long("{a="), long("(!"), long("(x "), long("(x+"), long("(x++"), long("(if "), long("(if x "), long("(if x x "), long("(for x<-"), long("(for x<-x "), long("(for "), long("(\\x:I."), long("(\\x:"), long("(\\"), long("(empty "), long("(count "), long("[:"), long("[:["), "[:"+long("["), "[:"+long("{a:"), "(\\x:"+long("("),
		long(")"), long("]"), long("}"), long("x"), long("1"), long("0"), long("#"), long("#t"), long("@"), long("@d"), long("."), long(".a"), long("x."), "x"+long(".a"), long(" "), long("+"), long("-"), long("="), long("!"), long("\\"), long(","), long(":"), long("\xff"), long("\x00"), long("é"), long("for "), long("if"),
		long("(!")+"x"+long(")"), long("[")+"x"+long("]"), long("{a=")+"x"+long("}"), long("(x+")+"x"+long(")"), long("(")+"x"+long("+x)"), long("(x ")+"x"+long(")"), long("(")+"x"+long(" x)"), long("(")+"x"+long("++x)"), long("(empty ")+"x"+long(")"), long("(for x<-x ")+"x"+long(")"), long("(for x<-")+"x"+long(" x)"), long("(if x x ")+"x"+long(")"), long("(\\x:I.")+"x"+long(")"), "[:"+long("[")+"I"+long("]")+"]",
		"("+long("x"), "("+long("x")+" x)", "(x "+long("x")+")", "(x"+long(" ")+"x)", "(x"+long("+")+"x)", "(x+"+long("1")+")", "@"+long("d"), "x."+long("a"), "{"+long("a")+"=1}", "{"+long("a"), "{a=1,"+long("b=1,")+"c=1}", "{"+long("a=1,"), "{"+long(","), "(for "+long("x")+"<-@d x)", "(\\"+long("x")+":I.x)", "(\\x:{"+long("a")+":I}.x)", "[:{"+long("a:I,")+"b:I}]", "[:"+long("I")+"]",
		"x"+long(" "), "[x]"+long("]"), "(x+1)"+long(")"), "#t"+long("t"), "1"+long("0"), long(" ")+"x", "x"+long(")"), "{a=1}"+long("}"), "(x+1)"+long("+1"))
}

func TestTermsBeyondAllLimitsHaveNoText(t *testing.T) {
	defer debug.SetMaxStack(debug.SetMaxStack(1 << 20))
	within := []impl.Term{{Kind: impl.TeOne}}
	within[0].Args = within
	second := []impl.Term{x0, {Kind: impl.TeUnion}}
	second[1].Args = second
	twice := make([]impl.Term, 2)
	twice[0], twice[1] = eNode(impl.TeApp, twice...), eNode(impl.TeUnion, twice...)
	doubled := nestedTerm(200, x0, func(e impl.Term) impl.Term { return eUnion(e, e) })
	ofType := []impl.Type{{Kind: impl.TyBag}}
	ofType[0].Args = ofType
	doubledType := nestedType(200, tInt, func(x impl.Type) impl.Type { return funOf(x, x) })
	for i, e := range []impl.Term{
		within[0], second[1], twice[0], doubled, eRec("a b", x0, doubled), eFor("x", doubled, d0), nestedTerm(100000, x0, eOne), eOp("+", x0, nestedTerm(100000, x0, eCount)), eNode(impl.TeRec, make([]impl.Term, 100000)...), withLabels(eNode(impl.TeRec), make([]string, 100000)...),
		eEmpty(ofType[0]), eLam("x", ofType[0], x0), withType(x0, ofType[0]), eEmpty(doubledType), eLam("x", doubledType, x0), eEmpty(nestedType(100000, tInt, bagOf)), eVar(strings.Repeat("a", 100000)),
	} {
		if got := impl.FormatTerm(e); got != "" {
			t.Errorf("term %d: FormatTerm = %.80q", i, got)
		}
	}
}

func TestNilAndEmptySlicesOfTermsHaveTheSameText(t *testing.T) {
	row := recOf("a b", tInt, bagOf(tBool))
	list := append(termsOfEachKind(), impl.Term{}, eRec(""), eRec("a"), eNode(0, x0), withType(eOne(x0), row), withLabels(eOne(x0), "a"), eNode(impl.TeUnion), eOp("+"), eFor("x", eEmpty(row), eLam("y", funOf(row, tInt), eRec("c", x0))))
	for _, e := range list {
		want := termTextBySentences(e)
		checkTermText(t, emptiedTerm(e), want)
		checkTermText(t, nilledTerm(e), want)
		checkTermText(t, eOne(eUnion(emptiedTerm(e), nilledTerm(e))), termTextBySentences(eOne(eUnion(e, e))))
	}
}

func TestFormatTermKeepsItsArgument(t *testing.T) {
	row := recOf("a b", tInt, bagOf(tBool))
	list := append(termsOfEachKind(), impl.Term{}, eNode(17, d0, x0), eFor("x", eUnion(d0, eTable("e")), eLam("y", funOf(row, tInt), eRec("a b", x0, eTable("d")))), eRec("b a", x0, d0), withType(withLabels(eOne(x0), "z"), row), eIf(eTable("b"), eEmpty(row), eApp(x0, x0)))
	for _, e := range list {
		arg := termWithSpare(e)
		before := wholeTerm(arg)
		checkTermText(t, arg, termTextBySentences(e))
		text := impl.FormatTerm(arg)
		if !sameTerm(wholeTerm(arg), before) {
			t.Errorf("the memory of %v became %v", e, wholeTerm(arg))
		}
		overwriteTerm(arg)
		if text != termTextBySentences(e) {
			t.Errorf("the text of %v became %q", e, text)
		}
	}
}

func TestTermsThatAreReadAreNewMemory(t *testing.T) {
	for _, s := range []string{
		"x", "1", "[x]", "[:{a:[I]}]", "{a=1,b=#t}", "{a={a=1},b={a=1},c={a=1},d={a=1}}", "([:{a:I}]++[:{a:I}])", "(if {a=1} {a=1} {a=1})", "(\\x:{a:I}.[:{a:I}])", "((\\x:{a:I}.x) (\\x:{a:I}.x))", "(for x<-{a=x.a} {a=x.a})", "(x.a.b+x.a.b)", "(empty (count (!x)))",
	} {
		want, ok := termBySplitting(t, s)
		if !ok {
			t.Fatal(s)
		}
		first, _ := impl.ParseTerm(s)
		second, _ := impl.ParseTerm(s)
		overwriteTerm(second)
		if !sameTerm(first, want) {
			t.Errorf("an earlier result of ParseTerm(%q) became %v", s, first)
		}
		checkReadsTerm(t, s, want)
		overwrite(first.Type)
		for i, a := range first.Args {
			// What lies behind the end of one slice is not part of another one.
			_ = append(a.Args, eNode(66))
			_ = append(a.Labels, "z")
			overwriteTerm(a)
			if !slices.EqualFunc(first.Args[i+1:], want.Args[i+1:], sameTerm) {
				t.Errorf("the parts of ParseTerm(%q) share memory: %v", s, first.Args)
			}
		}
	}
}

func TestReadingATermAfterAFailureIsAsBefore(t *testing.T) {
	for range 3 {
		checkReadsTerm(t, "{a=1,b=[#t]}", eRec("a b", eInt(1), eOne(eBool(1))))
		checkReadsNoTerm(t, "{a=1,b=[#t}", strings.Repeat("[", 5000), "(x+", "{a", "", "(for x<-", "[:", "(\\x:I.")
		checkReadsTerm(t, "(x++[:I])", eUnion(x0, eEmpty(tInt)))
	}
}
