package tests

import (
	"fmt"
	"runtime/debug"
	"slices"
	"strings"
	"testing"

	"loop.example/g00587/impl"
)

// The following are the sentences of the document, each by a recursion over the term.

// bindsIn says whether e binds its name in Args[i].
func bindsIn(e impl.Term, i int) bool {
	switch e.Kind {
	case impl.TeFor:
		return i == 1
	case impl.TeLam:
		return i == 0
	}
	return false
}

func freeBySentences(e impl.Term) []string {
	var names []string
	add := func(name string) {
		if !slices.Contains(names, name) {
			names = append(names, name)
		}
	}
	if e.Kind == impl.TeVar {
		add(e.Name)
	}
	for i, a := range e.Args {
		for _, name := range freeBySentences(a) {
			if !bindsIn(e, i) || name != e.Name {
				add(name)
			}
		}
	}
	return names
}

func freshBySentences(list []string) string {
	n := 1
	for slices.Contains(list, fmt.Sprint("v", n)) {
		n++
	}
	return fmt.Sprint("v", n)
}

func substBySentences(e impl.Term, name string, by impl.Term) impl.Term {
	if e.Kind == impl.TeVar && e.Name == name {
		return by
	}
	out := e
	out.Args = nil
	for i, part := range e.Args {
		switch {
		case !bindsIn(e, i):
			part = substBySentences(part, name, by)
		case e.Name == name:
		case slices.Contains(freeBySentences(by), e.Name) && slices.Contains(freeBySentences(part), name):
			out.Name = freshBySentences(slices.Concat(freeBySentences(by), freeBySentences(part), []string{name}))
			part = substBySentences(substBySentences(part, e.Name, eVar(out.Name)), name, by)
		default:
			part = substBySentences(part, name, by)
		}
		out.Args = append(out.Args, part)
	}
	return out
}

// nameless returns e without bound names: what refers to one says how many forms outwards it is bound.
func nameless(e impl.Term, around ...string) impl.Term {
	out := e
	out.Args = nil
	switch e.Kind {
	case impl.TeVar:
		out.Name = "free " + e.Name
		if i := slices.Index(around, e.Name); i >= 0 {
			out.Name = fmt.Sprint("bound ", i)
		}
	case impl.TeFor, impl.TeLam:
		out.Name = ""
	}
	for i, a := range e.Args {
		if bindsIn(e, i) {
			out.Args = append(out.Args, nameless(a, append([]string{e.Name}, around...)...))
		} else {
			out.Args = append(out.Args, nameless(a, around...))
		}
	}
	return out
}

func alphaBySentences(a, b impl.Term) bool { return sameTerm(nameless(a), nameless(b)) }

// replaced returns e, which is nameless, with all free variables of a name replaced: nothing can be captured here.
func replaced(e impl.Term, name string, by impl.Term) impl.Term {
	if e.Kind == impl.TeVar && e.Name == "free "+name {
		return by
	}
	out := e
	out.Args = nil
	for _, a := range e.Args {
		out.Args = append(out.Args, replaced(a, name, by))
	}
	return out
}

// checkFree compares the free variables of a term with the sentences above.
func checkFree(t *testing.T, e impl.Term) {
	t.Helper()
	want := freeBySentences(e)
	if got := impl.FreeVars(e); !slices.Equal(got, want) {
		t.Errorf("FreeVars(%v) = %q, want %q", e, got, want)
	}
	if impl.IsClosed(e) != (len(want) == 0) {
		t.Errorf("IsClosed(%v) = %v", e, impl.IsClosed(e))
	}
}

// checkFreeNames also says what the names are, so that the sentences above are tested too.
func checkFreeNames(t *testing.T, e impl.Term, names string) {
	t.Helper()
	checkFree(t, e)
	if got := impl.FreeVars(e); !slices.Equal(got, strings.Fields(names)) {
		t.Errorf("FreeVars(%v) = %q, want %s", e, got, names)
	}
}

// checkSubst compares a replacement with the sentences, and with one of terms without bound names.
func checkSubst(t *testing.T, e impl.Term, name string, by impl.Term) impl.Term {
	t.Helper()
	got := impl.SubstTerm(e, name, by)
	if want := substBySentences(e, name, by); !sameTerm(got, want) {
		t.Errorf("SubstTerm(%v, %q, %v) = %v, want %v", e, name, by, got, want)
	}
	if want := replaced(nameless(e), name, nameless(by)); hasPlainVars(e) && !sameTerm(nameless(got), want) {
		t.Errorf("SubstTerm(%v, %q, %v) = %v, which captures", e, name, by, got)
	}
	return got
}

// hasPlainVars says whether the variables have nothing but their names, which they also lose when a form gets a new name.
func hasPlainVars(e impl.Term) bool {
	return (e.Kind != impl.TeVar || onlyHas(e, eVar(e.Name), 0)) && !slices.ContainsFunc(e.Args, func(a impl.Term) bool { return !hasPlainVars(a) })
}

// checkSubstText also says what the result is.
func checkSubstText(t *testing.T, term, name, by, want string) {
	t.Helper()
	got := checkSubst(t, readTerm(term), name, readTerm(by))
	if impl.FormatTerm(got) != want {
		t.Errorf("%s with %s for %s is %s, want %s", term, by, name, impl.FormatTerm(got), want)
	}
}

// checkAlpha compares two terms both ways.
func checkAlpha(t *testing.T, a, b impl.Term) bool {
	t.Helper()
	want := alphaBySentences(a, b)
	if impl.AlphaEqual(a, b) != want || impl.AlphaEqual(b, a) != want {
		t.Errorf("AlphaEqual(%v, %v) = %v, %v the other way round", a, b, impl.AlphaEqual(a, b), impl.AlphaEqual(b, a))
	}
	return want
}

// checkAlphaTexts reads lines such as "x ~ y" or "x = x", of terms that differ or are equal up to bound names.
func checkAlphaTexts(t *testing.T, lines ...string) {
	t.Helper()
	for _, line := range lines {
		a, b, equal := strings.Cut(line, " = ")
		if !equal {
			a, b, _ = strings.Cut(line, " ~ ")
		}
		x, y := readTerm(a), readTerm(b)
		if checkAlpha(t, x, y) != equal {
			t.Errorf("the sentences say %v of %s", !equal, line)
		}
		for i, whole := range around(x) {
			if checkAlpha(t, whole, around(y)[i]) && !equal {
				t.Errorf("%s, but equal inside: %v", line, whole)
			}
		}
	}
}

func TestFreeVars(t *testing.T) {
	for term, names := range map[string]string{
		"x": "x", "1": "", "#t": "", "@d": "", "[:I]": "", "x.a": "x", "[x]": "x", "(!x)": "x", "(empty x)": "x", "(count x)": "x", "{a=x}": "x",
		"(x+y)": "x y", "(y+x)": "y x", "(x+x)": "x", "((x+y)+x)": "x y", "(x+(y+x))": "x y", "((z+y)+(x+y))": "z y x", "{a=z,b=y,c=z,d=x}": "z y x", "(if z y x)": "z y x", "(f x)": "f x", "(x++y)": "x y",
		// What is bound.
		"(for x<-@d [x])": "", "(\\x:I.x)": "", "(for x<-@d [y])": "y", "(\\x:I.y)": "y", "(for x<-y [(x+z)])": "y z", "(for x<-@d [{a=x,b=y,c=x}])": "y", "(\\x:I.{a=z,b=x,c=y})": "z y",
		// Args[0] of "for" is outside.
		"(for x<-x [1])": "x", "(for x<-x [x])": "x", "(for x<-[(x+y)] [(y+z)])": "x y z", "(for x<-y [y])": "y", "(for x<-(for y<-y [x]) [y])": "y x",
		// Free in one part and bound in another one, before it and behind it.
		"({a=x,b=(\\x:I.x)}.b y)": "x y", "((\\x:I.x) x)": "x", "(x (\\x:I.x))": "x", "((for x<-@d [x])++x)": "x", "(x++(for x<-@d [x]))": "x", "(x++((for x<-@d [x])++x))": "x", "((for x<-@d [(x+y)])++{a=x,b=y})": "y x", "{a=(\\x:I.x),b=(\\y:I.x),c=(\\x:I.y)}": "x y",
		// Bound twice, one inside the other.
		"(for x<-@d (for x<-@d [x]))": "", "(for x<-@d (for x<-[x] [x]))": "", "(\\x:I.(\\x:I.x))": "", "(\\x:I.((\\x:I.x) x))": "", "(\\x:I.(x (\\x:I.x)))": "", "(\\x:I.{a=(\\x:I.x),b=x,c=y})": "y", "((\\x:I.{a=(\\x:I.x),b=x}) x)": "x", "(for x<-@d (for y<-x (for x<-y [(x+y)])))": "",
		"(for x<-x (for x<-x [x]))": "x", "(for x<-@d (for y<-@d [{a=x,b=y,c=z}]))": "z", "((for x<-@d (for y<-@d [(x+y)]))++[(x+y)])": "x y", "((for x<-@d (for y<-x [z]))++[(y+x)])": "z y x",
		// Fields, tables, labels and operations are no variables.
		"{x=1}.x": "", "{x=y}.x": "y", "(for x<-@x [x.x])": "", "@x": "", "(\\x:I.{y=x})": "",
	} {
		checkFreeNames(t, readTerm(term), names)
	}
	for i, e := range termsOfEachKind() {
		checkFreeNames(t, e, []string{"y", "", "", "x", "x", "x", "", "x", "", "x", "x", "", "x", "x", "", ""}[i])
		for _, whole := range around(e) {
			checkFree(t, whole)
			checkFree(t, eLam("y", tInt, whole))
			checkFree(t, eUnion(eFor("y", eVar("y"), whole), whole))
		}
	}
}

func TestFreeVarsOfTermsThatAreNotValid(t *testing.T) {
	x, y, z := eVar("x"), eVar("y"), eVar("z")
	form := func(kind int, args ...impl.Term) impl.Term { return impl.Term{Kind: kind, Name: "x", Args: args} }
	for _, c := range []struct {
		e     impl.Term
		names string
	}{
		{impl.Term{}, ""}, {eNode(0, x, y), "x y"}, {eNode(17, y, x), "y x"}, {eNode(-1, eNode(99, x)), "x"}, {form(0, x), "x"}, {form(1<<32+10, x, x), "x"},
		{form(impl.TeFor), ""}, {form(impl.TeFor, x), "x"}, {form(impl.TeFor, y), "y"}, {form(impl.TeFor, y, x), "y"}, {form(impl.TeFor, y, x, z), "y z"}, {form(impl.TeFor, y, x, x), "y x"}, {form(impl.TeFor, y, x, z, x, x), "y z x"}, {form(impl.TeFor, x, x, x), "x"},
		{form(impl.TeLam), ""}, {form(impl.TeLam, x), ""}, {form(impl.TeLam, x, x), "x"}, {form(impl.TeLam, y, x), "y x"}, {form(impl.TeLam, x, y, x), "y x"}, {form(impl.TeLam, form(impl.TeLam, x, x), x), "x"}, {form(impl.TeLam, form(impl.TeFor, x, x, x)), ""}, {form(impl.TeFor, y, form(impl.TeLam, x, x), z), "y z"},
		{form(impl.TeVar, y), "x y"}, {form(impl.TeVar, x), "x"}, {form(impl.TeVar, y, form(impl.TeVar, z)), "x y z"}, {form(impl.TeTable, y), "y"}, {eNode(impl.TeInt, x), "x"}, {eNode(impl.TeBool, y, x), "y x"}, {eNode(impl.TeEmpty, x), "x"}, {eLam("x", tInt, form(impl.TeVar, y)), "y"},
		{eNode(impl.TeIf, y), "y"}, {eNode(impl.TeUnion), ""}, {eNode(impl.TeCount, y, x), "y x"}, {form(impl.TeProj), ""}, {form(impl.TeOne, x), "x"}, {form(impl.TeApp, x, x), "x"}, {eRec("x", y, x), "y x"}, {eOp("*", z, y, x), "z y x"}, {eOp("x"), ""},
		{withN(x, 7), "x"}, {withType(x, tInt), "x"}, {withLabels(x, "y"), "x"}, {withType(form(impl.TeFor, y, x), tInt), "y"}, {withN(form(impl.TeLam, x), 1), ""},
	} {
		checkFreeNames(t, c.e, c.names)
		for _, whole := range around(c.e) {
			checkFree(t, whole)
		}
	}
	for _, name := range append([]string{strings.Repeat("a", 1<<16)}, namesOfNone...) {
		e := eUnion(eVar(name), eUnion(y, eVar(name)))
		if got := impl.FreeVars(e); !slices.Equal(got, []string{name, "y"}) || impl.IsClosed(e) {
			t.Errorf("FreeVars = %.100q", got)
		}
		if got := impl.FreeVars(eFor(name, x, e)); !slices.Equal(got, []string{"x", "y"}) {
			t.Errorf("FreeVars = %.100q where %.20q is bound", got, name)
		}
		checkFreeNames(t, eLam(name, tInt, eVar(name)), "")
	}
	for _, e := range termsOfEachKind() {
		for _, v := range termVariants(e) {
			checkFree(t, v)
		}
		for kind := range 18 {
			e.Kind = kind
			checkFree(t, e)
		}
	}
}

func TestFreshVar(t *testing.T) {
	var ten []string
	for n := 1; n <= 10; n++ {
		ten = append(ten, impl.Join([]string{"v", impl.FormatInt(n)}, ""))
	}
	for _, c := range []struct{ list, want string }{
		{"", "v1"}, {"x", "v1"}, {"v1", "v2"}, {"v2", "v1"}, {"v1 v2", "v3"}, {"v2 v1", "v3"}, {"v1 v3", "v2"}, {"v3 v1", "v2"}, {"v2 v3", "v1"}, {"v1 v1", "v2"}, {"v1 v1 v2 v2 v1", "v3"}, {"v3 v2 v1", "v4"}, {"v1 v2 v4 v3 v6", "v5"},
		{"v01", "v1"}, {"v", "v1"}, {"v0", "v1"}, {"v01 v1", "v2"}, {"v1 v02 v002", "v2"}, {"V1", "v1"}, {"1", "v1"}, {"v-1", "v1"}, {"v+1", "v1"}, {"v1a", "v1"}, {"v10", "v1"}, {"v11", "v1"}, {"v1 v12", "v2"}, {"w1", "v1"}, {"vv1", "v1"}, {"v1.", "v1"}, {"v1 v20", "v2"},
		{"x v1 y v2 z", "v3"}, {strings.Join(ten, " "), "v11"}, {strings.Join(ten[:9], " "), "v10"}, {strings.Join(ten[1:], " "), "v1"}, {strings.Join(ten[:4], " ") + " " + strings.Join(ten[5:], " "), "v5"},
	} {
		list := strings.Fields(c.list)
		if got := impl.FreshVar(list); got != c.want || got != freshBySentences(list) {
			t.Errorf("FreshVar(%q) = %q, want %q", list, got, c.want)
		}
		slices.Reverse(list)
		if got := impl.FreshVar(list); got != c.want {
			t.Errorf("FreshVar(%q) = %q, want %q", list, got, c.want)
		}
	}
	for _, list := range [][]string{nil, {}, {""}, {" v1"}, {"v1 "}, {"v1 v2"}, {"v\xff1"}, {"v１"}, {"v1\x00"}, {"v1e0"}, {"v0x1"}} {
		if got := impl.FreshVar(list); got != "v1" {
			t.Errorf("FreshVar(%q) = %q", list, got)
		}
	}
	for _, list := range listsOver([]string{"v1", "v2", "v3", "v4", "v01"}, 5) {
		if got := impl.FreshVar(list); got != freshBySentences(list) {
			t.Errorf("FreshVar(%q) = %q", list, got)
		}
	}
	// The new name need not be a name.
	var many []string
	for n := 200000; n > 0; n-- {
		if got := len(many); got == 199000 {
			if got := impl.FreshVar(many); got != "v1" {
				t.Errorf("FreshVar = %q", got)
			}
		}
		many = append(many, "v"+impl.FormatInt(n))
	}
	if got := impl.FreshVar(many); got != "v200001" {
		t.Errorf("FreshVar = %q", got)
	}
	if got := impl.FreshVar(many[:len(many)-1]); got != "v1" {
		t.Errorf("FreshVar = %q", got)
	}
}

func TestSubstTermOfVariables(t *testing.T) {
	for _, c := range [][4]string{
		{"x", "x", "1", "1"}, {"x", "x", "y", "y"}, {"x", "x", "x", "x"}, {"x", "x", "(x+1)", "(x+1)"}, {"x", "x", "(for y<-@d [y])", "(for y<-@d [y])"}, {"x", "x", "(for x<-x [x])", "(for x<-x [x])"},
		{"x", "y", "1", "x"}, {"y", "x", "1", "y"}, {"@x", "x", "1", "@x"}, {"1", "x", "y", "1"}, {"[:I]", "x", "y", "[:I]"}, {"{x=1}.x", "x", "y", "{x=1}.x"}, {"{x=x}.x", "x", "y", "{x=y}.x"},
		{"(x+x)", "x", "y", "(y+y)"}, {"(x+y)", "x", "y", "(y+y)"}, {"(x+y)", "y", "(x+y)", "(x+(x+y))"}, {"((x+y)+(y+x))", "x", "(y-x)", "(((y-x)+y)+(y+(y-x)))"}, {"{a=x,b=[x],c=(count x)}", "x", "@d", "{a=@d,b=[@d],c=(count @d)}"},
		{"(if x x x)", "x", "#t", "(if #t #t #t)"}, {"(f x)", "f", "(\\x:I.x)", "((\\x:I.x) x)"}, {"(f x)", "x", "f", "(f f)"}, {"(empty x)", "x", "[:I]", "(empty [:I])"}, {"(!x)", "x", "#f", "(!#f)"}, {"x.a", "x", "{a=1}", "{a=1}.a"}, {"(x++y)", "y", "x", "(x++x)"},
	} {
		checkSubstText(t, c[0], c[1], c[2], c[3])
	}
}

func TestSubstTermOfNamesThatAreBound(t *testing.T) {
	for _, c := range [][4]string{
		// What a form binds is not changed, but Args[0] of "for" stands outside.
		{"(for x<-@d [x])", "x", "1", "(for x<-@d [x])"}, {"(\\x:I.x)", "x", "1", "(\\x:I.x)"}, {"(for x<-x [x])", "x", "@d", "(for x<-@d [x])"}, {"(for x<-[(x+y)] [(x+y)])", "x", "y", "(for x<-[(y+y)] [(x+y)])"}, {"(for x<-[(x+y)] [(x+y)])", "x", "x", "(for x<-[(x+y)] [(x+y)])"},
		{"((\\x:I.x) x)", "x", "1", "((\\x:I.x) 1)"}, {"(x (\\x:I.x))", "x", "f", "(f (\\x:I.x))"}, {"{a=x,b=(\\x:I.x),c=x}", "x", "y", "{a=y,b=(\\x:I.x),c=y}"}, {"(\\y:I.(\\x:I.(x+y)))", "x", "1", "(\\y:I.(\\x:I.(x+y)))"},
		{"(for x<-x (for x<-x [x]))", "x", "@d", "(for x<-@d (for x<-x [x]))"}, {"(for y<-x (for x<-x [x]))", "x", "@d", "(for y<-@d (for x<-@d [x]))"}, {"(for y<-x (for x<-x [x]))", "x", "y", "(for v1<-y (for x<-y [x]))"},
		// No name is captured.
		{"(for x<-@d [(x+y)])", "y", "1", "(for x<-@d [(x+1)])"}, {"(for x<-@d [(x+y)])", "y", "z", "(for x<-@d [(x+z)])"}, {"(\\x:I.(x+y))", "y", "(z+1)", "(\\x:I.(x+(z+1)))"}, {"(for x<-y [(x+y)])", "y", "(for x<-@d [x])", "(for x<-(for x<-@d [x]) [(x+(for x<-@d [x]))])"}, {"(\\x:I.y)", "y", "(\\x:I.x)", "(\\x:I.(\\x:I.x))"},
		// The bound name is free in the term, but the other name does not occur free in the part.
		{"(for x<-y [x])", "y", "x", "(for x<-x [x])"}, {"(\\x:I.x)", "y", "x", "(\\x:I.x)"}, {"(for x<-y (for y<-@d [(x+y)]))", "y", "x", "(for x<-x (for y<-@d [(x+y)]))"}, {"(\\x:I.(\\y:I.(x+y)))", "y", "(x+y)", "(\\x:I.(\\y:I.(x+y)))"}, {"(for x<-@d [@y])", "y", "x", "(for x<-@d [@y])"}, {"((\\x:I.x) y)", "y", "x", "((\\x:I.x) x)"},
	} {
		checkSubstText(t, c[0], c[1], c[2], c[3])
	}
}

func TestSubstTermRenames(t *testing.T) {
	for _, c := range [][4]string{
		{"(for x<-y [(x+y)])", "y", "x", "(for v1<-x [(v1+x)])"}, {"(\\x:I.(x+y))", "y", "x", "(\\v1:I.(v1+x))"}, {"(\\x:I.y)", "y", "x", "(\\v1:I.x)"}, {"(for x<-@d [y])", "y", "x", "(for v1<-@d [x])"}, {"(for x<-[x] [(x+y)])", "y", "x", "(for v1<-[x] [(v1+x)])"}, {"(for x<-[(x+y)] [(x+y)])", "y", "x", "(for v1<-[(x+x)] [(v1+x)])"},
		{"{a=(\\x:I.y),b=(\\x:I.x),c=(\\y:I.y),d=(\\z:I.y)}", "y", "x", "{a=(\\v1:I.x),b=(\\x:I.x),c=(\\y:I.y),d=(\\z:I.x)}"}, {"(\\x:I.(y+x))", "y", "(1+x)", "(\\v1:I.((1+x)+v1))"}, {"(\\x:I.(y+x))", "y", "(for z<-@d [x])", "(\\v1:I.((for z<-@d [x])+v1))"},
		// The name itself is free in the term that is put in.
		{"(\\x:I.(x+y))", "y", "(x+y)", "(\\v1:I.(v1+(x+y)))"}, {"(\\x:I.(x+y))", "y", "y", "(\\x:I.(x+y))"}, {"(for y<-y [(x+y)])", "x", "(x+y)", "(for v1<-y [((x+y)+v1)])"},
		// The first new names are taken by the free variables of the term,
		{"(\\x:I.(x+y))", "y", "(x+v1)", "(\\v2:I.(v2+(x+v1)))"}, {"(\\x:I.(x+y))", "y", "((v2+x)+v1)", "(\\v3:I.(v3+((v2+x)+v1)))"}, {"(\\x:I.(x+y))", "y", "(x+v2)", "(\\v1:I.(v1+(x+v2)))"}, {"(\\x:I.y)", "y", "(x+(for v1<-@d [v1]))", "(\\v1:I.(x+(for v1<-@d [v1])))"}, {"(\\v1:I.(v1+y))", "y", "v1", "(\\v2:I.(v2+v1))"},
		// of the part,
		{"(\\x:I.((x+y)+v1))", "y", "x", "(\\v2:I.((v2+x)+v1))"}, {"(\\x:I.((v2+y)+v1))", "y", "x", "(\\v3:I.((v2+x)+v1))"}, {"(\\x:I.((v2+y)+x))", "y", "x", "(\\v1:I.((v2+x)+v1))"}, {"(for x<-v1 [(x+y)])", "y", "x", "(for v1<-v1 [(v1+x)])"}, {"(\\x:I.(y+(\\v1:I.v1)))", "y", "x", "(\\v1:I.(x+(\\v1:I.v1)))"}, {"(\\x:I.((v2+y)+v3))", "y", "(x+v1)", "(\\v4:I.((v2+(x+v1))+v3))"},
		// or by the name itself.
		{"(\\x:I.(x+v1))", "v1", "x", "(\\v2:I.(v2+x))"}, {"(\\x:I.(v1+v3))", "v1", "(x+v2)", "(\\v4:I.((x+v2)+v3))"}, {"(\\v2:I.(v2+v1))", "v1", "v2", "(\\v3:I.(v3+v2))"},
		// Two such forms, one inside the other.
		{"(\\x:I.(\\z:I.((x+z)+y)))", "y", "(x+z)", "(\\v1:I.(\\v2:I.((v1+v2)+(x+z))))"}, {"(\\x:I.(\\x:I.(x+y)))", "y", "x", "(\\v1:I.(\\v1:I.(v1+x)))"}, {"(\\x:I.((\\x:I.(x+y)) x))", "y", "x", "(\\v1:I.((\\v1:I.(v1+x)) v1))"}, {"(for x<-y (for x<-[(x+y)] [(x+y)]))", "y", "x", "(for v1<-x (for v1<-[(v1+x)] [(v1+x)]))"}, {"(\\x:I.(\\z:I.y))", "y", "(x+z)", "(\\v1:I.(\\v1:I.(x+z)))"}, {"(\\x:I.(\\y:I.(x+y)))", "z", "(x+y)", "(\\x:I.(\\y:I.(x+y)))"},
		// A form further inside binds the new name.
		{"(\\x:I.(\\v1:I.((x+v1)+y)))", "y", "x", "(\\v1:I.(\\v2:I.((v1+v2)+x)))"}, {"(\\x:I.(\\v1:I.(v1+y)))", "y", "x", "(\\v1:I.(\\v1:I.(v1+x)))"}, {"(\\x:I.(for v1<-[x] [(x+y)]))", "y", "x", "(\\v1:I.(for v2<-[v1] [(v1+x)]))"}, {"(\\x:I.(\\v1:I.(\\v2:I.((x+v1)+(v2+y)))))", "y", "x", "(\\v1:I.(\\v2:I.(\\v3:I.((v1+v2)+(v3+x)))))"},
		// It is renamed once for the new name, and once more for the term.
		{"(\\x:I.(\\v1:I.((x+v1)+y)))", "y", "(x+v2)", "(\\v1:I.(\\v3:I.((v1+v3)+(x+v2))))"}, {"(\\x:I.(\\v1:I.(\\v2:I.((x+v1)+(v2+y)))))", "y", "(x+(v2+v3))", "(\\v1:I.(\\v4:I.(\\v5:I.((v1+v4)+(v5+(x+(v2+v3)))))))"}, {"(\\x:I.(\\v2:I.(x+y)))", "y", "(x+v2)", "(\\v1:I.(\\v3:I.(v1+(x+v2))))"},
	} {
		checkSubstText(t, c[0], c[1], c[2], c[3])
	}
}

func TestSubstTermOfTermsThatAreNotValid(t *testing.T) {
	x, y := eVar("x"), eVar("y")
	form := func(kind int, name string, args ...impl.Term) impl.Term {
		return impl.Term{Kind: kind, Name: name, Args: args}
	}
	v1, both := eVar("v1"), eUnion(x, y)
	for i, c := range []struct{ e, by, want impl.Term }{
		{impl.Term{}, x, impl.Term{}}, {eNode(17, y, d0), x, eNode(17, x, d0)}, {y, impl.Term{}, impl.Term{}}, {eOne(y), eNode(99, x), eOne(eNode(99, x))}, {withN(y, 5), x, x}, {withType(withLabels(y, "a"), tInt), x, x},
		// The variable is replaced with what stands in its Args.
		{form(impl.TeVar, "y", y), x, x}, {form(impl.TeVar, "y", x), both, both}, {form(impl.TeVar, "x", y), eInt(1), form(impl.TeVar, "x", eInt(1))}, {eNode(impl.TeInt, y), x, eNode(impl.TeInt, x)}, {form(impl.TeTable, "y", y), x, form(impl.TeTable, "y", x)},
		{form(impl.TeFor, "x"), x, form(impl.TeFor, "x")}, {form(impl.TeFor, "x", y), x, form(impl.TeFor, "x", x)}, {form(impl.TeFor, "y", y), x, form(impl.TeFor, "y", x)}, {form(impl.TeFor, "y", y, y, y, y), x, form(impl.TeFor, "y", x, y, x, x)}, {form(impl.TeFor, "x", both, both, both), x, form(impl.TeFor, "v1", eUnion(x, x), eUnion(v1, x), eUnion(x, x))}, {form(impl.TeFor, "x", y, d0, y), x, form(impl.TeFor, "x", x, d0, x)},
		{form(impl.TeLam, "x"), x, form(impl.TeLam, "x")}, {form(impl.TeLam, "y"), x, form(impl.TeLam, "y")}, {form(impl.TeLam, "y", y, y), x, form(impl.TeLam, "y", y, x)}, {form(impl.TeLam, "x", both, both, y), x, form(impl.TeLam, "v1", eUnion(v1, x), eUnion(x, x), x)}, {form(impl.TeLam, "x", d0, both), x, form(impl.TeLam, "x", d0, eUnion(x, x))},
		{form(0, "y", y), x, form(0, "y", x)}, {form(1<<32+10, "y", y, y), x, form(1<<32+10, "y", x, x)}, {eNode(impl.TeIf, y), x, eNode(impl.TeIf, x)}, {eRec("a", y, y), x, eRec("a", x, x)}, {eOp("y", y), x, eOp("y", x)}, {form(impl.TeUnion, "y", y), x, form(impl.TeUnion, "y", x)},
	} {
		if got := checkSubst(t, c.e, "y", c.by); !sameTerm(got, c.want) {
			t.Errorf("%d: SubstTerm(%v, y, %v) = %v, want %v", i, c.e, c.by, got, c.want)
		}
	}
	for _, name := range append([]string{strings.Repeat("a", 1<<16)}, namesOfNone...) {
		e := eUnion(eVar(name), eLam("x", tInt, eUnion(eVar(name), x)))
		if got := checkSubst(t, e, name, x); !sameTerm(got, eUnion(x, eLam("v1", tInt, eUnion(x, v1)))) {
			t.Errorf("with x for %.20q: %v", name, got)
		}
		if got := checkSubst(t, eFor(name, y, both), "y", eVar(name)); !sameTerm(got, eFor("v1", eVar(name), eUnion(x, eVar(name)))) {
			t.Errorf("with %.20q for y: %v", name, got)
		}
		checkSubst(t, eFor(name, eVar(name), eVar(name)), name, y)
		// Names of tables, fields and operations are not those of variables.
		for _, e := range []impl.Term{withName(d0, name), eProj(y, name), eOp(name, y), eNode(0)} {
			if got := checkSubst(t, e, name, x); name != "y" && !sameTerm(got, e) {
				t.Errorf("with x for %.20q: %v", name, got)
			}
		}
	}
	for _, e := range termsOfEachKind() {
		for _, v := range termVariants(e) {
			checkSubst(t, v, "x", eUnion(x, y))
			checkSubst(t, v, "y", eUnion(eVar("z"), x))
		}
		for kind := range 18 {
			e.Kind = kind
			checkSubst(t, e, "x", y)
			checkSubst(t, eUnion(e, eLam("z", tInt, e)), "x", eUnion(y, eVar("z")))
		}
	}
}

func TestResultsOfSubstTermNeedNotBeValid(t *testing.T) {
	// Of too many nodes, or too deep.
	large, deep := inRow(40), nestedTerm(10, x0, eOne)
	for _, c := range []struct{ e, by impl.Term }{{eUnion(x0, x0), large}, {deep, deep}, {deep, nestedTerm(6, d0, eOne)}, {inRow(59), large}, {eUnion(inRow(58), x0), eOne(d0)}} {
		if !impl.IsValidTerm(c.e) || !impl.IsValidTerm(c.by) {
			t.Fatal("not valid:", c)
		}
		got := checkSubst(t, c.e, "x", c.by)
		if want := len(impl.FreeVars(c.e)) == 0; impl.IsValidTerm(got) != want {
			t.Errorf("%v is valid: %v", got, !want)
		}
	}
	if got := impl.SubstTerm(eUnion(x0, x0), "x", large); nodesOfTerm(got) != 81 {
		t.Error("size", nodesOfTerm(got))
	}
	if got := impl.SubstTerm(deep, "x", deep); depthOfTerm(got) != 21 {
		t.Error("depth", depthOfTerm(got))
	}
	// A new name that is too long.
	var names []impl.Term
	for n := 1; n <= 1000; n++ {
		names = append(names, eVar("v"+impl.FormatInt(n)))
	}
	got := checkSubst(t, eLam("v7", tInt, eOne(x0)), "x", eNode(impl.TeRec, names...))
	if got.Name != "v1001" || impl.IsValidTerm(got) {
		t.Error("the new name is", got.Name)
	}
}

// scopeHeads are nodes with few names, of which some are new ones.
func scopeHeads() []impl.Term {
	return []impl.Term{eVar("x"), eVar("y"), eVar("v1"), d0, eNode(impl.TeOne), eNode(impl.TeUnion), {Kind: impl.TeFor, Name: "x"}, {Kind: impl.TeFor, Name: "v1"}, {Kind: impl.TeLam, Name: "x", Type: tInt}, {Kind: impl.TeLam, Name: "y", Type: tInt}, {Kind: impl.TeLam, Name: "v1", Type: tInt}}
}

// validOver returns the terms of at most max nodes of which each node is one of heads and has the right Args.
func validOver(heads []impl.Term, max int) []impl.Term {
	return treesOver(max, func(args []impl.Term) []impl.Term {
		var terms []impl.Term
		for _, e := range heads {
			if e.Args = args; termNodeIsValid(e) {
				terms = append(terms, e)
			}
		}
		return terms
	})
}

func TestScopesOfAllSmallTerms(t *testing.T) {
	x, y, v1 := eVar("x"), eVar("y"), eVar("v1")
	terms := validOver(scopeHeads(), 5)
	renamed := 0
	for i, e := range terms {
		if nodesOfTerm(e) == 5 && i%3 != 0 {
			continue
		}
		checkFree(t, e)
		for _, name := range []string{"x", "y", "v1"} {
			for _, by := range []impl.Term{d0, x, y, v1, eUnion(x, v1), eFor("y", y, eUnion(x, y))} {
				if !alphaBySentences(checkSubst(t, e, name, by), e) && len(freeBySentences(by)) > 0 {
					renamed++
				}
			}
		}
		if t.Failed() {
			return
		}
	}
	if renamed < 1000 {
		t.Error("few replacements:", renamed)
	}
}

func TestScopesOfSmallTermsOfAnyArgs(t *testing.T) {
	heads := []impl.Term{eVar("x"), eVar("y"), eNode(0), {Kind: impl.TeFor, Name: "x"}, {Kind: impl.TeFor, Name: "y"}, {Kind: impl.TeLam, Name: "x"}, {Kind: impl.TeLam, Name: "v1"}}
	for i, e := range termsOver(heads, 5) {
		if nodesOfTerm(e) == 5 && i%11 != 0 {
			continue
		}
		checkFree(t, e)
		got := impl.SubstTerm(e, "y", eUnion(eVar("x"), eVar("y")))
		if want := substBySentences(e, "y", eUnion(eVar("x"), eVar("y"))); !sameTerm(got, want) {
			t.Fatalf("SubstTerm(%v) = %v, want %v", e, got, want)
		}
		got = impl.SubstTerm(e, "x", eVar("v1"))
		if want := substBySentences(e, "x", eVar("v1")); !sameTerm(got, want) {
			t.Fatalf("SubstTerm(%v) = %v, want %v", e, got, want)
		}
	}
}

func TestAllSmallTermsUpToBoundNames(t *testing.T) {
	all := append(validOver(scopeHeads(), 4), termsOver([]impl.Term{eVar("x"), eVar("y"), {Kind: impl.TeFor, Name: "x"}, {Kind: impl.TeFor, Name: "y"}, {Kind: impl.TeLam, Name: "x"}}, 3)...)
	// Terms of one form are compared with one another, and each with some of all.
	forms := map[string][]impl.Term{}
	for _, e := range all {
		checkAlpha(t, e, e)
		key := fmt.Sprint(nameless(e))
		forms[key] = append(forms[key], e)
	}
	several := 0
	for _, list := range forms {
		if len(list) > 1 {
			several++
		}
		for _, a := range list {
			for _, b := range list {
				if !impl.AlphaEqual(a, b) {
					t.Fatalf("AlphaEqual(%v, %v) = false", a, b)
				}
			}
		}
	}
	if several < 20 {
		t.Error("few forms:", several)
	}
	for i := 0; i < len(all); i += 7 {
		for j := 0; j < len(all); j += 5 {
			checkAlpha(t, all[i], all[j])
		}
		if t.Failed() {
			return
		}
	}
}

func TestAlphaEqual(t *testing.T) {
	checkAlphaTexts(t,
		"x = x", "1 = 1", "#t = #t", "@d = @d", "[:I] = [:I]", "(x+y) = (x+y)", "{a=1,b=x}.b = {a=1,b=x}.b", "(for x<-@d [x]) = (for x<-@d [x])",
		// Bound names alone.
		"(for x<-@d [x]) = (for y<-@d [y])", "(\\x:I.x) = (\\y:I.y)", "(for x<-@d [1]) = (for y<-@d [1])", "(\\x:I.z) = (\\y:I.z)", "(for x<-[x] [x]) = (for y<-[x] [y])", "(for x<-z [(x+z)]) = (for y<-z [(y+z)])", "(\\x:I.(x+x)) = (\\y:I.(y+y))", "((\\x:I.x) x) = ((\\y:I.y) x)", "((\\x:I.x)++(\\x:I.x)) = ((\\x:I.x)++(\\y:I.y))",
		"(\\x:I.(\\y:I.(x+y))) = (\\y:I.(\\x:I.(y+x)))", "(\\x:I.(\\y:I.(x+y))) = (\\a:I.(\\b:I.(a+b)))", "(for x<-@d (for y<-x [(x+y)])) = (for y<-@d (for x<-y [(y+x)]))",
		// Free names.
		"x ~ y", "(x+y) ~ (y+x)", "(for x<-y [x]) ~ (for x<-z [x])", "(\\x:I.y) ~ (\\x:I.z)", "(for x<-@d [y]) ~ (for y<-@d [y])", "(for x<-@d [y]) ~ (for y<-@d [x])", "(for x<-[x] [x]) ~ (for y<-[y] [y])", "[x] ~ [y]", "(x+x) ~ (x+y)",
		// A free and a bound one.
		"(\\x:I.x) ~ (\\x:I.y)", "(\\x:I.x) ~ (\\y:I.x)", "(\\x:I.y) ~ (\\y:I.y)", "(\\x:I.{a=x,b=x}) ~ (\\y:I.{a=y,b=x})", "(\\x:I.{a=x,b=y}) ~ (\\y:I.{a=y,b=y})", "((\\x:I.x) x) ~ ((\\y:I.y) y)", "(for x<-@d [x]) ~ (for y<-@d [x])", "((\\x:I.x)++x) ~ ((\\y:I.y)++y)", "(x++(\\x:I.x)) = (x++(\\y:I.y))", "(\\x:I.(\\y:I.z)) ~ (\\x:I.(\\z:I.z))",
		// Bound names are exchanged.
		"(\\x:I.(\\y:I.x)) ~ (\\x:I.(\\y:I.y))", "(\\x:I.(\\y:I.(x+y))) ~ (\\x:I.(\\y:I.(y+x)))", "(\\x:I.(\\y:I.(x+y))) ~ (\\y:I.(\\x:I.(x+y)))", "(\\x:I.(\\y:I.x)) = (\\y:I.(\\x:I.y))", "(\\x:I.(\\y:I.x)) ~ (\\y:I.(\\x:I.x))", "(for x<-@d (for y<-x [y])) ~ (for x<-@d (for y<-y [y]))", "(\\x:I.(\\y:I.(\\z:I.{a=x,b=y,c=z}))) = (\\z:I.(\\x:I.(\\y:I.{a=z,b=x,c=y})))", "(\\x:I.(\\y:I.(\\z:I.{a=x,b=y,c=z}))) ~ (\\z:I.(\\x:I.(\\y:I.{a=x,b=y,c=z})))",
		// Forms inside one another that bind the same name.
		"(\\x:I.(\\x:I.x)) = (\\x:I.(\\y:I.y))", "(\\x:I.(\\x:I.x)) = (\\y:I.(\\x:I.x))", "(\\x:I.(\\x:I.x)) ~ (\\x:I.(\\y:I.x))", "(\\x:I.(\\x:I.x)) = (\\y:I.(\\z:I.z))", "(\\x:I.((\\x:I.x) x)) = (\\x:I.((\\y:I.y) x))", "(\\x:I.((\\x:I.x) x)) = (\\y:I.((\\x:I.x) y))", "(\\x:I.((\\x:I.x) x)) ~ (\\x:I.((\\y:I.x) x))", "(\\x:I.((\\x:I.x) x)) ~ (\\x:I.((\\y:I.y) y))", "(\\x:I.(x (\\x:I.x))) = (\\y:I.(y (\\y:I.y)))",
		"(for x<-@d (for x<-x [x])) = (for x<-@d (for y<-x [y]))", "(for x<-@d (for x<-x [x])) = (for y<-@d (for x<-y [x]))", "(for x<-@d (for x<-x [x])) ~ (for y<-@d (for x<-x [x]))", "(for x<-x (for x<-x [x])) = (for y<-x (for z<-y [z]))", "(\\x:I.(\\y:I.(\\x:I.{a=x,b=y}))) = (\\a:I.(\\b:I.(\\c:I.{a=c,b=b})))", "(\\x:I.(\\y:I.(\\x:I.{a=x,b=y}))) ~ (\\a:I.(\\b:I.(\\c:I.{a=a,b=b})))", "(\\x:I.{a=(\\x:I.x),b=x}) = (\\y:I.{a=(\\y:I.y),b=y})", "(\\x:I.{a=(\\y:I.y),b=x}) ~ (\\y:I.{a=(\\y:I.y),b=x})",
		// Other fields.
		"1 ~ 2", "#t ~ #f", "0 ~ #f", "@d ~ @e", "x ~ @x", "{a=1}.a ~ {a=1}.b", "x.a ~ x.b", "{a=x} ~ {b=x}", "{a=x,b=y} ~ {a=y,b=x}", "(1+2) ~ (1-2)", "(1+2) ~ (2+1)", "[:I] ~ [:B]", "(\\x:I.x) ~ (\\x:B.x)", "(\\x:I.x) ~ (\\y:B.y)", "(\\x:{a:I}.x) ~ (\\x:{b:I}.x)", "(for x<-@d [x]) ~ (for x<-@e [x])", "(\\x:I.x.a) ~ (\\y:I.y.b)", "(\\x:I.x.x) = (\\y:I.y.x)", "(\\x:I.x.x) ~ (\\y:I.y.y)", "(\\x:I.{x=x}) = (\\y:I.{x=y})", "(\\x:I.{x=x}) ~ (\\y:I.{y=y})", "(\\d:I.@d) ~ (\\e:I.@e)", "(\\d:I.@d) = (\\e:I.@d)",
		"(\\x:I.1) ~ (\\x:I.2)", "(empty @d) ~ (count @d)", "(x++y) ~ (x y)", "[x] ~ x", "[[x]] ~ [x]", "(if #t x y) ~ (if #t y x)", "(x++(y++z)) ~ ((x++y)++z)", "(f x) ~ (x f)", "(for x<-@d [x]) ~ @d",
	)
}

func TestAlphaEqualOfTermsThatAreNotValid(t *testing.T) {
	x, y := eVar("x"), eVar("y")
	form := func(kind int, name string, args ...impl.Term) impl.Term {
		return impl.Term{Kind: kind, Name: name, Args: args}
	}
	for i, c := range []struct {
		a, b  impl.Term
		equal bool
	}{
		{impl.Term{}, impl.Term{}, true}, {impl.Term{}, x, false}, {eNode(17, x), eNode(17, x), true}, {eNode(17, x), eNode(17, y), false}, {eNode(17, x), eNode(18, x), false}, {form(17, "x", x), form(17, "y", y), false}, {form(17, "x", x), form(17, "y", x), false}, {form(1<<32+13, "x", x), form(1<<32+13, "y", y), false},
		{form(impl.TeLam, "x"), form(impl.TeLam, "y"), true}, {form(impl.TeLam, "x", x, x), form(impl.TeLam, "y", y, x), true}, {form(impl.TeLam, "x", x, x), form(impl.TeLam, "y", y, y), false}, {form(impl.TeLam, "x", x, x), form(impl.TeLam, "x", x), false}, {form(impl.TeLam, "x", x, y), form(impl.TeLam, "y", y, y), true},
		{form(impl.TeFor, "x"), form(impl.TeFor, "y"), true}, {form(impl.TeFor, "x", x), form(impl.TeFor, "y", x), true}, {form(impl.TeFor, "x", x), form(impl.TeFor, "y", y), false}, {form(impl.TeFor, "x", d0, x, x), form(impl.TeFor, "y", d0, y, x), true}, {form(impl.TeFor, "x", d0, x, x), form(impl.TeFor, "y", d0, y, y), false}, {form(impl.TeFor, "x", d0, x, d0, x), form(impl.TeFor, "y", d0, y, d0, x), true},
		{form(impl.TeVar, "x", x), form(impl.TeVar, "x", x), true}, {form(impl.TeVar, "x", x), form(impl.TeVar, "x", y), false}, {form(impl.TeVar, "x"), form(impl.TeVar, "x", x), false}, {form(impl.TeLam, "x", form(impl.TeVar, "x", x)), form(impl.TeLam, "y", form(impl.TeVar, "y", y)), true}, {form(impl.TeLam, "x", form(impl.TeVar, "x", x)), form(impl.TeLam, "y", form(impl.TeVar, "y", x)), false},
		{withN(x, 1), x, false}, {withType(x, tInt), x, false}, {withLabels(x, "a"), x, false}, {eLam("x", tInt, withN(x, 1)), eLam("y", tInt, withN(y, 1)), true}, {eLam("x", tInt, withN(x, 1)), eLam("y", tInt, y), false}, {eLam("x", tInt, withType(x, tInt)), eLam("y", tInt, y), false}, {eLam("x", tInt, withLabels(x, "a")), eLam("y", tInt, y), false},
		{withN(eLam("x", tInt, x), 2), eLam("y", tInt, y), false}, {withLabels(eFor("x", d0, x), "a"), eFor("y", d0, y), false}, {withType(eFor("x", d0, x), tInt), withType(eFor("y", d0, y), tInt), true}, {withType(eFor("x", d0, x), tInt), eFor("y", d0, y), false}, {form(impl.TeUnion, "x"), form(impl.TeUnion, "y"), false}, {eOp("x"), eOp("y"), false},
	} {
		if got := checkAlpha(t, c.a, c.b); got != c.equal {
			t.Errorf("the sentences say %v of pair %d", got, i)
		}
		for j, whole := range around(c.a) {
			checkAlpha(t, whole, around(c.b)[j])
		}
	}
	for _, name := range namesOfNone {
		if !impl.AlphaEqual(eLam(name, tInt, eVar(name)), eLam("x", tInt, x)) || impl.AlphaEqual(eVar(name), x) || !impl.AlphaEqual(eVar(name), eVar(name)) || impl.AlphaEqual(eLam(name, tInt, x), eLam("x", tInt, x)) {
			t.Errorf("the name %q", name)
		}
	}
	for _, e := range append(termsOfEachKind(), eLam("x", funOf(tInt, bagOf(tBool)), eFor("y", eOne(x), eRec("a b", x, eVar("y"))))) {
		checkAlpha(t, e, termWithSpare(e))
		for _, v := range termVariants(e) {
			checkAlpha(t, e, v)
			checkAlpha(t, eLam("x", tInt, e), eLam("y", tInt, v))
		}
	}
}

func TestTermsWithOtherBoundNamesAreEqual(t *testing.T) {
	for _, text := range []string{"(for x<-@d (for y<-[(x+z)] [{a=x,b=y,c=z}]))", "(\\x:I.(\\y:I.((x+y)+z)))", "((\\x:I.(for x<-[x] [x])) x)", "(for z<-z (for x<-@d (\\z:I.[{a=x,b=z}])))"} {
		e := readTerm(text)
		var rename func(e impl.Term, n int) impl.Term
		rename = func(e impl.Term, n int) impl.Term {
			out := e
			out.Args = slices.Clone(e.Args)
			for i := range out.Args {
				if bindsIn(e, i) {
					out.Name = fmt.Sprint("n", n)
					out.Args[i] = substBySentences(out.Args[i], e.Name, eVar(out.Name))
				}
				out.Args[i] = rename(out.Args[i], n+1)
			}
			return out
		}
		other := rename(e, 1)
		if sameTerm(e, other) || !checkAlpha(t, e, other) {
			t.Errorf("%s and %s", text, impl.FormatTerm(other))
		}
		for i, v := range termVariants(other) {
			if got := checkAlpha(t, e, v); got && sameTerm(v, other) {
				t.Errorf("%s and variant %d", text, i)
			}
		}
	}
}

func TestIsClosed(t *testing.T) {
	for _, term := range []string{"1", "#f", "@d", "[:I]", "(\\x:I.x)", "(for x<-@d [x])", "(\\x:I.(\\y:I.(x+y)))", "((\\x:I.x) (\\x:I.x))", "(for x<-(for x<-@d [x]) [x])", "{x=1}.x", "(\\x:I.(x (\\x:I.x)))", "(for x<-@d (for y<-[x] (for x<-[y] [(x+y)])))"} {
		if e := readTerm(term); !impl.IsClosed(e) {
			t.Errorf("%s is not closed", term)
		}
	}
	for _, term := range []string{"x", "[x]", "(1+x)", "(for x<-x [x])", "(for x<-@d [y])", "(\\x:I.y)", "((\\x:I.x) x)", "(x (\\x:I.x))", "(for y<-(for x<-@d [x]) [x])", "x.x", "(\\x:I.(\\y:I.{a=x,b=y,c=z}))", "((for x<-@d [x])++[x])"} {
		if e := readTerm(term); impl.IsClosed(e) {
			t.Errorf("%s is closed", term)
		}
	}
	if !impl.IsClosed(impl.Term{}) || !impl.IsClosed(eNode(impl.TeFor)) || impl.IsClosed(eVar("")) {
		t.Error("terms that are not valid")
	}
}

// The promise: a term that replaces a variable of its type keeps the type.

func TestSubstTermKeepsTypes(t *testing.T) {
	closed := map[string][]string{
		"I": {"1", "(1+2)", "(count @d)", "((\\x:I.x) 1)", "(if #t 1 2)"}, "B": {"#t", "(1<2)", "(empty @d)"}, "[I]": {"[1]", "[:I]", "(for y<-@d [y.k])"}, "(I>I)": {"(\\x:I.x)", "(\\y:I.(y+1))", "(\\z:I.(count @e))"}, "{a:I,b:[B]}": {"{a=1,b=[:B]}", "{a=2,b=(for x<-[1] [(x=1)])}"},
	}
	terms := slices.Concat(typedLines, []string{"y", "(x+y)", "[x]", "(for x<-[x] [x])", "(for y<-@d [x])", "(\\y:I.x)", "(\\x:B.x)", "(x 1)", "(for y<-x [(y+1)])", "x.a", "x.b", "{a=x,b=x}", "((\\y:I.(x+y)) x)", "(if x x #f)", "(count x)", "(for z<-@d (for y<-x [{a=y,b=x}]))", "((\\z:I.(x z)) 1)", "q"})
	kept := 0
	for text, list := range closed {
		x := readType(text)
		for _, ctx := range [][]impl.Typing{{typing("x", x)}, append(ofLines(), typing("x", x), typing("y", x)), append(typings("x:B r:I"), append(ofLines(), typing("x", x))...)} {
			for _, term := range terms {
				e := readTerm(term)
				for _, by := range list {
					value := readTerm(by)
					if !impl.IsClosed(value) {
						t.Fatal("not closed:", by)
					}
					// All that binds the name leaves the context, but what binds others stays.
					without := slices.DeleteFunc(slices.Clone(ctx), func(typing impl.Typing) bool { return typing.Name == "x" })
					got := checkSubst(t, e, "x", value)
					before, ok := impl.TypeOf(three, ctx, e)
					after, still := impl.TypeOf(three, without, got)
					if ok != still && ok || !sameType(before, after) && ok {
						t.Errorf("%s : %s with %s for x is %s : %s", term, impl.FormatType(before), by, impl.FormatTerm(got), impl.FormatType(after))
					}
					if ok {
						kept++
					}
				}
			}
		}
	}
	if kept < 500 {
		t.Error("few terms have a type:", kept)
	}
}

func TestSubstTermByOpenTermsKeepsTypes(t *testing.T) {
	// The variables of the term that is put in have other types than those that the forms bind.
	ctx := typings("x:[I] y:I v1:B z:{a:I}")
	kept := 0
	for i, e := range validOver([]impl.Term{eVar("x"), eVar("y"), eVar("v1"), eInt(1), eOp("+"), eNode(impl.TeOne), eNode(impl.TeCount), eNode(impl.TeUnion), {Kind: impl.TeFor, Name: "x"}, {Kind: impl.TeLam, Name: "x", Type: tInt}, {Kind: impl.TeLam, Name: "v1", Type: tInt}, {Kind: impl.TeLam, Name: "z", Type: tInt}}, 5) {
		if nodesOfTerm(e) == 5 && i%5 != 0 {
			continue
		}
		before, ok := impl.TypeOf(three, ctx, e)
		if !ok {
			continue
		}
		for _, by := range []string{"(count x)", "(if v1 (count x) 1)", "(y+(count x))", "z.a", "(for x<-[z] [x]).a", "((\\x:I.(x+z.a)) y)"} {
			value, fits := impl.ParseTerm(by)
			if x, has := impl.TypeOf(three, ctx, value); !fits || !has || !sameType(x, tInt) {
				continue
			}
			got := impl.SubstTerm(e, "y", value)
			after, still := impl.TypeOf(three, ctx, got)
			if !still || !sameType(before, after) {
				t.Fatalf("%s : %s with %s for y is %s : %s", impl.FormatTerm(e), impl.FormatType(before), by, impl.FormatTerm(got), impl.FormatType(after))
			}
			kept++
		}
	}
	if kept < 500 {
		t.Error("few terms have a type:", kept)
	}
}

func TestNilAndEmptySlicesInScope(t *testing.T) {
	list := append(termsOfEachKind(), impl.Term{}, eNode(impl.TeFor), eNode(impl.TeLam), withType(x0, bagOf(tInt)), eLam("x", recOf("a", tInt), eFor("y", eEmpty(tInt), eRec("a b", x0, eVar("y")))))
	for _, e := range list {
		empty, none := emptiedTerm(e), nilledTerm(e)
		checkFree(t, empty)
		checkFree(t, none)
		if !impl.AlphaEqual(empty, none) || !impl.AlphaEqual(none, empty) || !impl.AlphaEqual(eLam("x", emptied(tInt), eUnion(empty, x0)), eLam("x", nilledType(tInt), eUnion(none, x0))) {
			t.Errorf("%v is not equal to itself with empty slices", e)
		}
		for _, by := range list {
			first, second := checkSubst(t, empty, "x", nilledTerm(by)), checkSubst(t, none, "x", emptiedTerm(by))
			if !sameTerm(first, second) {
				t.Errorf("%v and %v", first, second)
			}
		}
	}
	if impl.FreshVar(nil) != impl.FreshVar([]string{}) || len(impl.FreeVars(d0)) != 0 {
		t.Error("names")
	}
}

func TestArgumentsOfScopeAreKept(t *testing.T) {
	row := recOf("a b", tInt, bagOf(tBool))
	list := append(termsOfEachKind(), impl.Term{}, eNode(17, d0, x0), eUnion(x0, x0), eLam("z", row, eUnion(x0, eFor("y", x0, eRec("a b", x0, eVar("z"))))), eFor("v1", x0, eLam("y", row, eUnion(eVar("v1"), x0))))
	for _, e := range list {
		for _, by := range append(list, eRec("a b", eVar("z"), eVar("v1")), eUnion(eVar("y"), eVar("z"))) {
			arg, put := termWithSpare(e), termWithSpare(by)
			argBefore, putBefore := wholeTerm(arg), wholeTerm(put)
			impl.IsClosed(arg)
			impl.AlphaEqual(arg, put)
			impl.AlphaEqual(arg, arg)
			names, others := impl.FreeVars(arg), impl.FreeVars(arg)
			for i := range names[:cap(names)] {
				names[:cap(names)][i] = "overwritten"
			}
			first, second := impl.SubstTerm(arg, "x", put), impl.SubstTerm(arg, "x", put)
			overwriteTerm(first)
			if !sameTerm(wholeTerm(arg), argBefore) || !sameTerm(wholeTerm(put), putBefore) {
				t.Errorf("the memory of %v and %v became %v and %v", e, by, wholeTerm(arg), wholeTerm(put))
			}
			overwriteTerm(arg)
			overwriteTerm(put)
			if want := substBySentences(e, "x", by); !sameTerm(second, want) {
				t.Errorf("SubstTerm(%v, x, %v) became %v", e, by, second)
			}
			if !slices.Equal(others, freeBySentences(e)) {
				t.Errorf("FreeVars(%v) became %q", e, others)
			}
		}
	}
	names, whole := argument("v1", "v3", "v2", "v1")
	before := slices.Clone(whole)
	if impl.FreshVar(names) != "v4" || !slices.Equal(whole, before) {
		t.Errorf("the memory of the names became %q", whole)
	}
}

func TestSlicesOfASubstTermAreApart(t *testing.T) {
	row := recOf("a b", tInt, bagOf(tBool))
	part := eRec("a b", eEmpty(row), eLam("y", row, x0))
	by := eLam("y", row, eRec("a b", eEmpty(row), eVar("z")))
	// One term stands in many places of the arguments.
	for _, e := range []impl.Term{eUnion(x0, x0), eUnion(part, part), eIf(part, part, eOne(x0)), eFor("z", part, eUnion(part, eRec("c d", x0, part))), eRec("a b c", by, part, by), eUnion(by, by)} {
		want := substBySentences(e, "x", by)
		checkTermApart(t, want, func() impl.Term { return impl.SubstTerm(e, "x", by) })
		checkTermApart(t, e, func() impl.Term { return impl.SubstTerm(e, "w", by) })
	}
}

// checkTermApart checks that no two slices of a result share memory: whatever becomes of one node, what follows it stays.
func checkTermApart(t *testing.T, want impl.Term, result func() impl.Term) {
	t.Helper()
	var places func(e impl.Term, path []int) [][]int
	places = func(e impl.Term, path []int) [][]int {
		list := [][]int{path}
		for i, a := range e.Args {
			list = append(list, places(a, append(slices.Clone(path), i))...)
		}
		return list
	}
	for _, path := range places(want, nil) {
		got := result()
		part, old := &got, &want
		for _, i := range path {
			part, old = &part.Args[i], &old.Args[i]
		}
		overwriteTerm(*part)
		*part = *old
		if !sameTerm(got, want) {
			t.Errorf("the term %v became %v when the part %v was overwritten", want, got, path)
		}
	}
	// The Labels, the Type and the Args of one node.
	for _, path := range places(want, nil) {
		for change := range 2 {
			got := result()
			part, old := &got, &want
			for _, i := range path {
				part, old = &part.Args[i], &old.Args[i]
			}
			if change == 0 {
				for i := range part.Labels {
					part.Labels[i] = "overwritten"
				}
				part.Labels = old.Labels
			} else {
				overwrite(part.Type)
				part.Type = old.Type
			}
			if !sameTerm(got, want) {
				t.Errorf("the term %v became %v when the node %v was overwritten", want, got, path)
			}
		}
	}
}

func TestManyFormsInsideOneAnother(t *testing.T) {
	for _, n := range []int{5, 15, 40} {
		sum := eVar("y")
		for i := range n {
			sum = eOp("+", sum, eVar(fmt.Sprint("v", i)))
		}
		names := map[string]func(i int) string{
			"all x": func(int) string { return "x" }, "ascending": func(i int) string { return fmt.Sprint("v", i) }, "descending": func(i int) string { return fmt.Sprint("v", n-i) }, "two": func(i int) string { return fmt.Sprint("v", i%2) }, "three": func(i int) string { return fmt.Sprint("v", i*i%7) },
		}
		for kind, name := range names {
			lam, loop := eUnion(sum, x0), eUnion(x0, sum)
			for i := range n {
				lam, loop = eLam(name(i), tInt, eUnion(lam, eVar(name(i)))), eFor(name(n-i), loop, eUnion(loop.Args[0], sum))
				if i > 3 {
					loop = eFor(name(i), eUnion(eVar(name(i)), eVar("y")), eOne(loop.Args[1]))
				}
			}
			for _, e := range []impl.Term{lam, eLam("x", tInt, lam), eFor("x", eVar("y"), lam), loop} {
				checkFree(t, e)
				for _, by := range []impl.Term{eVar("x"), eUnion(x0, eVar("v1")), sum, eUnion(eVar("v2"), eVar(fmt.Sprint("v", n)))} {
					if checkSubst(t, e, "y", by); t.Failed() {
						t.Fatal(n, kind)
					}
				}
			}
		}
	}
}

func TestScopesBeyondAllLimits(t *testing.T) {
	within := []impl.Term{{Kind: impl.TeOne}}
	within[0].Args = within
	doubled := nestedTerm(200, x0, func(e impl.Term) impl.Term { return eUnion(e, e) })
	closed := nestedTerm(200, d0, func(e impl.Term) impl.Term { return eFor("x", e, e) })
	endless := []impl.Term{{}, {}}
	endless[0], endless[1] = x0, eNode(impl.TeUnion, endless...)
	for i, e := range []impl.Term{within[0], doubled, closed, eLam("x", tInt, doubled)} {
		// The first difference ends a comparison.
		if impl.AlphaEqual(e, impl.Term{}) || impl.AlphaEqual(eOne(eOne(x0)), e) || impl.AlphaEqual(eUnion(x0, e), eUnion(eVar("y"), e)) || impl.AlphaEqual(eLam("x", tInt, eUnion(x0, e)), eLam("y", tInt, eUnion(x0, e))) {
			t.Errorf("term %d is equal to another one", i)
		}
		// A term that replaces nothing does not count.
		if got := impl.SubstTerm(eLam("y", tInt, eVar("z")), "y", e); !sameTerm(got, eLam("y", tInt, eVar("z"))) {
			t.Errorf("term %d: %v", i, got)
		}
	}
	// So does the first free variable.
	if impl.IsClosed(doubled) || impl.IsClosed(eUnion(x0, closed)) || impl.IsClosed(eFor("x", x0, within[0])) || impl.IsClosed(endless[1]) {
		t.Error("closed")
	}
}

func TestDeepAndWideScopes(t *testing.T) {
	defer debug.SetMaxStack(debug.SetMaxStack(1 << 20))
	const n = 50000
	y := eVar("y")
	for _, c := range []struct {
		name        string
		deep, other impl.Term
	}{
		{"for", nestedTerm(n, eUnion(x0, y), func(e impl.Term) impl.Term { return eFor("x", d0, e) }), nestedTerm(n, eUnion(eVar("z"), y), func(e impl.Term) impl.Term { return eFor("z", d0, e) })},
		{"bag", nestedTerm(n, y, func(e impl.Term) impl.Term { return eFor("x", e, x0) }), nestedTerm(n, y, func(e impl.Term) impl.Term { return eFor("y", e, y) })},
		{"function", nestedTerm(n, y, func(e impl.Term) impl.Term { return eLam("x", tInt, eApp(e, x0)) }), nestedTerm(n, y, func(e impl.Term) impl.Term { return eLam("z", tInt, eApp(e, eVar("z"))) })},
		{"only", nestedTerm(n, y, eOne), nestedTerm(n, y, eOne)},
		{"first", nestedTerm(n, y, func(e impl.Term) impl.Term { return eUnion(e, d0) }), nestedTerm(n, y, func(e impl.Term) impl.Term { return eUnion(e, d0) })},
		{"wide", eNode(impl.TeRec, slices.Repeat([]impl.Term{eLam("x", tInt, eUnion(x0, y))}, n)...), eNode(impl.TeRec, slices.Repeat([]impl.Term{eLam("a", tInt, eUnion(eVar("a"), y))}, n)...)},
	} {
		if got := impl.FreeVars(c.deep); !slices.Equal(got, []string{"y"}) || impl.IsClosed(c.deep) || !impl.IsClosed(eLam("y", tInt, c.deep)) {
			t.Errorf("%s: FreeVars = %q", c.name, got)
		}
		if !impl.AlphaEqual(c.deep, c.other) || !impl.AlphaEqual(c.other, c.deep) || impl.AlphaEqual(c.deep, eOne(c.deep)) || impl.AlphaEqual(eLam("y", tInt, c.deep), eLam("x", tInt, c.other)) {
			t.Errorf("%s: AlphaEqual", c.name)
		}
		// By a term that nothing captures, and one that the form around captures.
		got := impl.SubstTerm(c.deep, "y", eUnion(d0, eVar("w")))
		if names := impl.FreeVars(got); !slices.Equal(names, []string{"w"}) || impl.AlphaEqual(got, c.deep) {
			t.Errorf("%s: after replacing, FreeVars = %q", c.name, names)
		}
		got = impl.SubstTerm(eLam("w", tInt, c.deep), "y", eVar("w"))
		if names := impl.FreeVars(got); !slices.Equal(names, []string{"w"}) || got.Name != "v1" {
			t.Errorf("%s: after replacing, FreeVars = %q", c.name, names)
		}
		got = impl.SubstTerm(eUnion(y, d0), "y", c.deep)
		if !impl.EqualTerm(got, eUnion(c.deep, d0)) {
			t.Errorf("%s: replaced by it", c.name)
		}
		if got := impl.SubstTerm(c.deep, "none", y); !impl.EqualTerm(got, c.deep) {
			t.Errorf("%s: without a replacement", c.name)
		}
	}
	typed := eLam("x", nestedType(n, tInt, bagOf), x0)
	if got := impl.SubstTerm(eUnion(typed, y), "y", typed); !impl.EqualTerm(got, eUnion(typed, typed)) || !impl.IsClosed(got) || !impl.AlphaEqual(got, got) {
		t.Error("typed")
	}
	var names []impl.Term
	for i := range n {
		names = append(names, eVar("v"+impl.FormatInt(i)))
	}
	all := eNode(impl.TeRec, names...)
	if got := impl.SubstTerm(eLam("v5", tInt, y), "y", all); got.Name != "v"+impl.FormatInt(n) || len(impl.FreeVars(got)) != n {
		t.Error("the new name is", got.Name)
	}
}
