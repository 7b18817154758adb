package tests

import (
	"fmt"
	"maps"
	"reflect"
	"runtime/debug"
	"slices"
	"strings"
	"testing"

	"loop.example/g00587/impl"
)

func typing(name string, x impl.Type) impl.Typing { return impl.Typing{Name: name, Type: x} }

// typings returns the context of a text such as "x:I y:[B]".
func typings(text string) []impl.Typing {
	var ctx []impl.Typing
	for _, part := range strings.Fields(text) {
		name, typeText, _ := strings.Cut(part, ":")
		ctx = append(ctx, typing(name, readType(typeText)))
	}
	return ctx
}

func readType(text string) impl.Type {
	x, ok := impl.ParseType(text)
	if !ok {
		panic("no type: " + text)
	}
	return x
}

func readTerm(text string) impl.Term {
	e, ok := impl.ParseTerm(text)
	if !ok {
		panic("no term: " + text)
	}
	return e
}

// The following are the sentences of the document.

func ctxBySentences(ctx []impl.Typing) bool {
	if len(ctx) > 16 {
		return false
	}
	for _, x := range ctx {
		if !nameByItsBytes(x.Name) || !validBySentences(x.Type) {
			return false
		}
	}
	return true
}

func typeBySentences(s impl.Schema, ctx []impl.Typing, e impl.Term) (impl.Type, bool) {
	if !schemaBySentences(s) || !ctxBySentences(ctx) || !validTermBySentences(e) {
		return impl.Type{}, false
	}
	types := map[string]impl.Type{}
	for _, x := range ctx {
		types[x.Name] = x.Type
	}
	x := typeOfPart(s, types, e)
	if x == nil {
		return impl.Type{}, false
	}
	return *x, true
}

// with returns a context in which a name has another type.
func with(types map[string]impl.Type, name string, x impl.Type) map[string]impl.Type {
	types = maps.Clone(types)
	types[name] = x
	return types
}

// typeOfPart returns nil if there is no type.
func typeOfPart(s impl.Schema, types map[string]impl.Type, e impl.Term) *impl.Type {
	x := typeOfForm(s, types, e)
	if x == nil || !validBySentences(*x) {
		return nil
	}
	return x
}

func typeOfForm(s impl.Schema, types map[string]impl.Type, e impl.Term) *impl.Type {
	if e.Kind == impl.TeFor {
		bag := typeOfPart(s, types, e.Args[0])
		if bag == nil || bag.Kind != impl.TyBag {
			return nil
		}
		return onlyBag(typeOfPart(s, with(types, e.Name, bag.Args[0]), e.Args[1]))
	}
	if e.Kind == impl.TeLam {
		if body := typeOfPart(s, with(types, e.Name, e.Type), e.Args[0]); body != nil {
			return new(funOf(e.Type, *body))
		}
		return nil
	}
	var parts []impl.Type
	for _, a := range e.Args {
		x := typeOfPart(s, types, a)
		if x == nil {
			return nil
		}
		parts = append(parts, *x)
	}
	switch e.Kind {
	case impl.TeVar:
		if x, ok := types[e.Name]; ok {
			return &x
		}
	case impl.TeTable:
		for _, table := range s.Tables {
			if table.Name == e.Name {
				return new(bagOf(table.Row))
			}
		}
	default:
		return typeOfParts(e, parts)
	}
	return nil
}

func onlyBag(x *impl.Type) *impl.Type {
	if x == nil || x.Kind != impl.TyBag {
		return nil
	}
	return x
}

// typeOfParts is for the kinds in which neither tables nor the context count.
func typeOfParts(e impl.Term, parts []impl.Type) *impl.Type {
	is := func(list ...impl.Type) bool { return slices.EqualFunc(parts, list, sameType) }
	switch e.Kind {
	case impl.TeInt:
		return &tInt
	case impl.TeBool:
		return &tBool
	case impl.TeOp:
		switch {
		case strings.Contains("+-", e.Name) && is(tInt, tInt):
			return &tInt
		case strings.Contains("=<", e.Name) && is(tInt, tInt), strings.Contains("&|", e.Name) && is(tBool, tBool), e.Name == "!" && is(tBool):
			return &tBool
		}
	case impl.TeRec:
		return &impl.Type{Kind: impl.TyRec, Labels: e.Labels, Args: parts}
	case impl.TeProj:
		if i := slices.Index(parts[0].Labels, e.Name); i >= 0 {
			return &parts[0].Args[i]
		}
	case impl.TeEmpty:
		return new(bagOf(e.Type))
	case impl.TeOne:
		return new(bagOf(parts[0]))
	case impl.TeUnion:
		if sameType(parts[0], parts[1]) {
			return onlyBag(&parts[0])
		}
	case impl.TeIf:
		if sameType(parts[0], tBool) && sameType(parts[1], parts[2]) {
			return &parts[1]
		}
	case impl.TeApp:
		if parts[0].Kind == impl.TyFun && sameType(parts[0].Args[0], parts[1]) {
			return &parts[0].Args[1]
		}
	case impl.TeNone:
		if parts[0].Kind == impl.TyBag {
			return &tBool
		}
	case impl.TeCount:
		if parts[0].Kind == impl.TyBag {
			return &tInt
		}
	}
	return nil
}

// checkTyping compares the type of a term with the sentences above, and says whether there is one.
func checkTyping(t *testing.T, s impl.Schema, ctx []impl.Typing, e impl.Term) bool {
	t.Helper()
	want, wantOK := typeBySentences(s, ctx, e)
	got, ok := impl.TypeOf(s, ctx, e)
	switch {
	case ok != wantOK:
		t.Errorf("TypeOf(%v, %v, %v) = %v, %v", s, ctx, impl.FormatTerm(e), got, ok)
	case ok && (!sameType(got, want) || !impl.IsValidType(got)):
		t.Errorf("TypeOf(%v, %v, %v) = %v", s, ctx, impl.FormatTerm(e), got)
	case !ok && !reflect.DeepEqual(got, impl.Type{}):
		t.Errorf("TypeOf(%v, %v, %v) = %v and false", s, ctx, impl.FormatTerm(e), got)
	}
	checkQuery(t, s, e)
	return ok
}

func checkQuery(t *testing.T, s impl.Schema, e impl.Term) {
	t.Helper()
	x, ok := typeBySentences(s, nil, e)
	want := ok && x.Kind == impl.TyBag && nodesOfKind(x, impl.TyFun) == 0
	if impl.IsQuery(s, e) != want {
		t.Errorf("IsQuery(%v, %v) = %v", s, impl.FormatTerm(e), !want)
	}
}

// checkTypes reads lines such as "(x+1) : I", of a term and its type in a context and the schema three.
func checkTypes(t *testing.T, ctx []impl.Typing, lines ...string) {
	t.Helper()
	for _, line := range lines {
		term, want, _ := strings.Cut(line, " : ")
		e := readTerm(term)
		got, ok := impl.TypeOf(three, ctx, e)
		if !ok || impl.FormatType(got) != want {
			t.Errorf("%s has the type %s, %v", line, impl.FormatType(got), ok)
		}
		checkTyping(t, three, ctx, e)
	}
}

// checkNoTypes reads terms that are valid and have no type in a context and the schema three.
func checkNoTypes(t *testing.T, ctx []impl.Typing, terms ...string) {
	t.Helper()
	for _, term := range terms {
		e := readTerm(term)
		if got, ok := impl.TypeOf(three, ctx, e); ok {
			t.Errorf("%s has the type %s", term, impl.FormatType(got))
		}
		checkTyping(t, three, ctx, e)
	}
}

func checkCtx(t *testing.T, ctx []impl.Typing, want bool) {
	t.Helper()
	if ctxBySentences(ctx) != want {
		t.Errorf("the sentences do not say %v of %v", want, ctx)
	}
	if impl.IsCtx(ctx) != want {
		t.Errorf("IsCtx(%v) = %v", ctx, !want)
	}
	for _, e := range []impl.Term{eInt(1), x0, d0} {
		if ok := checkTyping(t, three, ctx, e); ok && !want {
			t.Errorf("%v has a type in %v", impl.FormatTerm(e), ctx)
		}
	}
}

func TestMaxCtx(t *testing.T) {
	if impl.MaxCtx != 16 {
		t.Error("MaxCtx")
	}
}

func TestContextsOfAnyNumberOfTypings(t *testing.T) {
	checkCtx(t, nil, true)
	checkCtx(t, []impl.Typing{}, true)
	var ascending, same []impl.Typing
	for n := 1; n <= 40; n++ {
		ascending = append(ascending, typing(fmt.Sprint("x", n), tInt))
		same = append(same, typing("x", bagOf(tBool)))
		checkCtx(t, ascending, n <= 16)
		checkCtx(t, same, n <= 16)
	}
	if impl.IsCtx(make([]impl.Typing, 1)) || impl.IsCtx(make([]impl.Typing, 16)) || impl.IsCtx(slices.Repeat(ascending, 10000)) {
		t.Error("long or empty typings")
	}
}

func TestNamesOfContexts(t *testing.T) {
	for _, name := range []string{"a", "z", "x9", "abcd", "x123", "fo", "iff", "for1", "if0", "i", "t", "d"} {
		checkCtx(t, []impl.Typing{typing(name, tInt)}, true)
		checkCtx(t, []impl.Typing{typing(name, tInt), typing("x", tBool), typing(name, tBool)}, true)
	}
	for _, name := range append([]string{strings.Repeat("a", 1<<16)}, namesOfNone...) {
		checkCtx(t, []impl.Typing{typing(name, tInt)}, false)
		for i := range 16 {
			ctx := slices.Repeat([]impl.Typing{typing("x", tInt)}, 16)
			ctx[i].Name = name
			checkCtx(t, ctx, false)
			checkCtx(t, ctx[:i+1], false)
			checkCtx(t, ctx[:i], true)
		}
	}
}

// noTypes are types that are not valid.
func noTypes() []impl.Type {
	f := funOf(tInt, tInt)
	return []impl.Type{
		{}, {Kind: 6}, {Kind: -1}, {Kind: 1<<32 + 1}, node(impl.TyInt, []string{"a"}), node(impl.TyBool, nil, tInt), bagOf(f), bagOf(bagOf(f)), recOf("a", f), recOf("a b", tInt, bagOf(f)), funOf(bagOf(f), tInt), funOf(tInt, recOf("a", f)),
		node(impl.TyBag, nil), node(impl.TyBag, nil, tInt, tInt), node(impl.TyBag, []string{"a"}, tInt), node(impl.TyFun, nil, tInt), node(impl.TyFun, nil, tInt, tInt, tInt), funOf(tInt, impl.Type{}), funOf(impl.Type{}, tInt), bagOf(impl.Type{}),
		recOf(""), recOf("a"), recOf("a b", tInt), recOf("a a", tInt, tInt), recOf("b a", tInt, tInt), recOf("if", tInt), recOf("a b c d e", tInt, tInt, tInt, tInt, tInt),
		nestedType(7, tInt, bagOf), nestedType(7, tBool, func(x impl.Type) impl.Type { return funOf(x, tInt) }), typeOfSize(25), typeOfSize(26),
	}
}

// typeOfSize returns a type of a depth of at most 6 and n nodes, which is valid up to 24 of them.
func typeOfSize(n int) impl.Type {
	switch {
	case n == 1:
		return tInt
	case n == 2:
		return bagOf(tInt)
	}
	return recOf("a b", typeOfSize((n-1)/2), typeOfSize(n-1-(n-1)/2))
}

func TestTypesOfContexts(t *testing.T) {
	for _, x := range []impl.Type{tInt, tBool, typeD, bagOf(bagOf(typeE)), funOf(tInt, tInt), funOf(funOf(tInt, tInt), bagOf(typeF)), nestedType(6, tInt, bagOf), typeOfSize(24)} {
		checkCtx(t, []impl.Typing{typing("x", x)}, true)
		checkCtx(t, []impl.Typing{typing("x", tInt), typing("y", x), typing("x", x)}, true)
	}
	for _, x := range noTypes() {
		if validBySentences(x) {
			t.Error("valid:", x)
		}
		checkCtx(t, []impl.Typing{typing("x", x)}, false)
		for i := range 16 {
			ctx := slices.Repeat([]impl.Typing{typing("x", tInt)}, 16)
			ctx[i].Type = x
			checkCtx(t, ctx, false)
			checkCtx(t, ctx[:i+1], false)
		}
		// The name has another type behind this one.
		checkCtx(t, []impl.Typing{typing("y", x), typing("y", tInt)}, false)
	}
}

func TestTypesOfVariables(t *testing.T) {
	checkNoTypes(t, nil, "x", "d", "[x]", "{a=1,b=x}", "(count [x])", "x.a", "(if #t 1 x)", "(\\x:I.y)", "(for x<-@d [y])")
	checkTypes(t, typings("x:I"), "x : I", "[x] : [I]", "(x+x) : I")
	checkNoTypes(t, typings("x:I"), "y", "xx", "x1", "d", "(x+y)")
	checkTypes(t, typings("x:I y:B z:{a:I}"), "x : I", "y : B", "z : {a:I}", "z.a : I")
	checkTypes(t, typings("d:I"), "d : I", "@d : [{k:I,n:I}]")
	checkNoTypes(t, typings("q:I"), "@q")
	// Of several typings with the same name, the last one counts.
	checkTypes(t, typings("x:I x:B"), "x : B")
	checkTypes(t, typings("x:B x:I"), "x : I")
	checkTypes(t, typings("x:I y:[I] x:B y:[B]"), "x : B", "y : [B]")
	checkTypes(t, typings("x:I x:B y:[B]"), "x : B", "y : [B]")
	checkTypes(t, typings("x:I y:B x:(I>I)"), "x : (I>I)", "(x 1) : I", "y : B")
	checkNoTypes(t, typings("x:I x:B"), "(x+1)", "(x=x)")
	list := typings("a:I b:B a:[I] b:[B] a:{a:I} b:{b:B} a:(I>B) b:(B>I) a:[[I]] b:[[B]] a:{a:[I]} b:{b:[B]} a:(I>I) b:(B>B) a:B b:I")
	for n := range list {
		for _, name := range []string{"a", "b", "c"} {
			checkTyping(t, three, list[:n+1], eVar(name))
		}
		got, ok := impl.TypeOf(three, list[:n+1], eVar(list[n].Name))
		if !ok || !sameType(got, list[n].Type) {
			t.Errorf("the last of %v has the type %v, %v", list[:n+1], got, ok)
		}
	}
}

func TestNamesThatAreBoundAgain(t *testing.T) {
	checkTypes(t, typings("x:B"),
		"(for x<-[1] [(x+1)]) : [I]", "(\\x:I.(x+1)) : (I>I)", "((\\x:I.(x+1)) 2) : I", "(for y<-[1] [x]) : [B]", "(\\y:I.x) : (I>B)",
		// Behind the body, and before it, the name has its old type.
		"{a=(for x<-[1] [(x+1)]),b=(!x)} : {a:[I],b:B}", "{a=(!x),b=(for x<-[1] [(x+1)]),c=(!x)} : {a:B,b:[I],c:B}", "{a=((\\x:I.(x+1)) 1),b=(!x)} : {a:I,b:B}",
		"((for x<-[1] [(x<1)])++[x]) : [B]", "([x]++(for x<-[1] [(x<1)])) : [B]", "(if x (for x<-[1] [(x+1)]) (for x<-[(!x)] [1])) : [I]",
		// What stands before the body does not have the new type.
		"(for x<-[x] [(!x)]) : [B]", "(for x<-(if x [1] [2]) [(x+1)]) : [I]", "((\\x:I.x) (if x 1 2)) : I", "((\\x:B.x) x) : B")
	checkNoTypes(t, typings("x:B"),
		"(for x<-[1] [(!x)])", "(\\x:I.(!x))", "{a=(for x<-[1] [(x+1)]),b=(x+1)}", "{a=(x+1),b=(for x<-[1] [(x+1)])}", "((\\x:I.(x+1)) x)", "(for x<-[(x+1)] [(x+1)])", "((for x<-[1] [x])++[x])", "([x]++(for x<-[1] [x]))", "(if x (for x<-[1] [x]) (for x<-[x] [x]))")
	checkTypes(t, typings("x:[I]"), "(for x<-x [(x+1)]) : [I]", "(for x<-x (for y<-[x] [(x+y)])) : [I]", "((for x<-x [x])++x) : [I]", "((\\x:I.[x]) (count x)) : [I]")
	checkNoTypes(t, typings("x:[I]"), "(for x<-x x)", "(for x<-x [(count x)])", "(for x<-x (for x<-x [1]))")
	checkTypes(t, typings("x:[[I]]"), "(for x<-x x) : [I]", "(for x<-x (for x<-x [x])) : [I]", "(for x<-x ((for x<-x [x])++x)) : [I]", "{a=(for x<-x (for x<-x [(x<1)])),b=x} : {a:[B],b:[[I]]}")
	// The type of the last typing is restored, not that of the first one with this name.
	checkTypes(t, typings("x:I x:B"), "{a=(for x<-[[1]] x),b=x} : {a:[I],b:B}", "{a=((\\x:[I].x) [:I]),b=x} : {a:[I],b:B}")
	checkTypes(t, nil,
		"(for x<-@d (for x<-[x.k] [(x+1)])) : [I]", "(for x<-@d ((for x<-[x.k] [(x+1)])++[x.n])) : [I]", "(for x<-@d (for x<-@e [x.b])) : [B]", "(for x<-@d (for y<-@e [{a=x.n,b=y.b}])) : [{a:I,b:B}]",
		"(\\x:I.((\\x:B.(!x)) (x<1))) : (I>B)", "(\\x:I.(\\x:B.x)) : (I>(B>B))", "(\\x:I.(\\y:B.x)) : (I>(B>I))", "(\\x:(I>B).(\\x:I.x)) : ((I>B)>(I>I))", "(for x<-[1] ((\\x:[I].x) [x])) : [I]", "(\\x:I.{a=(count (for x<-@e [x.b])),b=x}) : (I>{a:I,b:I})")
	// Beside the body, the name is free.
	checkNoTypes(t, nil, "((for x<-@d [x.k])++[x.k])", "([x.k]++(for x<-@d [x.k]))", "(for x<-[x] [x])", "(for x<-@d (for y<-[y] [1]))", "((\\x:I.x) x)", "{a=(\\x:I.x),b=x}", "(for x<-@d (for x<-@e [x.n]))", "(\\x:I.(\\x:B.(x+1)))", "(for x<-(for y<-@d [y.k]) [y.k])")
}

// sixteen is a context of as many variables as it may have, of different types.
func sixteen() []impl.Typing {
	return typings("a:I b:B c:{a:I} d:{a:B} e:{b:I} f:{a:I,b:B} g:[I] h:[B] i:[{a:I}] j:[[I]] k:(I>I) l:(I>B) m:(B>I) n:((I>I)>I) o:(I>(I>I)) p:([I]>[I])")
}

// checkForm checks all terms of a form in which each of the parts is one of sixteen variables, and how many of them have a type.
func checkForm(t *testing.T, parts, want int, form func(list ...impl.Term) impl.Term) {
	t.Helper()
	ctx := sixteen()
	lists := [][]impl.Term{nil}
	for range parts {
		var longer [][]impl.Term
		for _, list := range lists {
			for _, x := range ctx {
				longer = append(longer, append(slices.Clone(list), eVar(x.Name)))
			}
		}
		lists = longer
	}
	got := 0
	for _, list := range lists {
		if checkTyping(t, three, ctx, form(list...)) {
			got++
		}
	}
	if got != want {
		t.Errorf("%d terms such as %s have a type, want %d", got, impl.FormatTerm(form(lists[0]...)), want)
	}
}

func TestPartsOfEachType(t *testing.T) {
	for _, op := range []string{"+", "-", "=", "<", "&", "|"} {
		checkForm(t, 2, 1, func(p ...impl.Term) impl.Term { return eOp(op, p...) })
	}
	checkForm(t, 1, 1, func(p ...impl.Term) impl.Term { return eOp("!", p...) })
	for labels, want := range map[string]int{"a": 10, "a b": 100, "a b c": 1000} {
		checkForm(t, len(strings.Fields(labels)), want, func(p ...impl.Term) impl.Term { return eRec(labels, p...) })
	}
	for label, want := range map[string]int{"a": 3, "b": 2, "c": 0} {
		checkForm(t, 1, want, func(p ...impl.Term) impl.Term { return eProj(p[0], label) })
	}
	checkForm(t, 1, 10, func(p ...impl.Term) impl.Term { return eOne(p[0]) })
	checkForm(t, 2, 4, func(p ...impl.Term) impl.Term { return eUnion(p[0], p[1]) })
	checkForm(t, 2, 16, func(p ...impl.Term) impl.Term { return eFor("x", p[0], p[1]) })
	checkForm(t, 1, 4, func(p ...impl.Term) impl.Term { return eFor("x", p[0], eOne(x0)) })
	checkForm(t, 1, 1, func(p ...impl.Term) impl.Term { return eFor("x", p[0], x0) })
	// In the body, the name is bound again: each of the sixteen has the type of an element there.
	checkForm(t, 1, 4, func(p ...impl.Term) impl.Term { return eFor(p[0].Name, p[0], eOne(p[0])) })
	checkForm(t, 2, 60, func(p ...impl.Term) impl.Term { return eFor(p[1].Name, eTable("d"), eUnion(p[0], p[0])) })
	checkForm(t, 3, 16, func(p ...impl.Term) impl.Term { return eIf(p[0], p[1], p[2]) })
	checkForm(t, 1, 16, func(p ...impl.Term) impl.Term { return eLam("x", tInt, p[0]) })
	checkForm(t, 2, 6, func(p ...impl.Term) impl.Term { return eApp(p[0], p[1]) })
	checkForm(t, 1, 4, func(p ...impl.Term) impl.Term { return eNone(p[0]) })
	checkForm(t, 1, 4, func(p ...impl.Term) impl.Term { return eCount(p[0]) })
}

func TestTypesOfOperations(t *testing.T) {
	checkTypes(t, nil, "0 : I", "999 : I", "#t : B", "#f : B",
		"(1+2) : I", "(1-2) : I", "(1=2) : B", "(1<2) : B", "(#t&#f) : B", "(#t|#f) : B", "(!#t) : B",
		"((1+2)-(3+4)) : I", "((1<2)&(!(3=4))) : B", "((count @d)+1) : I", "((empty @d)|#t) : B", "(!(!(empty @d))) : B", "({a=1}.a+2) : I")
	checkNoTypes(t, nil,
		"(1+#t)", "(#t+1)", "(#t+#t)", "(1-#t)", "(#t-1)", "(#f-#f)", "(1=#t)", "(#t=1)", "(#t=#t)", "(#t<1)", "(1<#t)", "(#t<#f)",
		"(1&#t)", "(#t&1)", "(1&1)", "(1|#t)", "(#t|1)", "(1|1)", "(!1)", "(![#t])", "([1]+[1])", "([1]=[1])", "({a=1}={a=1})", "({a=1}+1)", "(@d<@d)", "((\\x:I.x)=(\\x:I.x))", "((1<2)+1)", "((1+2)&#t)", "([#t]&[#t])", "((\\x:B.x)|#t)",
		// An operand without a type.
		"(x+1)", "(1+x)", "(x=x)", "(!x)", "(#t&x)", "(x|#f)", "((1+#t)<1)", "(1<(1 2))")
}

func TestTypesOfRecordsAndFields(t *testing.T) {
	checkTypes(t, nil,
		"{a=1} : {a:I}", "{a=#t,b=1} : {a:B,b:I}", "{a=1,b=2,c=#f,d=4} : {a:I,b:I,c:B,d:I}", "{a={a={a=1}}} : {a:{a:{a:I}}}", "{a=[1],b=@f} : {a:[I],b:[{a:I}]}", "{a=[:I],b={c=[[#t]]}} : {a:[I],b:{c:[[B]]}}",
		"{a=1}.a : I", "{a=#t,b=1}.a : B", "{a=#t,b=1}.b : I", "{a={a=[#t]}}.a : {a:[B]}", "{a={a=[#t]}}.a.a : [B]", "{a={b=1,c=#t},b={b=#t,c=1}}.b.c : I", "(if #t {a=1} {a=2}).a : I", "((\\x:I.{a=x}) 1).a : I", "(for x<-@f [{b=x}.b.a]) : [I]")
	checkNoTypes(t, nil,
		"{a=1}.b", "{a=1,b=#t}.c", "{a={b=1}}.b", "{a=1}.a.a", "1.a", "#t.a", "[{a=1}].a", "@f.a", "(\\x:I.{a=x}).a", "(\\a:I.a).a", "[:{a:I}].a", "x.a", "(count @f).a", "(for x<-@d [x.a])", "(for x<-@d [x.k.k])",
		// A field without a type, also where another one is asked for.
		"{a=x}", "{a=1,b=x}", "{a=x,b=1}", "{a=x,b=1}.b", "{a=1,b=(1+#t)}.a", "{a={b=x}}", "{a=@q}", "{a=(1 2),b=1,c=2,d=3}", "{a=1,b=2,c=3,d=x}.a")
}

func TestTypesOfBags(t *testing.T) {
	checkTypes(t, nil,
		"[:I] : [I]", "[:B] : [B]", "[:[I]] : [[I]]", "[:{a:I,b:[B]}] : [{a:I,b:[B]}]", "[1] : [I]", "[#f] : [B]", "[[1]] : [[I]]", "[[:I]] : [[I]]", "[{a=1,b=[#t]}] : [{a:I,b:[B]}]", "[@d] : [[{k:I,n:I}]]",
		"([1]++[2]) : [I]", "([:I]++[2]) : [I]", "([2]++[:I]) : [I]", "(@d++@d) : [{k:I,n:I}]", "([[1]]++[[:I]]) : [[I]]", "(([1]++[2])++([3]++[4])) : [I]", "([{k=1,n=2}]++@d) : [{k:I,n:I}]",
		"@d : [{k:I,n:I}]", "@e : [{b:B,k:I}]", "@f : [{a:I}]",
		"(empty [1]) : B", "(count [1]) : I", "(empty [:B]) : B", "(count [:B]) : I", "(empty @d) : B", "(count @e) : I", "(count [[#t]]) : I", "[(count [1])] : [I]", "[(empty [1])] : [B]", "(count (for x<-@d (for y<-@d [x]))) : I")
	checkNoTypes(t, nil,
		"([1]++[#t])", "([#t]++[1])", "([1]++1)", "(1++[1])", "(1++1)", "(#t++#t)", "({a=1}++{a=1})", "((\\x:I.[x])++(\\x:I.[x]))", "([:I]++[:B])", "([[1]]++[1])", "([1]++[[1]])", "(@d++@e)", "([{a=1}]++[{b=1}])", "([{a=1}]++[{a=1,b=1}])", "([{a=1}]++[{a=#t}])", "([1]++[:[I]])",
		"@q", "@dd", "@k", "@a", "[@q]", "(count @q)", "(for x<-@q [1])", "(@d++@q)",
		"(empty 1)", "(count 1)", "(empty #t)", "(count #f)", "(count {a=[1]})", "(empty {a=[1]})", "(count (\\x:I.[x]))", "(empty (\\x:I.[x]))", "(count (count [1]))", "(empty (empty [1]))", "(empty (count [1]))",
		"[x]", "([x]++[1])", "([1]++[x])", "([x]++[x])", "(empty x)", "(count [x])", "[(1+#t)]", "[[x]]")
}

func TestTypesOfFor(t *testing.T) {
	checkTypes(t, nil,
		"(for x<-[1] [x]) : [I]", "(for x<-[#t] [(!x)]) : [B]", "(for x<-[1] [#t]) : [B]", "(for x<-[:I] [[x]]) : [[I]]", "(for x<-@d @e) : [{b:B,k:I}]", "(for x<-@d [x]) : [{k:I,n:I}]", "(for x<-@d [x.n]) : [I]", "(for x<-[@d] x) : [{k:I,n:I}]", "(for x<-[[1]] x) : [I]",
		"(for x<-@d (for y<-@e (if (x.k=y.k) [{a=x.n,b=y.b}] [:{a:I,b:B}]))) : [{a:I,b:B}]", "(for x<-@d [{a=x.k,b=(for y<-@e [y.b])}]) : [{a:I,b:[B]}]", "(for x<-(for y<-@d [[y.k]]) x) : [I]", "(for d<-@d [d.k]) : [I]")
	checkNoTypes(t, nil,
		"(for x<-1 [1])", "(for x<-#t [#t])", "(for x<-{a=[1]} [1])", "(for x<-(\\y:I.[y]) [1])", "(for x<-1 [x])", "(for x<-(count [1]) [1])", "(for x<-@d.k [1])",
		"(for x<-[1] 1)", "(for x<-[1] x)", "(for x<-@d x)", "(for x<-@d x.k)", "(for x<-@d {a=[1]})", "(for x<-[1] (\\y:I.[y]))", "(for x<-@d (count @d))", "(for x<-1 1)", "(for x<-[1] (!#t))",
		"(for x<-@d [y])", "(for x<-y [1])", "(for x<-[1] [(x+#t)])", "(for x<-[#t] [(x+1)])", "(for x<-@d [x.b])", "(for x<-@d [(x+1)])", "(for x<-[[1]] [(x+1)])", "(for x<-[x] [1])", "(for x<-@x [1])", "(for d<-@d [@d.k])")
}

func TestTypesOfChoices(t *testing.T) {
	checkTypes(t, nil,
		"(if #t 1 2) : I", "(if #f #t #f) : B", "(if (1<2) [1] [:I]) : [I]", "(if (empty @d) {a=1} {a=2}) : {a:I}", "(if #t (\\x:I.x) (\\y:I.1)) : (I>I)", "(if (if #t #f #t) 1 2) : I", "((if #t (\\x:I.x) (\\x:I.1)) 5) : I", "(if #t (if #f 1 2) 3) : I", "(for x<-@e (if x.b [x.k] [:I])) : [I]")
	checkNoTypes(t, nil,
		"(if 1 2 3)", "(if 1 #t #t)", "(if [#t] 1 2)", "(if {a=#t} 1 2)", "(if (\\x:B.x) 1 2)", "(if @d @d @d)", "(if (count [1]) 1 2)",
		"(if #t 1 #t)", "(if #t #t 1)", "(if #t 1 [1])", "(if #t [1] [#t])", "(if #t [:I] [:B])", "(if #t {a=1} {b=1})", "(if #t {a=1} {a=#t})", "(if #t (\\x:I.x) (\\x:I.#t))", "(if #t (\\x:I.1) (\\x:B.1))", "(if #t 1 (\\x:I.x))", "(if #t @d @e)",
		"(if x 1 2)", "(if #t x 2)", "(if #t 1 x)", "(if #t x x)", "(if #f 1 (1+#t))", "(if #t 1 (1 2))", "(if (1+#t) 1 2)")
}

func TestTypesOfFunctions(t *testing.T) {
	checkTypes(t, nil,
		"(\\x:I.x) : (I>I)", "(\\x:B.1) : (B>I)", "(\\x:[I].(count x)) : ([I]>I)", "(\\x:{a:I,b:B}.x.b) : ({a:I,b:B}>B)", "(\\x:(I>B).(x 1)) : ((I>B)>B)", "(\\x:I.(\\y:B.x)) : (I>(B>I))", "(\\x:(I>I).x) : ((I>I)>(I>I))", "(\\x:I.@d) : (I>[{k:I,n:I}])", "(\\x:[{a:I}].(for y<-x [y.a])) : ([{a:I}]>[I])",
		"((\\x:I.x) 1) : I", "((\\x:I.[x]) 3) : [I]", "((\\x:(I>B).(x 1)) (\\y:I.(y<2))) : B", "(((\\x:I.(\\y:B.x)) 1) #t) : I", "((\\x:I.(\\y:B.x)) 1) : (B>I)", "((\\x:[I].x) [:I]) : [I]", "((\\x:(I>I).x) (\\y:I.y)) : (I>I)", "(((\\x:(I>I).x) (\\y:I.y)) 1) : I", "((\\x:((I>I)>I).(x (\\y:I.y))) (\\z:(I>I).(z 1))) : I", "(for x<-@d ((\\y:{k:I,n:I}.[y.k]) x)) : [I]")
	checkNoTypes(t, nil,
		"(1 2)", "(#t #t)", "([1] 1)", "({a=1} 1)", "(@d 1)", "((count @d) 1)", "([(\\x:I.x)] 1)", "((if #t 1 2) 1)",
		"((\\x:I.x) #t)", "((\\x:B.x) 1)", "((\\x:I.x) [1])", "((\\x:[I].x) 1)", "((\\x:[I].x) [#t])", "((\\x:I.x) (\\x:I.x))", "((\\x:(I>I).x) 1)", "((\\x:(I>I).x) (\\y:B.y))", "((\\x:(I>I).x) (\\y:I.#t))", "((\\x:{a:I}.x) {b=1})", "(((\\x:I.x) 1) 1)", "((\\x:{a:I}.1) {a=1,b=2})", "((\\x:{a:I,b:I}.1) {a=1})", "((\\x:I.(\\y:B.x)) #t)", "(1 (\\x:I.x))", "((\\x:(I>I).(x #t)) (\\y:I.y))",
		"(\\x:I.y)", "(\\x:I.(x+#t))", "(\\x:B.(x+1))", "(\\x:I.(x 1))", "(\\x:I.x.a)", "((\\x:I.x) y)", "((\\x:I.y) 1)", "(x 1)", "((\\x:I.1) (1+#t))", "(\\x:I.(for y<-x [y]))", "(\\x:I.@q)")
}

func TestFunctionsWithinRecordsAndBagsHaveNoType(t *testing.T) {
	// In each of these, a part has a type that is not valid; in many, the type of the whole would be valid.
	checkNoTypes(t, typings("f:(I>I)"),
		"[f]", "[(\\x:I.x)]", "{a=f}", "{a=(\\x:I.x)}", "{a=1,b=f}", "{a=f,b=1}", "[[f]]", "[{a=f}]", "{a=[f]}", "(\\x:I.[f])", "(\\x:I.{a=f})",
		"{a=f}.a", "({a=f}.a 1)", "{a=1,b=f}.a", "{a=f,b=1}.b", "(count [f])", "(empty [f])", "(for x<-[f] [1])", "(for x<-[f] [(x 1)])", "(count ([f]++[f]))", "((\\x:I.1) (count [f]))", "(if #t 1 {a=f,b=1}.b)", "(if (empty [f]) 1 2)", "((count [f])+1)", "(for x<-[1] (for y<-[f] [1]))", "(empty (for x<-[1] [f]))", "{a=(count [f])}", "((\\x:I.(count [f])) 1)")
	checkTypes(t, typings("f:(I>I)"), "f : (I>I)", "[(f 1)] : [I]", "{a=(f 1)} : {a:I}", "(for x<-[1] [(f x)]) : [I]", "(\\x:I.f) : (I>(I>I))", "(if #t f f) : (I>I)", "((\\x:(I>I).[(x 1)]) f) : [I]", "(for x<-[1] ((\\g:(I>I).[(g x)]) f)) : [I]")
}

func TestEmptyBagsOfTypesThatAreNotValid(t *testing.T) {
	for _, x := range noTypes() {
		for _, e := range []impl.Term{eEmpty(x), eCount(eEmpty(x)), eIf(eBool(1), eInt(1), eCount(eEmpty(x))), eLam("x", x, eInt(1)), eApp(eLam("x", x, eInt(1)), eInt(1))} {
			if checkTyping(t, three, nil, e) {
				t.Errorf("%v has a type", e)
			}
		}
	}
	// The type of the elements is valid, but there is no bag of them.
	for _, x := range []impl.Type{funOf(tInt, tInt), funOf(tInt, bagOf(tInt)), nestedType(6, tInt, bagOf), nestedType(6, tInt, func(x impl.Type) impl.Type { return recOf("a", x) }), typeOfSize(24)} {
		for _, e := range []impl.Term{eEmpty(x), eCount(eEmpty(x)), eNone(eEmpty(x)), eUnion(eEmpty(x), eEmpty(x)), eFor("x", eEmpty(x), eOne(eInt(1)))} {
			if !validBySentences(x) || !impl.IsValidTerm(e) || checkTyping(t, three, nil, e) {
				t.Errorf("%s has a type, or is not valid", impl.FormatTerm(e))
			}
		}
	}
}

// checkSizes checks that the terms have a type in the context of the variable x just if n, the size or depth of its type, is at most max.
func checkSizes(t *testing.T, x impl.Type, n, max int, terms ...string) {
	t.Helper()
	for _, term := range terms {
		if got := checkTyping(t, three, []impl.Typing{typing("x", x)}, readTerm(term)); got != (n <= max) {
			t.Errorf("with x of the type %s, %s has a type: %v", impl.FormatType(x), term, got)
		}
	}
}

func TestTypesOfTheGreatestDepthOfParts(t *testing.T) {
	for n := 1; n <= 7; n++ {
		for _, x := range []impl.Type{nestedType(n-1, tInt, bagOf), nestedType(n-1, tBool, func(x impl.Type) impl.Type { return recOf("a b", tInt, x) })} {
			checkSizes(t, x, n, 7, "x", "(if #t x x)", "(\\y:I.1)")
			checkSizes(t, x, n, 6, "[x]", "{a=x}", "(\\y:I.x)", "{a=x}.a", "(count [x])", "(empty [x])", "(for y<-[x] [1])", "((\\y:I.x) 1)", "(if #t 1 {a=x,b=1}.b)", "(count ([x]++[x]))", "((\\y:I.1) (count [x]))")
			checkSizes(t, x, n, 5, "[[x]]", "{a=[x]}", "(\\y:I.[x])", "{a=[x]}.a", "(count [[x]])", "(for y<-[[x]] y)", "((\\y:I.[x]) 1)", "[{b=1,c=x}]", "(count (for y<-[x] [{a=y}]))")
			// Here the parameter has the type of x.
			lam := eLam("y", x, eInt(1))
			for _, e := range []impl.Term{lam, eApp(lam, x0)} {
				if got := checkTyping(t, three, []impl.Typing{typing("x", x)}, e); got != (n <= 6) {
					t.Errorf("%s has a type: %v", impl.FormatTerm(e), got)
				}
			}
		}
	}
	checkTypes(t, nil, "[[[[[[1]]]]]] : [[[[[[I]]]]]]", "(count [[[[[[1]]]]]]) : I", "{a={a={a={a={a={a=1}}}}}} : {a:{a:{a:{a:{a:{a:I}}}}}}", "(\\x:I.(\\x:I.(\\x:I.(\\x:I.(\\x:I.(\\x:I.1)))))) : (I>(I>(I>(I>(I>(I>I))))))")
	checkNoTypes(t, nil, "[[[[[[[1]]]]]]]", "(count [[[[[[[1]]]]]]])", "{a={a={a={a={a={a={a=1}}}}}}}", "{a={a={a={a={a={a={a=1}}}}}}}.a", "(\\x:I.(\\x:I.(\\x:I.(\\x:I.(\\x:I.(\\x:I.(\\x:I.1)))))))", "((\\x:I.(\\x:I.(\\x:I.(\\x:I.(\\x:I.(\\x:I.(\\x:I.1))))))) 1)")
}

func TestTypesOfTheGreatestSizeOfParts(t *testing.T) {
	for n := 6; n <= 24; n++ {
		x := typeOfSize(n)
		if sizeByParts(x) != n || depthByParts(x) > 5 {
			t.Fatal(sizeByParts(x), depthByParts(x))
		}
		checkSizes(t, x, n, 24, "x", "(if #t x x)", "(\\y:I.1)")
		checkSizes(t, x, n, 23, "[x]", "{a=x}", "{a=x}.a", "(count [x])", "(empty [x])", "(for y<-[x] [1])", "(count ([x]++[x]))", "{a=(count [x])}")
		checkSizes(t, x, n, 22, "[[x]]", "{a=[x]}", "{a=x,b=1}", "{a=1,b=x}.a", "(\\y:I.x)", "((\\y:I.x) 1)", "(count [[x]])", "(for y<-[[x]] y)")
		checkSizes(t, x, n, 20, "{a=1,b=#t,c=x,d=1}.d", "[{a=x,b=1,c=1}]", "(\\y:I.{a=x,b=1})")
		checkSizes(t, x, n, 11, "{a=x,b=x}", "{a=x,b=x}.a", "{a=x,b=x}.b", "[{a=x,b=x}]", "{a=x,b=[x]}", "{a=x,b=1,c=x}.b")
		for _, e := range []impl.Term{eLam("y", x, eInt(1)), eApp(eLam("y", x, eInt(1)), x0)} {
			if got := checkTyping(t, three, []impl.Typing{typing("x", x)}, e); got != (n <= 22) {
				t.Errorf("%s has a type: %v", impl.FormatTerm(e), got)
			}
		}
	}
}

func TestMoreVariablesThanAContextHas(t *testing.T) {
	ctx := slices.Repeat([]impl.Typing{typing("y", tBool)}, 15)
	ctx = append(ctx, typing("x", tInt))
	// Fourteen names are bound in the term, beside those of the context.
	loops, sums := eOne(eVar("b9")), eOne(x0)
	for i := range 14 {
		loops = eFor(fmt.Sprint("b", 13-i), eOne(eVar("x")), loops)
		sums = eFor("x", eOne(x0), sums)
	}
	for _, e := range []impl.Term{loops, sums} {
		got, ok := impl.TypeOf(three, ctx, e)
		if !ok || !sameType(got, bagOf(tInt)) || !checkTyping(t, three, ctx, e) || checkTyping(t, three, ctx, eOne(eOne(e))) {
			t.Errorf("%s has the type %v, %v", impl.FormatTerm(e), got, ok)
		}
		if checkTyping(t, three, append(slices.Clone(ctx), typing("z", tInt)), e) {
			t.Error("seventeen typings")
		}
	}
	e := readTerm("(\\a:I.(\\b:B.(\\c:I.(\\d:B.{a=a,b=b,c=c,d=d}))))")
	got, ok := impl.TypeOf(three, ctx, e)
	if !ok || impl.FormatType(got) != "(I>(B>(I>(B>{a:I,b:B,c:I,d:B}))))" {
		t.Errorf("the type is %s, %v", impl.FormatType(got), ok)
	}
	checkTyping(t, three, ctx, e)
}

// checkNothingIsTyped checks that no term has a type.
func checkNothingIsTyped(t *testing.T, s impl.Schema, ctx []impl.Typing) {
	t.Helper()
	for _, text := range []string{"1", "x", "[1]", "@d", "[:I]", "(\\x:I.x)", "(for x<-@d [x.k])", "{a=1}.a", "(count [#t])"} {
		if checkTyping(t, s, ctx, readTerm(text)) {
			t.Errorf("%s has a type in the schema %v and the context %v", text, s, ctx)
		}
	}
}

func TestSchemasThatAreNotValidTypeNothing(t *testing.T) {
	list := noSchemas()
	for _, row := range noRows() {
		list = append(list, schemaOf(declare("d", row)), schemaOf(declare("d", typeD), declare("e", row)))
	}
	for _, s := range list {
		if schemaBySentences(s) {
			t.Error("valid:", s)
		}
		checkNothingIsTyped(t, s, nil)
		checkNothingIsTyped(t, s, typings("x:I"))
		for _, text := range []string{"[1]", "@d", "@e", "[:I]", "(for x<-@d [1])"} {
			if impl.IsQuery(s, readTerm(text)) {
				t.Errorf("%s is a query in the schema %v", text, s)
			}
		}
	}
}

func TestContextsThatAreNotValidTypeNothing(t *testing.T) {
	for _, ctx := range [][]impl.Typing{
		slices.Repeat(typings("x:I"), 17), make([]impl.Typing, 1), {typing("", tInt)}, {typing("if", tInt)}, {typing("x", impl.Type{})}, {typing("x", bagOf(funOf(tInt, tInt)))}, {typing("x", tInt), typing("abcde", tInt)},
		{typing("A", tInt), typing("x", tInt)}, {typing("y", typeOfSize(25)), typing("x", tInt)}, {typing("y", recOf("b a", tInt, tInt)), typing("x", tInt)},
	} {
		checkCtx(t, ctx, false)
		checkNothingIsTyped(t, three, ctx)
	}
}

func TestTermsThatAreNotValidHaveNoType(t *testing.T) {
	ctx := typings("x:I y:[I] f:(I>I)")
	for _, e := range []impl.Term{
		{}, eNode(17), eNode(-1), eInt(-1), eInt(1000), eBool(2), eBool(-1), eVar(""), eVar("if"), eTable("D"), eOp("*", eInt(1), eInt(1)), eOp("!", eBool(1), eBool(1)), eOp("+", eInt(1)), eOp("+", eInt(1), eInt(1), eInt(1)), eOp("<"), eOp("", eInt(1)),
		eRec(""), eRec("a"), eRec("a b", x0), eRec("a", x0, x0), eRec("b a", x0, x0), eRec("a a", x0, x0), eRec("if", x0), eRec("a b c d e", x0, x0, x0, x0, x0), eProj(eRec("a", x0), "A"), eProj(eRec("a", x0), ""), eNode(impl.TeProj),
		eNode(impl.TeOne), eNode(impl.TeOne, x0, x0), eNode(impl.TeUnion, d0), eNode(impl.TeUnion, d0, d0, d0), eNode(impl.TeFor, d0, d0), eFor("if", d0, d0), eNode(impl.TeIf, eBool(1), x0), eNode(impl.TeIf, eBool(1), x0, x0, x0),
		eLam("", tInt, x0), eLam("if", tInt, x0), eNode(impl.TeLam, x0), eNode(impl.TeApp, eVar("f")), eNode(impl.TeApp, eVar("f"), x0, x0), eNode(impl.TeNone), eNode(impl.TeCount, d0, d0), eNode(impl.TeEmpty), eNode(impl.TeFor), eNode(impl.TeIf), eNode(impl.TeLam), eNode(impl.TeApp), eNode(impl.TeUnion), eNode(impl.TeCount),
		withN(x0, 1), withN(d0, 1), withName(eInt(1), "x"), withName(eOne(x0), "x"), withType(x0, tInt), withType(eOne(x0), tInt), withType(d0, bagOf(typeD)), withLabels(x0, "a"), withLabels(eCount(d0), "a"), eNode(impl.TeVar, x0), eNode(impl.TeTable, d0),
	} {
		for _, whole := range append(around(e), e, eCount(eOne(e)), eIf(eBool(1), eInt(1), e)) {
			if impl.IsValidTerm(whole) || checkTyping(t, three, ctx, whole) || impl.IsQuery(three, whole) {
				t.Errorf("%v has a type, or is valid", whole)
			}
		}
	}
	// One node, or one in depth, too many.
	for n := 1; n < 40; n++ {
		for i, e := range []impl.Term{eOne(eRec("a", sumOf(n))), eOne(eRec("a b", sumOf(n), eInt(1)))} {
			if nodesOfTerm(e) != 2*n+1+i {
				t.Fatal("size", nodesOfTerm(e))
			}
			if ok := checkTyping(t, three, nil, e); ok != (2*n+1+i <= 60) || impl.IsQuery(three, e) != ok {
				t.Errorf("of %d nodes: %v", nodesOfTerm(e), ok)
			}
		}
	}
	for n := range 30 {
		e := eOne(nestedTerm(n, eInt(1), func(e impl.Term) impl.Term { return eOp("+", e, eInt(1)) }))
		if ok := checkTyping(t, three, nil, e); ok != (n <= 14) || impl.IsQuery(three, e) != ok {
			t.Errorf("of the depth %d: %v", depthOfTerm(e), ok)
		}
	}
	for _, e := range termsOfEachKind() {
		for _, v := range termVariants(e) {
			checkTyping(t, three, ctx, v)
		}
	}
}

// sumOf returns a sum of n integers, of a small depth.
func sumOf(n int) impl.Term {
	if n == 1 {
		return eInt(1)
	}
	return eOp("+", sumOf(n/2), sumOf(n-n/2))
}

func TestIsQuery(t *testing.T) {
	for _, text := range []string{
		"[1]", "[:I]", "[#t]", "@d", "@e", "[[1]]", "[:[[I]]]", "[{a=1,b=[#t]}]", "(for x<-@d [x.n])", "(for x<-@d [{a=x.k,b=(for y<-@e [y.b])}])", "([1]++[2])", "(@d++@d)", "(if #t [1] [:I])", "((\\x:I.[x]) 3)", "((\\f:(I>B).[(f 1)]) (\\x:I.(x<2)))", "[(count @d)]", "[(empty @d)]", "{a=[1]}.a", "[((\\x:I.x) 1)]", "[[[[[[1]]]]]]", "((\\x:I.@d) 1)", "((if #t (\\x:I.[x]) (\\x:I.[:I])) 1)",
	} {
		e := readTerm(text)
		if !impl.IsQuery(three, e) {
			t.Errorf("%s is no query", text)
		}
		checkTyping(t, three, nil, e)
	}
	for _, text := range []string{
		"1", "#t", "{a=[1]}", "{a=1}", "(\\x:I.x)", "(\\x:I.[x])", "(\\x:I.@d)", "(count @d)", "(empty @d)", "(1+2)", "(if #t 1 2)", "((\\x:I.x) 1)", "((\\x:I.(\\y:I.[y])) 1)", "@d.k",
		"[(\\x:I.x)]", "[:(I>I)]", "[{a=(\\x:I.x)}]", "[[(\\x:I.x)]]", "(for x<-@d [(\\y:I.y)])", "([(\\x:I.x)]++[(\\x:I.x)])",
		"x", "[x]", "(for x<-@d [y])", "(for x<-x [1])", "(@d++x)", "((for x<-@d [x])++[x])", "((\\x:I.[y]) 1)",
		"@q", "(@d++@e)", "[(1+#t)]", "[[[[[[[1]]]]]]]", "(for x<-@d x)", "([1]++[#t])", "(for x<-@q [1])", "(if 1 [1] [2])", "[(count [(\\x:I.x)])]",
	} {
		e := readTerm(text)
		if impl.IsQuery(three, e) {
			t.Errorf("%s is a query", text)
		}
		checkTyping(t, three, nil, e)
	}
	// A table counts only where the schema has it.
	for _, name := range []string{"d", "e", "f", "g"} {
		e := eTable(name)
		for n := range 4 {
			if s := schemaOf(three.Tables[:n]...); impl.IsQuery(s, e) != (strings.Index("defg", name) < n) {
				t.Errorf("@%s and %d tables: IsQuery = %v", name, n, impl.IsQuery(s, e))
			}
		}
	}
	if !impl.IsQuery(impl.Schema{}, readTerm("[1]")) || impl.IsQuery(impl.Schema{}, impl.Term{}) || impl.IsQuery(three, impl.Term{}) {
		t.Error("without tables")
	}
}

func TestAllSmallTermsHaveTheirTypes(t *testing.T) {
	y := eVar("y")
	heads := []impl.Term{
		x0, y, eInt(1), eBool(1), d0, eTable("q"), eEmpty(tInt), eOp("+"), eOp("="), eOp("&"), eOp("!"), {Kind: impl.TeRec, Labels: []string{"a"}}, {Kind: impl.TeRec, Labels: []string{"a", "b"}},
		{Kind: impl.TeProj, Name: "a"}, {Kind: impl.TeProj, Name: "k"}, eNode(impl.TeOne), eNode(impl.TeUnion), {Kind: impl.TeFor, Name: "x"}, {Kind: impl.TeFor, Name: "y"}, eNode(impl.TeIf),
		{Kind: impl.TeLam, Name: "x", Type: tInt}, {Kind: impl.TeLam, Name: "y", Type: funOf(tInt, tInt)}, eNode(impl.TeApp), eNode(impl.TeNone), eNode(impl.TeCount),
	}
	fitting := func(args []impl.Term) []impl.Term {
		var terms []impl.Term
		for _, e := range heads {
			if e.Args = args; termNodeIsValid(e) {
				terms = append(terms, e)
			}
		}
		return terms
	}
	typed := map[int]int{}
	for i, e := range treesOver(5, fitting) {
		// Of the many terms of five nodes, some.
		if nodesOfTerm(e) == 5 && i%7 != 0 {
			continue
		}
		for _, ctx := range [][]impl.Typing{nil, typings("x:(I>I) y:{a:[I]}"), typings("y:I x:[I] y:B")} {
			if checkTyping(t, schemaOf(declare("d", typeD)), ctx, e) {
				typed[e.Kind]++
			}
		}
		if t.Failed() {
			return
		}
	}
	for k := impl.TeVar; k <= impl.TeCount; k++ {
		if typed[k] == 0 {
			t.Errorf("no term of the kind %d has a type", k)
		}
	}
}

// emptiedCtx has empty slices in place of nil ones; nilledCtx the other way round.

func emptiedCtx(ctx []impl.Typing) []impl.Typing {
	out := []impl.Typing{}
	for _, x := range ctx {
		out = append(out, typing(x.Name, emptied(x.Type)))
	}
	return out
}

func nilledCtx(ctx []impl.Typing) []impl.Typing {
	var out []impl.Typing
	for _, x := range ctx {
		out = append(out, typing(x.Name, nilledType(x.Type)))
	}
	return out
}

// typedLines are terms of all kinds that have a type in the schema three and the context ofLines.
var typedLines = []string{
	"x", "r", "f", "1", "#t", "(x+1)", "(!#t)", "{a=1,b=[#t]}", "{a=r,b=r}", "r.a", "r.b", "{a=r}.a", "[:{a:I,b:[B]}]", "[r]", "[[r]]", "([r]++[r])", "(for r<-[r] [r])", "(for x<-@d [x])", "(for x<-@d [{a=x.k,b=r}])", "(if #t r r)", "(if #f f f)", "@d", "@e",
	"(\\x:{a:I,b:[B]}.x)", "(\\x:(I>[B]).x)", "(\\x:I.r)", "(\\x:I.(\\y:[I].{a=x,b=y,c=r}))", "((\\x:{a:I,b:[B]}.x) r)", "((\\x:I.(\\y:{a:I,b:[B]}.{a=r,b=y})) 1)", "(f 1)", "(empty @d)", "(count [r])", "(for a<-@e (for b<-@e (for c<-[r] [{a=a,b=b,c=c}])))",
}

func ofLines() []impl.Typing { return typings("x:B x:I r:{a:I,b:[B]} f:(I>{c:[I],d:B})") }

func TestNilAndEmptySlicesOfTypings(t *testing.T) {
	for _, line := range append([]string{"y", "@q", "(x+#t)", "[f]", "{a=f}"}, typedLines...) {
		e := readTerm(line)
		for _, ctx := range [][]impl.Typing{emptiedCtx(ofLines()), nilledCtx(ofLines()), emptiedCtx(nil), nil} {
			for _, s := range []impl.Schema{emptiedSchema(three), nilledSchema(three), emptiedSchema(impl.Schema{}), {}} {
				first := checkTyping(t, s, ctx, emptiedTerm(e))
				second := checkTyping(t, s, ctx, nilledTerm(e))
				if first != second {
					t.Errorf("%s has a type: %v, %v", line, first, second)
				}
			}
		}
	}
	if !impl.IsCtx([]impl.Typing{}) || !impl.IsCtx(emptiedCtx(ofLines())) || !impl.IsCtx(nilledCtx(ofLines())) || impl.IsCtx(emptiedCtx([]impl.Typing{{}})) {
		t.Error("IsCtx")
	}
}

// ctxWithSpare returns ctx in new memory, with unused capacity in every slice.
func ctxWithSpare(ctx []impl.Typing) []impl.Typing {
	out := make([]impl.Typing, len(ctx), len(ctx)+20)
	for i, x := range ctx {
		out[i] = typing(x.Name, withSpare(x.Type))
	}
	for i := len(ctx); i < cap(out); i++ {
		out[:cap(out)][i].Name = spare
	}
	return out
}

// wholeCtx returns ctx with the unused capacity of its slices, all in new memory.
func wholeCtx(ctx []impl.Typing) []impl.Typing {
	var out []impl.Typing
	for _, x := range ctx[:cap(ctx)] {
		out = append(out, typing(x.Name, wholeType(x.Type)))
	}
	return out
}

func sameCtx(a, b []impl.Typing) bool {
	return slices.EqualFunc(a, b, func(x, y impl.Typing) bool { return x.Name == y.Name && sameType(x.Type, y.Type) })
}

func TestArgumentsOfTypingsAreKept(t *testing.T) {
	for _, line := range append([]string{"y", "@q", "(x+#t)", "[f]", "(for x<-@d [y])", "(for x<-@d (for y<-@e x))", "((\\x:I.y) 1)", "(\\x:I.[f])"}, typedLines...) {
		for _, whole := range []string{"", "[1]", "(for k<-@d (for x<-[k] [x]))"} {
			e := readTerm(line)
			if whole != "" {
				e = eIf(eBool(1), eOne(e), readTerm(whole))
			}
			s, ctx, arg := schemaWithSpare(three), ctxWithSpare(ofLines()), termWithSpare(e)
			schemaBefore, ctxBefore, argBefore := wholeSchema(s), wholeCtx(ctx), wholeTerm(arg)
			impl.IsCtx(ctx)
			impl.IsQuery(s, arg)
			want, _ := typeBySentences(three, ofLines(), e)
			first, _ := impl.TypeOf(s, ctx, arg)
			second, _ := impl.TypeOf(s, ctx, arg)
			overwrite(first)
			if !sameType(second, want) {
				t.Errorf("the type of %s became %v with another result", line, second)
			}
			if !sameSchema(wholeSchema(s), schemaBefore) || !sameCtx(wholeCtx(ctx), ctxBefore) || !sameTerm(wholeTerm(arg), argBefore) {
				t.Errorf("TypeOf of %s changed the memory of its arguments to %v, %v, %v", line, wholeSchema(s), wholeCtx(ctx), wholeTerm(arg))
			}
			overwriteSchema(s)
			overwriteTerm(arg)
			for i := range ctx {
				overwrite(ctx[i].Type)
				ctx[i] = impl.Typing{}
			}
			if !sameType(second, want) {
				t.Errorf("the type of %s became %v with the arguments", line, second)
			}
		}
	}
}

func TestSlicesOfATypeOfATermAreApart(t *testing.T) {
	shared := readType("{a:I,b:[B]}")
	ctx := []impl.Typing{typing("r", shared), typing("q", shared), typing("f", funOf(shared, shared))}
	r, f := eVar("r"), eVar("f")
	for i, e := range []impl.Term{eRec("a b", r, r), eRec("a b", r, eVar("q")), f, eLam("x", shared, x0), eLam("x", shared, r), eLam("x", tInt, eLam("y", shared, eRec("a b", r, eVar("y")))), eOne(eRec("a b", r, eOne(eVar("q")))), eLam("x", shared, eApp(f, x0))} {
		want, _ := typeBySentences(three, ctx, e)
		got, ok := impl.TypeOf(three, ctx, e)
		if !ok || !sameType(got, want) {
			t.Fatalf("term %d has the type %v, %v", i, got, ok)
		}
		checkApart(t, got, func() impl.Type { x, _ := impl.TypeOf(three, ctx, e); return x })
	}
}

// checkApart checks that no two slices of a result share memory: whatever becomes of one Args, the type of a following one stays.
func checkApart(t *testing.T, want impl.Type, result func() impl.Type) {
	t.Helper()
	var places func(x impl.Type, path []int) [][]int
	places = func(x impl.Type, path []int) [][]int {
		list := [][]int{path}
		for i, a := range x.Args {
			list = append(list, places(a, append(slices.Clone(path), i))...)
		}
		return list
	}
	for _, path := range places(want, nil) {
		got := result()
		part, old := &got, &want
		for _, i := range path {
			part, old = &part.Args[i], &old.Args[i]
		}
		overwrite(*part)
		*part = *old
		if !sameType(got, want) {
			t.Errorf("the type %v became %v when the part %v was overwritten", want, got, path)
		}
	}
}

func TestTypingsBeyondAllLimits(t *testing.T) {
	within := []impl.Type{{Kind: impl.TyBag}}
	within[0].Args = within
	doubled := nestedType(200, tInt, func(x impl.Type) impl.Type { return recOf("a b", x, x) })
	for i, x := range []impl.Type{within[0], doubled, recOf("a b", tInt, doubled), nestedType(200000, tInt, bagOf), node(impl.TyRec, nil, make([]impl.Type, 100000)...)} {
		ctx := []impl.Typing{typing("x", x)}
		_, first := impl.TypeOf(three, ctx, eInt(1))
		_, second := impl.TypeOf(three, nil, eEmpty(x))
		_, third := impl.TypeOf(three, nil, eLam("x", x, eInt(1)))
		_, fourth := impl.TypeOf(schemaOf(declare("d", x)), nil, eInt(1))
		if impl.IsCtx(ctx) || first || second || third || fourth || impl.IsQuery(three, eEmpty(x)) || impl.IsQuery(schemaOf(declare("d", x)), eOne(eInt(1))) {
			t.Errorf("type %d is taken", i)
		}
	}
	in := []impl.Term{{Kind: impl.TeOne}}
	in[0].Args = in
	for i, e := range []impl.Term{in[0], nestedTerm(200, d0, func(e impl.Term) impl.Term { return eUnion(e, e) }), eNode(impl.TeRec, make([]impl.Term, 100000)...)} {
		if _, ok := impl.TypeOf(three, nil, e); ok || impl.IsQuery(three, e) {
			t.Errorf("term %d has a type", i)
		}
	}
}

func TestDeepTypingsNeedNoStack(t *testing.T) {
	defer debug.SetMaxStack(debug.SetMaxStack(1 << 20))
	const n = 200000
	x := nestedType(n, tInt, bagOf)
	for i, e := range []impl.Term{nestedTerm(n, eInt(1), eOne), nestedTerm(n, d0, func(e impl.Term) impl.Term { return eUnion(e, d0) }), nestedTerm(n, d0, func(e impl.Term) impl.Term { return eFor("x", d0, e) }), eEmpty(x), eLam("x", x, x0)} {
		if _, ok := impl.TypeOf(three, nil, e); ok || impl.IsQuery(three, e) {
			t.Errorf("term %d has a type", i)
		}
	}
	if impl.IsCtx([]impl.Typing{typing("x", x)}) {
		t.Error("IsCtx")
	}
	if _, ok := impl.TypeOf(schemaOf(declare("d", x)), nil, d0); ok {
		t.Error("schema")
	}
}
