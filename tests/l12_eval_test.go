package tests

import (
	"fmt"
	"math"
	"math/rand/v2"
	"reflect"
	"slices"
	"strings"
	"testing"

	"loop.example/g00587/impl"
)

// Two tables of a firm, departments d and employees e, and their rows.
var (
	firm   = schemaOf(declare("d", readType("{k:I,n:I}")), declare("e", readType("{b:B,k:I,s:I}")))
	firmDB = dbOf(dataOf("d", readValues("[{k=1,n=10},{k=2,n=20},{k=3,n=30}]")...), dataOf("e", readValues("[{b=#t,k=1,s=5},{b=#f,k=1,s=7},{b=#t,k=2,s=5}]")...))
)

func readValues(text string) []impl.Value {
	v, ok := impl.ParseValue(text)
	if !ok {
		panic("no value: " + text)
	}
	return v.Args
}

// The following are the sentences of the document, without scopes: what a name stands for is put in its place.

// A result is a value or, if function is not nil, a function.
type result struct {
	value    impl.Value
	function *impl.Term
}

// kindKnown is the kind of a node that stands for known[N].
const kindKnown = 100

type replacer struct {
	db    impl.DB
	known []result
	work  int
}

// beyond is what a replacer panics with where a limit is exceeded.
type beyond struct{}

func evalBySentences(s impl.Schema, db impl.DB, e impl.Term) (v impl.Value, work int, ok bool) {
	x, typed := typeBySentences(s, nil, e)
	if !typed || nodesOfKind(x, impl.TyFun) > 0 || !dbBySentences(s, db) {
		return impl.Value{}, -1, false
	}
	defer func() {
		if r := recover(); r == (beyond{}) {
			v, work, ok = impl.Value{}, -1, false
		} else if r != nil {
			panic(r)
		}
	}()
	m := replacer{db: db}
	v = m.eval(e).value
	if nodesUpTo(v, 2000) > 2000 {
		panic(beyond{})
	}
	return v, m.work, true
}

// nodesUpTo counts no more nodes than one beyond max.
func nodesUpTo(v impl.Value, max int) int {
	n := 1
	for _, a := range v.Args {
		if n > max {
			break
		}
		n += nodesUpTo(a, max-n)
	}
	return n
}

func (m *replacer) eval(e impl.Term) result {
	m.work++
	if m.work > 60000 {
		panic(beyond{})
	}
	switch e.Kind {
	case kindKnown:
		return m.known[e.N]
	case impl.TeLam:
		return result{function: &e}
	case impl.TeApp:
		function, arg := m.eval(e.Args[0]).function, m.eval(e.Args[1])
		return m.eval(m.put(function.Args[0], function.Name, arg))
	case impl.TeIf:
		if sameValue(m.eval(e.Args[0]).value, vBool(1)) {
			return m.eval(e.Args[1])
		}
		return m.eval(e.Args[2])
	case impl.TeFor:
		var list []impl.Value
		for _, x := range m.eval(e.Args[0]).value.Args {
			list = append(list, m.eval(m.put(e.Args[1], e.Name, result{value: x})).value.Args...)
			bagUpToLimit(list)
		}
		return result{value: bagUpToLimit(list)}
	}
	var parts []impl.Value
	for _, a := range e.Args {
		parts = append(parts, m.eval(a).value)
	}
	return result{value: m.form(e, parts)}
}

// put puts a result in the place of a name where it is free.
func (m *replacer) put(e impl.Term, name string, by result) impl.Term {
	m.known = append(m.known, by)
	return putKnown(e, name, impl.Term{Kind: kindKnown, N: len(m.known) - 1})
}

func putKnown(e impl.Term, name string, known impl.Term) impl.Term {
	if e.Kind == impl.TeVar && e.Name == name {
		return known
	}
	args := slices.Clone(e.Args)
	for i, a := range args {
		if !bindsIn(e, i) || e.Name != name {
			args[i] = putKnown(a, name, known)
		}
	}
	e.Args = args
	return e
}

func bagUpToLimit(list []impl.Value) impl.Value {
	if len(list) > 2000 {
		panic(beyond{})
	}
	return vBag(list...)
}

// form is for the forms all of whose parts are evaluated.
func (m *replacer) form(e impl.Term, parts []impl.Value) impl.Value {
	switch e.Kind {
	case impl.TeInt:
		return vInt(e.N)
	case impl.TeBool:
		return vBool(e.N)
	case impl.TeOp:
		return operate(e.Name, parts)
	case impl.TeRec:
		return vRec(strings.Join(e.Labels, " "), parts...)
	case impl.TeProj:
		for i, label := range parts[0].Labels {
			if label == e.Name {
				return parts[0].Args[i]
			}
		}
	case impl.TeEmpty:
		return vBag()
	case impl.TeOne:
		return vBag(parts[0])
	case impl.TeUnion:
		return bagUpToLimit(slices.Concat(parts[0].Args, parts[1].Args))
	case impl.TeTable:
		return vBag(m.db.Tables[placeOf(m.db, e.Name)].Rows...)
	case impl.TeNone:
		return vTruth(len(parts[0].Args) == 0)
	case impl.TeCount:
		return vInt(len(parts[0].Args))
	}
	panic("no form of a term")
}

func vTruth(holds bool) impl.Value { return vBool(map[bool]int{true: 1}[holds]) }

func operate(op string, parts []impl.Value) impl.Value {
	a, b := parts[0].N, parts[len(parts)-1].N
	return map[string]impl.Value{
		"+": vInt(int(uint(a) + uint(b))), "-": vInt(int(uint(a) - uint(b))), "=": vTruth(a == b), "<": vTruth(a < b), "&": vTruth(a+b == 2), "|": vTruth(a+b > 0), "!": vBool(1 - a),
	}[op]
}

// checkEval compares the value of a term with the sentences above, and says whether there is one.
func checkEval(t *testing.T, s impl.Schema, db impl.DB, e impl.Term) (impl.Value, bool) {
	t.Helper()
	want, wantWork, wantOK := evalBySentences(s, db, e)
	got, ok := impl.EvalTerm(s, db, e)
	if ok != wantOK || !sameValue(got, want) {
		t.Errorf("%s has the value %.1000v, %v, want %.1000v, %v", impl.FormatTerm(e), got, ok, want, wantOK)
	}
	if work := impl.EvalWork(s, db, e); work != wantWork {
		t.Errorf("EvalWork of %s is %d, want %d", impl.FormatTerm(e), work, wantWork)
	}
	x, _ := impl.TypeOf(s, nil, e)
	switch {
	case ok && !impl.HasType(got, x):
		t.Errorf("%s has the type %s and the value %.1000v", impl.FormatTerm(e), impl.FormatType(x), got)
	case !ok && !reflect.DeepEqual(got, impl.Value{}):
		t.Errorf("%s has the value %.1000v and false", impl.FormatTerm(e), got)
	}
	return got, ok
}

// checkEvalIn reads lines such as "(1+2) = 3 in 3", of a term, its value and the number of nodes that are evaluated.
func checkEvalIn(t *testing.T, s impl.Schema, db impl.DB, lines ...string) {
	t.Helper()
	for _, line := range lines {
		term, rest, _ := strings.Cut(line, " = ")
		want, work, _ := strings.Cut(rest, " in ")
		got, ok := checkEval(t, s, db, readTerm(term))
		if !ok || impl.FormatValue(got) != want {
			t.Errorf("%s has the value %s, %v", line, impl.FormatValue(got), ok)
		}
		if got := impl.EvalWork(s, db, readTerm(term)); impl.FormatInt(got) != work {
			t.Errorf("%s needs %d nodes", line, got)
		}
	}
}

func checkEvals(t *testing.T, lines ...string) {
	t.Helper()
	checkEvalIn(t, firm, firmDB, lines...)
}

// checkNoEval checks that terms have no value.
func checkNoEval(t *testing.T, s impl.Schema, db impl.DB, list ...impl.Term) {
	t.Helper()
	for _, e := range list {
		if v, ok := checkEval(t, s, db, e); ok || impl.EvalWork(s, db, e) != -1 {
			t.Errorf("%s has the value %.1000v", impl.FormatTerm(e), v)
		}
	}
}

func checkNoEvals(t *testing.T, terms ...string) {
	t.Helper()
	for _, term := range terms {
		checkNoEval(t, firm, firmDB, readTerm(term))
	}
}

func TestMaxWork(t *testing.T) {
	if impl.MaxWork != 60000 {
		t.Error("MaxWork")
	}
}

func TestValuesOfEachForm(t *testing.T) {
	checkEvals(t,
		"0 = 0 in 1", "7 = 7 in 1", "999 = 999 in 1", "#t = #t in 1", "#f = #f in 1",
		"{a=1} = {a=1} in 2", "{a=1,b=#t} = {a=1,b=#t} in 3", "{a=[2],b={a=#f,c=3},c=4,d=#t} = {a=[2],b={a=#f,c=3},c=4,d=#t} in 8",
		"{a=1}.a = 1 in 3", "{a=1,b=#t}.a = 1 in 4", "{a=1,b=#t}.b = #t in 4", "{a={b=1,c=2},b=3}.a.c = 2 in 7", "{a=1,b=2,c=3,d=4}.c = 3 in 6", "{a=[1],b=[2]}.b = [2] in 6",
		"[:I] = [] in 1", "[:{a:I,b:[B]}] = [] in 1", "[5] = [5] in 2", "[[5]] = [[5]] in 3", "[[:I]] = [[]] in 2", "[{a=#t}] = [{a=#t}] in 3",
		"([1]++[2]) = [1,2] in 5", "([1]++[:I]) = [1] in 4", "([:I]++[2]) = [2] in 4", "([:I]++[:I]) = [] in 3",
		"(for x<-[1] [x]) = [1] in 5", "(for x<-([1]++[2]) [(x+x)]) = [2,4] in 14", "(for x<-[:I] [x]) = [] in 2", "(for x<-[1] [:I]) = [] in 4", "(for x<-[1] @d) = [{k=1,n=10},{k=2,n=20},{k=3,n=30}] in 4", "(for x<-@d [x.n]) = [10,20,30] in 11",
		"(if #t 1 2) = 1 in 3", "(if #f 1 2) = 2 in 3", "(if (1<2) [1] [:I]) = [1] in 6", "(if (2<1) [1] [:I]) = [] in 5", "(if #f {a=1} {a=2}) = {a=2} in 4", "(if (if #t #f #t) 1 2) = 2 in 5", "((if #f (\\x:I.x) (\\x:I.(x+1))) 5) = 6 in 8",
		"@d = [{k=1,n=10},{k=2,n=20},{k=3,n=30}] in 1", "@e = [{b=#t,k=1,s=5},{b=#f,k=1,s=7},{b=#t,k=2,s=5}] in 1", "[@d] = [[{k=1,n=10},{k=2,n=20},{k=3,n=30}]] in 2",
		"((\\x:I.x) 1) = 1 in 4", "((\\x:I.2) 1) = 2 in 4", "((\\x:[I].(x++x)) [1]) = [1,1] in 7",
		"(empty [:I]) = #t in 2", "(empty [1]) = #f in 3", "(empty @d) = #f in 2", "(empty (for x<-@d [:I])) = #t in 6", "(count [:I]) = 0 in 2", "(count [1]) = 1 in 3", "(count @e) = 3 in 2", "(count ([1]++([2]++[1]))) = 3 in 9", "(count [@d]) = 1 in 3",
	)
	checkEvalIn(t, firm, impl.EmptyDB(firm), "@d = [] in 1", "(for x<-@d [x.n]) = [] in 2", "(count (@d++@d)) = 0 in 4", "(empty @e) = #t in 2", "{a=@d,b=[@e]} = {a=[],b=[[]]} in 4")
	checkEvalIn(t, impl.Schema{}, impl.DB{}, "[1] = [1] in 2", "(for x<-[1] [x]) = [1] in 5")
}

func TestQueriesOfTheDocument(t *testing.T) {
	checkEvals(t,
		"(for x<-@d (for y<-@e (if (x.k=y.k) [{a=x.n,b=y.s}] [:{a:I,b:I}]))) = [{a=10,b=5},{a=10,b=7},{a=20,b=5}] in 86",
		"(for x<-@d [{a=x.n,b=(for y<-@e (if (y.k=x.k) [y.s] [:I]))}]) = [{a=10,b=[5,7]},{a=20,b=[5]},{a=30,b=[]}] in 89",
		"(for x<-@d (if (empty (for y<-@e (if (y.k=x.k) [y.s] [:I]))) [x.n] [:I])) = [30] in 88",
		"((\\f:(I>[I]).(for x<-@d (f x.k))) (\\n:I.([n]++[(n+1)]))) = [1,2,2,3,3,4] in 38",
		"(for x<-@d [{a=(count (for y<-@e (if (y.k=x.k) [y.s] [:I]))),b=x.k}]) = [{a=2,b=1},{a=1,b=2},{a=0,b=3}] in 92",
		"(for x<-@d (for y<-@d (if (x.k=y.k) [(x.n+y.n)] [:I]))) = [20,40,60] in 86",
	)
}

func TestOperationsOnIntegers(t *testing.T) {
	checkEvals(t, "(1+2) = 3 in 3", "(2-5) = -3 in 3", "(0-999) = -999 in 3", "(5-2) = 3 in 3", "(1=1) = #t in 3", "(1=2) = #f in 3", "(1<2) = #t in 3", "(2<1) = #f in 3", "(1<1) = #f in 3", "((0-1)<0) = #t in 5", "(0<(0-1)) = #f in 5", "((1+2)-(3-4)) = 4 in 7", "(((1-2)-3)-4) = -8 in 7", "(1-(2-(3-4))) = -2 in 7")
	numbers := []int{0, 1, -1, 2, -2, 999, 1 << 32, -1 << 32, 1<<62 + 3, math.MaxInt - 1, math.MaxInt, math.MinInt + 1, math.MinInt}
	s := schemaOf(declare("d", typeD))
	for _, a := range numbers {
		for _, b := range numbers {
			db := dbOf(dataOf("d", rowD(a, b)))
			for op, want := range map[string]impl.Value{"+": vInt(int(uint(a) + uint(b))), "-": vInt(int(uint(a) - uint(b))), "=": vTruth(a == b), "<": vTruth(a < b)} {
				got, ok := checkEval(t, s, db, readTerm("(for x<-@d [(x.k"+op+"x.n)])"))
				if !ok || !sameValue(got, vBag(want)) {
					t.Errorf("%d%s%d = %v", a, op, b, got)
				}
			}
		}
	}
	// Around both ends, and more than once.
	db := dbOf(dataOf("d", rowD(math.MaxInt, math.MinInt)))
	checkEvalIn(t, s, db, "(for x<-@d [(x.k+1)]) = [-9223372036854775808] in 7", "(for x<-@d [(x.n-1)]) = [9223372036854775807] in 7", "(for x<-@d [(x.k+x.k)]) = [-2] in 8", "(for x<-@d [(x.n+x.n)]) = [0] in 8", "(for x<-@d [(x.n-x.k)]) = [1] in 8", "(for x<-@d [(0-x.n)]) = [-9223372036854775808] in 7", "(for x<-@d [((x.k+x.k)+2)]) = [0] in 10", "(for x<-@d [((x.k+1)<x.k)]) = [#t] in 10", "(for x<-@d [(x.n<x.k)]) = [#t] in 8", "(for x<-@d [((x.k+1)=x.n)]) = [#t] in 10")
}

func TestOperationsOnBooleans(t *testing.T) {
	checkEvals(t,
		"(#t&#t) = #t in 3", "(#t&#f) = #f in 3", "(#f&#t) = #f in 3", "(#f&#f) = #f in 3", "(#t|#t) = #t in 3", "(#t|#f) = #t in 3", "(#f|#t) = #t in 3", "(#f|#f) = #f in 3", "(!#t) = #f in 2", "(!#f) = #t in 2", "(!(!#t)) = #t in 3",
		// Both are evaluated, whatever the first one is.
		"(#f&(1<2)) = #f in 5", "(#t|(1<2)) = #t in 5", "((1<2)|(3<2)) = #t in 7", "((2<1)&(empty @d)) = #f in 6", "(#t&((1=1)|(!#t))) = #t in 8", "(for x<-@e [(x.b&(x.s<6))]) = [#t,#f,#t] in 26", "(for x<-@e [(x.b|(!x.b))]) = [#t,#t,#t] in 23")
	for _, op := range []string{"&", "|"} {
		for _, first := range []int{0, 1} {
			for _, other := range []impl.Term{eNone(loops(13, eInt(1))), eNone(bagOfSize(2001))} {
				checkNoEval(t, four, fourDB, eOp(op, eBool(first), other), eOp(op, other, eBool(first)), eIf(eOp(op, eBool(first), other), eInt(1), eInt(2)))
			}
		}
	}
}

func TestOrderOfElements(t *testing.T) {
	checkEvals(t,
		"([2]++[1]) = [2,1] in 5", "(([3]++[1])++([2]++[1])) = [3,1,2,1] in 11", "([3]++([1]++([2]++[1]))) = [3,1,2,1] in 11", "((([3]++[1])++[2])++[1]) = [3,1,2,1] in 11", "([#t]++([#f]++[#t])) = [#t,#f,#t] in 8",
		"(for x<-([3]++([1]++[2])) [x]) = [3,1,2] in 15", "(for x<-([3]++[1]) ([x]++[(x+5)])) = [3,8,1,6] in 20", "(for x<-([2]++[1]) (for y<-([4]++[3]) [{a=x,b=y}])) = [{a=2,b=4},{a=2,b=3},{a=1,b=4},{a=1,b=3}] in 34",
		"(for x<-(for y<-([2]++[1]) ([y]++[(y+5)])) ([x]++[0])) = [2,0,7,0,1,0,6,0] in 41", "(for x<-([2]++[0]) (if (x=0) [9] [:I])) = [9] in 17", "(for x<-([([3]++[2])]++[[1]]) x) = [3,2,1] in 13",
		"(@e++@e) = [{b=#t,k=1,s=5},{b=#f,k=1,s=7},{b=#t,k=2,s=5},{b=#t,k=1,s=5},{b=#f,k=1,s=7},{b=#t,k=2,s=5}] in 3", "(for x<-@e [x.s]) = [5,7,5] in 11", "(for x<-@e (for y<-@d [(x.s+y.n)])) = [15,25,35,17,27,37,15,25,35] in 62", "(for x<-@e (if x.b [x.k] [(0-x.k)])) = [1,-1,2] in 22",
		"(for x<-@d [(for y<-@e (if (y.k<x.k) [y.s] [:I]))]) = [[],[5,7],[5,7,5]] in 84", "(for x<-[@d] (for y<-x [y.k])) = [1,2,3] in 14")
	for _, order := range orders([]impl.Value{rowD(1, 1), rowD(2, 1), rowD(1, 2), rowD(1, 1)}) {
		db := dbOf(dataOf("d", order...))
		got, ok := checkEval(t, schemaOf(declare("d", typeD)), db, d0)
		if !ok || !sameRows(got.Args, order) {
			t.Errorf("the rows %v are listed as %v", order, got)
		}
		checkEval(t, schemaOf(declare("d", typeD)), db, readTerm("(for x<-@d (for y<-@d (if (x.k=y.k) ([(x.n+y.k)]++[y.n]) [:I])))"))
	}
}

func TestNamesThatStandForSomethingElse(t *testing.T) {
	checkEvals(t,
		// Inside, the name that was bound last counts; outside, the old one.
		"(for x<-[1] (for x<-[2] [x])) = [2] in 8", "(for x<-[1] (for x<-[(x+1)] [(x+5)])) = [7] in 12", "(for x<-[1] ((for x<-[2] [x])++[x])) = [2,1] in 11", "(for x<-[1] ([x]++(for x<-[2] [x]))) = [1,2] in 11", "(for x<-[1] (for y<-[2] [{a=x,b=y}])) = [{a=1,b=2}] in 10", "(for x<-[1] (for y<-[2] (for x<-[3] [{a=x,b=y}]))) = [{a=3,b=2}] in 13",
		"((\\x:I.((\\x:I.(x+1)) (x+5))) 1) = 7 in 11", "((\\x:I.(((\\x:I.x) 2)+x)) 1) = 3 in 9", "((\\x:I.(x+((\\x:I.x) 2))) 1) = 3 in 9", "(((\\x:I.(\\x:B.x)) 1) #f) = #f in 7", "(((\\x:I.(\\y:B.x)) 1) #f) = 1 in 7",
		"(for x<-@d (for x<-[x.k] [(x+1)])) = [2,3,4] in 26", "(for x<-@d ((for x<-[x.n] [x])++[x.k])) = [10,1,20,2,30,3] in 32", "(for x<-([1]++[2]) {a=((\\x:B.[9]) #t),b=[x]}.a) = [9,9] in 24", "(for x<-[[1]] (for x<-x [x])) = [1] in 8",
		// The bag of a "for" and an argument stand outside.
		"(for x<-[5] (for x<-([x]++[(x+1)]) [(x+x)])) = [10,12] in 19", "((\\x:I.((\\x:I.(x-1)) (x+x))) 4) = 7 in 11", "(for x<-[1] ((\\x:[I].(x++x)) [x])) = [1,1] in 10",
		// A table has no part in it.
		"(for d<-@d [d.k]) = [1,2,3] in 11", "(for d<-@d (for e<-@e (if (d.k=e.k) [e.s] [:I]))) = [5,7,5] in 77", "((\\d:I.(d+(count @d))) 5) = 8 in 7")
}

func TestValuesOfFunctions(t *testing.T) {
	checkEvals(t,
		"((\\f:(I>I).(f (f 3))) (\\x:I.(x+1))) = 5 in 14", "((\\f:(I>I).(f 1)) (\\x:I.x)) = 1 in 7", "((\\f:(I>I).((f 1)+(f 2))) (\\x:I.(x+x))) = 6 in 16",
		// Returned.
		"(((\\x:I.(\\y:I.(x-y))) 5) 3) = 2 in 9", "((\\f:(I>(I>I)).((f 5) 3)) (\\x:I.(\\y:I.(y-x)))) = -2 in 12", "(((\\f:(I>I).(\\x:I.(f (f x)))) (\\y:I.(y+y))) 3) = 12 in 17", "(((\\f:(I>I).f) (\\x:I.(x+1))) 1) = 2 in 9",
		// A function is made as often as the term around it is evaluated, each with its own variables.
		"(for x<-([1]++[2]) ((\\f:(I>[I]).(f 5)) (\\y:I.[(x+y)]))) = [6,7] in 26", "((\\f:(I>(I>I)).((\\g:(I>I).((\\h:(I>I).((g 1)+(h 1))) (f 7))) (f 5))) (\\x:I.(\\y:I.(x+y)))) = 14 in 28",
		// Where it is applied, a name of the variable that it uses is bound anew.
		"((\\x:I.((\\f:(I>I).((\\x:I.(f x)) 100)) (\\y:I.(x+y)))) 1) = 101 in 15", "((\\x:I.((\\f:(I>I).((\\x:I.(f 0)) 100)) (\\y:I.x))) 1) = 1 in 13", "(for x<-[1] ((\\f:(I>[I]).(for x<-[7] (f 5))) (\\y:I.[x]))) = [1] in 14", "((\\f:(I>I).((\\x:I.(f 5)) 1)) (\\x:I.x)) = 5 in 10", "((\\x:(I>I).(x ((\\y:(I>I).(y 3)) x))) (\\x:I.(x+1))) = 5 in 17",
		"(for x<-[1] (((\\f:(I>[I]).(\\x:I.(f x))) (\\y:I.([x]++[y]))) 9)) = [1,9] in 17",
		// Functions of functions.
		"((\\h:((I>I)>I).(h (\\x:I.(x+1)))) (\\f:(I>I).(f (f 0)))) = 2 in 17", "(((\\h:((I>I)>(I>I)).(h (h (\\x:I.(x+1))))) (\\f:(I>I).(\\x:I.(f (f x))))) 0) = 4 in 39", "((\\p:({a:I,b:I}>I).(p {a=5,b=2})) (\\r:{a:I,b:I}.(r.a-r.b))) = 3 in 13",
		// Chosen.
		"((\\f:(B>(I>I)).(((f #t) 1)+((f #f) 1))) (\\c:B.(if c (\\x:I.(x+5)) (\\x:I.(x-5))))) = 2 in 26", "(for x<-@e ((if x.b (\\y:I.[y]) (\\y:I.[(0-y)])) x.s)) = [5,-7,5] in 31", "(((if #t (\\x:I.(\\y:I.x)) (\\x:I.(\\y:I.y))) 1) 2) = 1 in 9",
		// Of bags.
		"((\\f:([I]>I).((f [:I])+(f ([1]++[2])))) (\\x:[I].(count x))) = 2 in 18", "(((\\x:[{k:I,n:I}].(\\f:({k:I,n:I}>B).(for r<-x (if (f r) [r.n] [:I])))) @d) (\\r:{k:I,n:I}.(r.k<3))) = [10,20] in 39")
	// Many functions, each within the other: a sum of four to the power of six ones.
	e := tower(6)
	if got, ok := checkEval(t, impl.Schema{}, impl.DB{}, e); !ok || !sameValue(got, vInt(4096+5)) {
		t.Errorf("%s has the value %v, %v", impl.FormatTerm(e), got, ok)
	}
	checkNoEval(t, impl.Schema{}, impl.DB{}, tower(7))
}

// tower adds one to five as often as four to the power of n says.
func tower(n int) impl.Term {
	return readTerm("((\\t:(((I>I)>(I>I))>((I>I)>(I>I))).((" + strings.Repeat("(t ", n) + "(\\f:(I>I).(\\x:I.(f (x+1))))" + strings.Repeat(")", n) + " (\\x:I.x)) 5)) (\\f:((I>I)>(I>I)).(\\g:(I>I).(f (f (f (f g)))))))")
}

// Tables of 8, 7, 5 and 3 rows.
var (
	four   = schemaOf(declare("a8", typeF), declare("b7", typeF), declare("c5", typeF), declare("d3", typeF))
	fourDB = dbOf(dataOf("a8", rowsF(8)...), dataOf("b7", rowsF(7)...), dataOf("c5", rowsF(5)...), dataOf("d3", rowsF(3)...))
)

// divide returns a table of four whose number of rows divides n, and the quotient.
func divide(n int) (table impl.Term, quotient int, ok bool) {
	for _, data := range fourDB.Tables {
		if n > 0 && n%len(data.Rows) == 0 {
			return eTable(data.Name), n / len(data.Rows), true
		}
	}
	return impl.Term{}, 0, false
}

// termOfWork returns the term of an empty bag for which n nodes are evaluated.
func termOfWork(n int) impl.Term {
	none := eEmpty(tInt)
	switch n {
	case 1:
		return none
	case 2:
		return eFor("x", none, none)
	}
	for beside := range n - 2 {
		table, each, ok := divide(n - 2 - beside)
		switch {
		case ok && beside == 0:
			return eFor("x", table, termOfWork(each))
		case ok && beside > 1:
			return eUnion(termOfWork(beside-1), termOfWork(n-beside))
		}
	}
	return eUnion(none, termOfWork(n-2))
}

// bagOfSize returns the term of a bag of n integers.
func bagOfSize(n int) impl.Term {
	switch n {
	case 0:
		return eEmpty(tInt)
	case 1:
		return eOne(eInt(1))
	}
	for beside := range n {
		table, each, ok := divide(n - beside)
		switch {
		case ok && beside == 0:
			return eFor("x", table, bagOfSize(each))
		case ok:
			return eUnion(bagOfSize(beside), bagOfSize(n-beside))
		}
	}
	return eUnion(eOne(eInt(1)), bagOfSize(n-1))
}

// loops returns n loops over eight rows, one in the other, around the bag of e.
func loops(n int, e impl.Term) impl.Term {
	return nestedTerm(n, eOne(e), func(e impl.Term) impl.Term { return eFor("x", eTable("a8"), e) })
}

// checkWork checks a term for which n nodes would have to be evaluated.
func checkWork(t *testing.T, e impl.Term, n int) {
	t.Helper()
	want := n
	if n > 60000 {
		want = -1
	}
	_, ok := impl.EvalTerm(four, fourDB, e)
	if n < 1000 {
		_, ok = checkEval(t, four, fourDB, e)
	}
	if ok != (n <= 60000) || impl.EvalWork(four, fourDB, e) != want || !impl.IsValidTerm(e) {
		t.Errorf("%v: %d nodes are evaluated, want %d: %s", ok, impl.EvalWork(four, fourDB, e), want, impl.FormatTerm(e))
	}
}

// A form puts a bag of integers into a term for which as many nodes more are evaluated.
type form struct {
	more int
	put  func(e impl.Term) impl.Term
}

// formsAround evaluate the bag once, whether they use it or not.
func formsAround() []form {
	one, none := eInt(1), eEmpty(tInt)
	return []form{
		{1, eNone}, {1, eCount}, {1, eOne}, {2, func(e impl.Term) impl.Term { return eUnion(e, none) }}, {2, func(e impl.Term) impl.Term { return eUnion(none, e) }},
		{1, func(e impl.Term) impl.Term { return eRec("a", e) }}, {3, func(e impl.Term) impl.Term { return eProj(eRec("a b", e, one), "b") }}, {3, func(e impl.Term) impl.Term { return eProj(eRec("a b", one, e), "b") }},
		{3, func(e impl.Term) impl.Term { return eOp("+", eCount(e), one) }}, {3, func(e impl.Term) impl.Term { return eOp("<", one, eCount(e)) }}, {3, func(e impl.Term) impl.Term { return eOp("&", eBool(0), eNone(e)) }}, {3, func(e impl.Term) impl.Term { return eOp("|", eBool(1), eNone(e)) }}, {2, func(e impl.Term) impl.Term { return eOp("!", eNone(e)) }},
		{2, func(e impl.Term) impl.Term { return eIf(eBool(1), e, none) }}, {2, func(e impl.Term) impl.Term { return eIf(eBool(0), none, e) }}, {4, func(e impl.Term) impl.Term { return eIf(eOp("!", eNone(e)), one, one) }},
		{3, func(e impl.Term) impl.Term { return eFor("y", eOne(one), e) }}, {2, func(e impl.Term) impl.Term { return eFor("y", eFor("z", e, none), none) }},
		{3, func(e impl.Term) impl.Term { return eApp(eLam("y", tInt, e), one) }}, {3, func(e impl.Term) impl.Term { return eApp(eLam("y", bagOf(tInt), one), e) }}, {4, func(e impl.Term) impl.Term { return eApp(eLam("y", bagOf(tInt), eOne(eVar("y"))), e) }},
	}
}

func TestTheGreatestWork(t *testing.T) {
	for n := 1; n < 400; n++ {
		checkWork(t, termOfWork(n), n)
	}
	for n := 59990; n <= 60010; n++ {
		checkWork(t, termOfWork(n), n)
	}
	for _, n := range []int{65535, 65536, 65537, 99999, 100000, 123456, 1 << 20} {
		checkWork(t, termOfWork(n), n)
	}
	for _, form := range formsAround() {
		for _, n := range []int{100, 59999, 60000, 60001} {
			checkWork(t, form.put(termOfWork(n-form.more)), n)
		}
	}
}

func TestFarMoreWorkThanAllowed(t *testing.T) {
	for n := range 13 {
		if _, ok := checkEval(t, four, fourDB, eNone(loops(n, eInt(1)))); ok != (n <= 3) {
			t.Errorf("%d loops: %v", n, ok)
		}
		// Here, it is not a bag that becomes too large.
		e := nestedTerm(n, eEmpty(tInt), func(e impl.Term) impl.Term { return eFor("x", eTable("a8"), e) })
		if _, ok := checkEval(t, four, fourDB, e); ok != (n <= 5) {
			t.Errorf("%d loops of nothing: %v", n, ok)
		}
	}
	for n := range 8 {
		if _, ok := checkEval(t, four, fourDB, tower(n)); ok != (n <= 6) {
			t.Errorf("a tower of %d: %v", n, ok)
		}
	}
}

// costly are bags of integers that exceed one of the limits.
func costly() []impl.Term {
	y := eVar("y")
	return []impl.Term{
		termOfWork(60002), loops(9, eInt(1)), bagOfSize(2001), bagOfSize(5000), eUnion(bagOfSize(1001), bagOfSize(1000)), eUnion(bagOfSize(2000), eOne(eInt(1))), eUnion(eOne(eInt(1)), bagOfSize(2000)),
		eFor("y", bagOfSize(1001), eUnion(eOne(y), eOne(y))), eFor("y", eTable("d3"), bagOfSize(667)), eFor("y", bagOfSize(2001), eEmpty(tInt)), eFor("y", eOne(bagOfSize(1001)), eUnion(y, y)),
	}
}

func TestLimitsOfWhatIsNotUsed(t *testing.T) {
	for _, e := range append(costly(), termOfWork(60000)) {
		for _, form := range formsAround() {
			whole := form.put(e)
			if v, ok := impl.EvalTerm(four, fourDB, whole); ok || impl.EvalWork(four, fourDB, whole) != -1 || !reflect.DeepEqual(v, impl.Value{}) || !impl.IsValidTerm(whole) {
				t.Errorf("%s has the value %.1000v", impl.FormatTerm(whole), v)
			}
		}
	}
}

func TestWhatIsNotEvaluated(t *testing.T) {
	y, five := eVar("y"), eInt(5)
	number := funOf(tInt, tInt)
	for _, e := range costly() {
		n := eCount(e)
		for i, c := range []struct {
			work int
			e    impl.Term
		}{
			{3, eIf(eBool(1), five, n)}, {3, eIf(eBool(0), n, five)}, {5, eIf(eBool(1), eIf(eBool(0), n, five), eInt(6))}, {5, eIf(eIf(eBool(1), eBool(0), eNone(e)), eInt(6), five)},
			// Functions that are not applied.
			{4, eApp(eLam("y", number, five), eLam("x", tInt, n))}, {6, eApp(eLam("y", number, eOp("+", eInt(2), eInt(3))), eLam("x", tInt, n))}, {7, eApp(eLam("y", number, five), eApp(eLam("x", tInt, eLam("y", tInt, n)), five))},
			{6, eApp(eIf(eBool(0), eLam("y", tInt, n), eLam("y", tInt, y)), five)}, {6, eApp(eIf(eBool(1), eLam("y", tInt, y), eLam("y", tInt, n)), five)},
			// What stands within a "for" over nothing.
			{5, eOp("+", five, eCount(eFor("y", eEmpty(tInt), e)))}, {8, eOp("+", five, eCount(eFor("y", eOne(five), eFor("y", eEmpty(tInt), e))))},
		} {
			got, ok := checkEval(t, four, fourDB, c.e)
			if !ok || !sameValue(got, vInt(5)) || impl.EvalWork(four, fourDB, c.e) != c.work {
				t.Errorf("form %d: %s has the value %v, %v for %d nodes", i, impl.FormatTerm(c.e), got, ok, impl.EvalWork(four, fourDB, c.e))
			}
		}
	}
	checkEvals(t, "(if #t 1 (2+3)) = 1 in 3", "(if #f (2+3) 1) = 1 in 3", "(for x<-@e (if x.b [(x.s+x.s)] [:I])) = [10,10] in 24", "((\\f:(I>I).7) (\\x:I.(x+(count @d)))) = 7 in 4",
		// An argument is evaluated, once, before the function is applied, whether it is used or not.
		"((\\x:I.7) (1+2)) = 7 in 6", "((\\x:I.(x+x)) (1+2)) = 6 in 8", "((\\x:I.((\\y:I.7) x)) (count @d)) = 7 in 8", "((if #t (\\x:I.1) (\\x:I.x)) (1+2)) = 1 in 8")
}

// checkLimit2000 checks a term that has a value just if n is at most 2000.
func checkLimit2000(t *testing.T, n int, list ...impl.Term) {
	t.Helper()
	for _, e := range list {
		if _, ok := checkEval(t, four, fourDB, e); ok != (n <= 2000) || !impl.IsValidTerm(e) {
			t.Errorf("%d: %s has a value: %v", n, impl.FormatTerm(e), ok)
		}
	}
}

func TestTheGreatestBags(t *testing.T) {
	y := eVar("y")
	for _, n := range []int{0, 1, 999, 1000, 1001, 1999, 2000, 2001, 2040, 4000} {
		bag := bagOfSize(n)
		if got, ok := checkEval(t, four, fourDB, eCount(bag)); ok && !sameValue(got, vInt(n)) {
			t.Errorf("%d elements are %v", n, got)
		}
		// On the way, a bag may have as many elements, though its nodes are more by one.
		checkLimit2000(t, n, eCount(bag), eNone(bag), eFor("y", bag, eEmpty(tInt)), eCount(eFor("y", bag, eOne(y))), eApp(eLam("y", bagOf(tInt), eInt(1)), bag), eApp(eLam("y", bagOf(tInt), eCount(y)), bag), eProj(eRec("a b", bag, eInt(1)), "b"), eCount(eOne(bag)), eIf(eNone(bag), eInt(1), eInt(2)),
			eCount(eUnion(bag, eEmpty(tInt))), eCount(eUnion(eEmpty(tInt), bag)), eCount(eFor("y", eOne(eInt(1)), bag)), eCount(eFor("y", eOne(bag), y)))
		checkLimit2000(t, n+1, bag, eUnion(bag, eEmpty(tInt)), eFor("y", bag, eOne(y)), eFor("y", eOne(bag), y), eApp(eLam("y", bagOf(tInt), y), bag))
		checkLimit2000(t, n+1, eCount(eUnion(bag, eOne(eInt(1)))), eNone(eUnion(eOne(eInt(1)), bag)), eCount(eFor("y", eUnion(eOne(eOne(eInt(1))), eOne(bag)), y)), eCount(eFor("y", eUnion(eOne(bag), eOne(eOne(eInt(1)))), y)))
		checkLimit2000(t, 2*n, eCount(eUnion(bag, bag)), eCount(eFor("y", bag, eUnion(eOne(y), eOne(y)))), eCount(eApp(eLam("y", bagOf(tInt), eUnion(y, y)), bag)), eNone(eFor("x", eUnion(eOne(eInt(1)), eOne(eInt(2))), bag)))
	}
	for _, n := range []int{666, 667} {
		bag := bagOfSize(n)
		thrice := eUnion(y, eUnion(y, y))
		checkLimit2000(t, 3*n, eCount(eFor("y", eTable("d3"), bag)), eCount(eFor("z", bag, eFor("y", eTable("d3"), eOne(y)))), eApp(eLam("y", bagOf(tInt), eCount(thrice)), bag))
		checkLimit2000(t, 3*n+2, eApp(eLam("y", bagOf(tInt), eCount(eUnion(thrice, eUnion(eOne(eInt(1)), eOne(eInt(1)))))), bag))
	}
}

func TestTheGreatestValues(t *testing.T) {
	bags := func(k, n int) impl.Term { return eFor("y", bagOfSize(k), eOne(bagOfSize(n))) }
	for _, n := range []int{0, 1, 997, 998, 999, 1995, 1996, 1997, 1998, 1999, 2000} {
		bag := bagOfSize(n)
		checkLimit2000(t, 1+n, bag)
		checkLimit2000(t, 2+n, eOne(bag), eRec("a", bag))
		checkLimit2000(t, 3+n, eRec("a b", bag, eInt(1)), eOne(eRec("a", bag)), eRec("a b", eBool(0), bag))
		checkLimit2000(t, 3+2*n, eRec("a b", bag, bag), eUnion(eOne(bag), eOne(bag)), eApp(eLam("y", bagOf(tInt), eRec("a b", eVar("y"), eVar("y"))), bag))
		checkLimit2000(t, 1000+n, eRec("a b", bagOfSize(997), bag), eRec("a b", bag, bagOfSize(997)))
	}
	for _, p := range [][2]int{{1, 1998}, {1, 1999}, {2, 998}, {2, 999}, {3, 665}, {3, 666}, {9, 221}, {9, 222}, {27, 73}, {27, 74}, {111, 17}, {111, 18}, {1000, 0}, {1000, 1}, {999, 1}, {1999, 0}, {2000, 0}, {500, 3}} {
		k, n := p[0], p[1]
		checkLimit2000(t, 1+k+k*n, bags(k, n))
		checkLimit2000(t, 2+k+k*n, eRec("a", bags(k, n)))
		checkLimit2000(t, k, eCount(bags(k, n)))
	}
	for _, k := range []int{499, 500, 666, 667, 999, 1000} {
		bag := bagOfSize(k)
		checkLimit2000(t, 1+4*k, eFor("y", bag, eOne(eRec("a b c", eVar("y"), eVar("y"), eBool(1)))))
		checkLimit2000(t, 1+3*k, eFor("y", bag, eOne(eRec("a b", eVar("y"), eInt(7)))))
		checkLimit2000(t, 1+2*k, eFor("y", bag, eOne(eRec("a", eVar("y")))))
	}
}

func TestValuesOfCountlessNodesOnTheWay(t *testing.T) {
	// Of two thousand bags each, and these of two thousand integers.
	many := readTerm("((\\x:[I].((\\y:[[I]].(for z<-@d3 [(for u<-y [y])])) (for y<-x [x]))) " + impl.FormatTerm(bagOfSize(2000)) + ")")
	checkNoEval(t, four, fourDB, many)
	got, ok := checkEval(t, four, fourDB, eCount(many))
	if !ok || !sameValue(got, vInt(3)) {
		t.Errorf("there are %v, %v", got, ok)
	}
	checkEvalIn(t, four, fourDB, impl.FormatTerm(eFor("u", many, eOne(eCount(eVar("u")))))+" = [2000,2000,2000] in "+impl.FormatInt(impl.EvalWork(four, fourDB, eCount(many))+9))
}

func TestTermsWithoutAValue(t *testing.T) {
	checkNoEvals(t,
		// Free variables, also where they are not evaluated.
		"x", "[x]", "(1+x)", "d", "(for x<-@d [y])", "(for x<-x [1])", "((for x<-@d [x])++[x])", "(if #t 1 x)", "(if #f x 1)", "(for x<-[:I] [y])", "((\\f:(I>I).1) (\\x:I.y))", "((\\x:I.y) 1)", "{a=1,b=x}.a",
		// No type.
		"(1+#t)", "(1&1)", "(!1)", "(1 2)", "@q", "@k", "(for x<-1 [x])", "(for x<-@d x)", "(if 1 2 3)", "(if #t 1 #t)", "([1]++[#t])", "@d.n", "{a=1}.b", "(count 1)", "(empty #t)", "((\\x:B.x) 1)", "(if #t [1] [:B])", "(@d++@e)", "(if #f (1+#t) 1)", "(for x<-[:I] (x x))", "[[[[[[[1]]]]]]]", "(count [[[[[[[1]]]]]]])",
		// Functions, and what contains them.
		"(\\x:I.x)", "(\\x:I.1)", "(\\x:I.@d)", "((\\x:I.(\\y:I.x)) 1)", "(if #t (\\x:I.x) (\\x:I.1))", "((\\f:(I>I).f) (\\x:I.x))", "{a=(\\x:I.x)}", "{a=1,b=(\\x:I.x)}", "[(\\x:I.x)]", "[{a=(\\x:I.x)}]", "(for x<-@d [(\\y:I.y)])", "[:(I>I)]", "{a=(\\x:I.x),b=1}.b", "(count [(\\x:I.x)])", "(empty [:(I>I)])")
	list := []impl.Term{
		{}, eNode(17), eNode(-1), eInt(-1), eInt(1000), eBool(2), eBool(-1), eVar(""), eVar("if"), eTable("D"), eTable(""), eOp("*", eInt(1), eInt(1)), eOp("!", eBool(1), eBool(1)), eOp("+", eInt(1)), eOp("+", eInt(1), eInt(1), eInt(1)), eOp("<"), eOp("!"), eOp("", eInt(1)),
		eRec(""), eRec("a"), eRec("a b", eInt(1)), eRec("a", eInt(1), eInt(1)), eRec("b a", eInt(1), eInt(1)), eRec("a a", eInt(1), eInt(1)), eRec("if", eInt(1)), eProj(eRec("a", eInt(1)), "A"), eProj(eRec("a", eInt(1)), ""), eNode(impl.TeProj), eEmpty(impl.Type{}), eEmpty(recOf("b a", tInt, tInt)),
		eNode(impl.TeOne), eNode(impl.TeOne, eInt(1), eInt(1)), eNode(impl.TeUnion), eNode(impl.TeUnion, d0), eNode(impl.TeUnion, d0, d0, d0), eNode(impl.TeFor), eNode(impl.TeFor, d0, d0), eFor("if", d0, d0), eNode(impl.TeIf), eNode(impl.TeIf, eBool(1), eInt(1)), eNode(impl.TeIf, eBool(1), d0, d0, d0),
		eApp(eLam("", tInt, eInt(1)), eInt(1)), eApp(eLam("x", impl.Type{}, eInt(1)), eInt(1)), eNode(impl.TeLam), eNode(impl.TeApp), eNode(impl.TeApp, eLam("x", tInt, x0)), eNode(impl.TeNone), eNode(impl.TeCount), eNode(impl.TeCount, d0, d0), eNode(impl.TeEmpty),
		withN(d0, 1), withName(eInt(1), "x"), withName(eOne(d0), "x"), withType(eInt(1), tInt), withType(d0, bagOf(typeD)), withLabels(eInt(1), "a"), withLabels(eCount(d0), "a"), eNode(impl.TeInt, eInt(1)), eNode(impl.TeTable, d0),
	}
	for _, e := range list {
		checkNoEval(t, firm, firmDB, e, eIf(eBool(1), eInt(1), eCount(eOne(e))), eCount(eOne(e)), eProj(eRec("a b", eInt(1), e), "a"))
	}
	for _, e := range termsOfEachKind() {
		whole := eApp(eLam("x", tInt, eOne(e)), eInt(1))
		for _, v := range termVariants(whole) {
			checkEval(t, firm, firmDB, v)
		}
	}
	// One node, or one in depth, too many.
	for n := 1; n < 35; n++ {
		for i, e := range []impl.Term{sumOf(n), eOp("+", eCount(d0), sumOf(n))} {
			size := 2*n - 1 + 3*i
			if _, ok := checkEval(t, firm, firmDB, e); ok != (size <= 60) || impl.EvalWork(firm, firmDB, e) > 60 {
				t.Errorf("of %d nodes: %v", size, ok)
			}
		}
		deep := nestedTerm(n, eBool(1), func(e impl.Term) impl.Term { return eOp("!", e) })
		if got, ok := checkEval(t, firm, firmDB, deep); ok != (n <= 15) || ok && !sameValue(got, vBool((n+1)%2)) {
			t.Errorf("of the depth %d: %v, %v", n+1, got, ok)
		}
	}
}

func TestDatabasesAndSchemasThatAreNotValidHaveNoValues(t *testing.T) {
	terms := []impl.Term{eInt(1), eOne(eInt(1)), eEmpty(tInt), readTerm("((\\x:I.x) 1)"), readTerm("(if #t 1 2)"), d0, eTable("e"), eTable("f"), eCount(d0), readTerm("(for x<-@f [x.a])"), readTerm("(if #t 1 (count @d))")}
	for _, e := range terms {
		if _, ok := checkEval(t, three, filled, e); !ok {
			t.Errorf("%s has no value", impl.FormatTerm(e))
		}
		if _, ok := checkEval(t, three, impl.EmptyDB(three), e); !ok {
			t.Errorf("%s has no value without rows", impl.FormatTerm(e))
		}
	}
	for _, db := range noDBs() {
		checkNoEval(t, three, db, terms...)
	}
	for _, s := range append(noSchemas(), schemaOf(three.Tables[:2]...), schemaOf(three.Tables[1:]...), schemaOf(three.Tables[2], three.Tables[1], three.Tables[0]), schemaOf(three.Tables[0], three.Tables[0], three.Tables[2])) {
		checkNoEval(t, s, filled, terms...)
		checkNoEval(t, s, impl.DB{}, terms...)
		checkNoEval(t, s, impl.EmptyDB(s), eInt(1000))
	}
	checkNoEval(t, impl.Schema{}, filled, terms...)
	checkNoEval(t, impl.Schema{}, dbOf(impl.TableData{}), terms...)
	// Too many tables or rows, that is, one.
	var s impl.Schema
	var db impl.DB
	for i := range 6 {
		if _, ok := checkEval(t, s, db, eInt(1)); ok != (i <= 4) {
			t.Errorf("%d tables: %v", i, ok)
		}
		s.Tables, db.Tables = append(s.Tables, declare(fmt.Sprint("t", i), typeF)), append(db.Tables, dataOf(fmt.Sprint("t", i)))
	}
	for n := range 12 {
		if _, ok := checkEval(t, three, withRows(filled, 2, rowsF(n)...), eInt(1)); ok != (n <= 8) {
			t.Errorf("%d rows: %v", n, ok)
		}
	}
}

// A maker makes terms at random that have a type.
type maker struct {
	*rand.Rand
	s impl.Schema
}

// makerTypes are the types of parts whose type is not given.
var makerTypes = []impl.Type{tInt, tBool, bagOf(tInt), recOf("a b", tInt, tBool), bagOf(recOf("a b", tInt, tBool)), bagOf(bagOf(tInt)), typeD, bagOf(typeD), funOf(tInt, tInt), funOf(tInt, bagOf(tInt)), funOf(funOf(tInt, tInt), tInt), funOf(tInt, funOf(tInt, tInt))}

func (m maker) anyType() impl.Type { return makerTypes[m.IntN(len(makerTypes))] }

func (m maker) name() string { return string("xyz"[m.IntN(3)]) }

func (m maker) pick(list []impl.Term) impl.Term { return list[m.IntN(len(list))] }

// term returns a term of a type in a context of variables, of about size nodes.
func (m maker) term(x impl.Type, ctx map[string]impl.Type, size int) impl.Term {
	if vars := varsOf(x, ctx); len(vars) > 0 && m.IntN(3) == 0 {
		return m.pick(vars)
	}
	half := size / 2
	switch n := m.IntN(12); {
	case size <= 1 || n < 6:
		return m.made(x, ctx, size)
	case n < 8:
		return eIf(m.term(tBool, ctx, half), m.term(x, ctx, half), m.term(x, ctx, half))
	case n == 8 && nodesOfKind(x, impl.TyFun) == 0:
		return eProj(eRec("a b", m.term(x, ctx, half), m.term(tInt, ctx, half)), "a")
	}
	if functions := varsOf(funOf(tInt, x), ctx); len(functions) > 0 {
		return eApp(m.pick(functions), m.term(tInt, ctx, half))
	}
	arg, name := m.anyType(), m.name()
	return eApp(eLam(name, arg, m.term(x, with(ctx, name, arg), half)), m.term(arg, ctx, half))
}

// varsOf returns the variables of a type, in the order of their names.
func varsOf(x impl.Type, ctx map[string]impl.Type) []impl.Term {
	var vars []impl.Term
	for _, name := range []string{"x", "y", "z"} {
		if has, ok := ctx[name]; ok && sameType(has, x) {
			vars = append(vars, eVar(name))
		}
	}
	return vars
}

// made returns a term of a form that makes what has the type.
func (m maker) made(x impl.Type, ctx map[string]impl.Type, size int) impl.Term {
	part := func(x impl.Type) impl.Term { return m.term(x, ctx, (size-1)/2) }
	switch x.Kind {
	case impl.TyRec:
		out := impl.Term{Kind: impl.TeRec, Labels: x.Labels}
		for _, a := range x.Args {
			out.Args = append(out.Args, part(a))
		}
		return out
	case impl.TyFun:
		name := m.name()
		return eLam(name, x.Args[0], m.term(x.Args[1], with(ctx, name, x.Args[0]), size-1))
	case impl.TyBag:
		return m.bag(x, ctx, size)
	}
	if size <= 1 {
		return map[int]impl.Term{impl.TyInt: eInt(m.IntN(4)), impl.TyBool: eBool(m.IntN(2))}[x.Kind]
	}
	bag := bagOf(makerTypes[m.IntN(8)])
	if x.Kind == impl.TyInt {
		return m.pick([]impl.Term{eOp("+", part(tInt), part(tInt)), eOp("-", part(tInt), part(tInt)), eCount(part(bag)), eProj(part(typeD), "k")})
	}
	return m.pick([]impl.Term{eOp("=", part(tInt), part(tInt)), eOp("<", part(tInt), part(tInt)), eOp("&", part(tBool), part(tBool)), eOp("|", part(tBool), part(tBool)), eOp("!", part(tBool)), eNone(part(bag))})
}

func (m maker) bag(x impl.Type, ctx map[string]impl.Type, size int) impl.Term {
	half := size / 2
	for _, table := range m.s.Tables {
		if sameType(table.Row, x.Args[0]) && m.IntN(2) == 0 {
			return eTable(table.Name)
		}
	}
	switch n := m.IntN(6); {
	case size <= 2:
		return eEmpty(x.Args[0])
	case n < 2:
		return eOne(m.term(x.Args[0], ctx, size-1))
	case n == 2:
		return eUnion(m.term(x, ctx, half), m.term(x, ctx, half))
	}
	element, name := makerTypes[m.IntN(8)], m.name()
	return eFor(name, m.term(bagOf(element), ctx, half), m.term(x, with(ctx, name, element), half))
}

func TestTermsMadeAtRandomHaveValues(t *testing.T) {
	m := maker{rand.New(rand.NewPCG(12, 35)), schemaOf(declare("d", typeD), declare("e", recOf("a b", tInt, tBool)))}
	kinds, valued, far := map[int]int{}, 0, 0
	for i := range 10000 {
		var list []impl.Value
		for n := range m.IntN(9) {
			list = append(list, rowD(m.IntN(3), n))
		}
		db := dbOf(dataOf("d", list...), dataOf("e", vRec("a b", vInt(m.IntN(3)), vBool(m.IntN(2)))))
		e := m.term(makerTypes[m.IntN(8)], map[string]impl.Type{}, 4+m.IntN(40))
		if !impl.IsValidTerm(e) {
			continue
		}
		if v, ok := checkEval(t, m.s, db, e); ok {
			valued++
			for _, node := range slices.Collect(nodesIn(e)) {
				kinds[node.Kind]++
			}
			if nodesOfValue(v) > 10 || impl.EvalWork(m.s, db, e) > 300 {
				far++
			}
		} else if _, typed := impl.TypeOf(m.s, nil, e); !typed {
			t.Errorf("%s has no type", impl.FormatTerm(e))
		}
		if t.Failed() {
			t.Fatalf("term %d", i)
		}
	}
	for kind := impl.TeVar; kind <= impl.TeCount; kind++ {
		if kinds[kind] < 500 {
			t.Errorf("%d nodes of the kind %d", kinds[kind], kind)
		}
	}
	if valued < 6000 || far < 200 {
		t.Errorf("%d terms have a value, %d a great one or much work", valued, far)
	}
}

// nodesIn gives all nodes of a term.
func nodesIn(e impl.Term) func(yield func(impl.Term) bool) {
	return func(yield func(impl.Term) bool) {
		if !yield(e) {
			return
		}
		for _, a := range e.Args {
			for node := range nodesIn(a) {
				if !yield(node) {
					return
				}
			}
		}
	}
}

func TestAllSmallTermsHaveTheirValues(t *testing.T) {
	heads := []impl.Term{
		x0, eVar("y"), eInt(1), eBool(0), d0, eEmpty(tInt), eOp("-"), eOp("<"), eOp("|"), eOp("!"), {Kind: impl.TeRec, Labels: []string{"k", "n"}}, {Kind: impl.TeProj, Name: "n"},
		eNode(impl.TeOne), eNode(impl.TeUnion), {Kind: impl.TeFor, Name: "x"}, {Kind: impl.TeFor, Name: "y"}, eNode(impl.TeIf), {Kind: impl.TeLam, Name: "x", Type: tInt}, {Kind: impl.TeLam, Name: "y", Type: funOf(tInt, tInt)}, eNode(impl.TeApp), eNode(impl.TeNone), eNode(impl.TeCount),
	}
	s, db := schemaOf(declare("d", typeD)), dbOf(dataOf("d", rowD(2, 1), rowD(1, 3)))
	valued := 0
	for i, e := range validOver(heads, 5) {
		// Most terms have no type; of those, some.
		if _, ok := impl.TypeOf(s, nil, e); !ok && i%50 != 0 {
			continue
		}
		if _, ok := checkEval(t, s, db, e); ok {
			valued++
		}
		if t.Failed() {
			return
		}
	}
	if valued < 1500 {
		t.Error("few terms have a value:", valued)
	}
}

// closedTerms are terms of few nodes that have a value in firmDB, by their types.
func closedTerms() map[string][]string {
	return map[string][]string{
		"I": {"1", "(2-5)", "(count @d)", "((\\x:I.(x+x)) 2)", "(if #f 1 2)"}, "B": {"#t", "(1<2)", "(empty @d)", "(!#t)"}, "[I]": {"[1]", "[:I]", "(for x<-@d [x.n])", "([2]++[1])"}, "{a:I,b:[B]}": {"{a=1,b=[:B]}", "{a=(1-2),b=(for x<-@e [x.b])}"}, "[{k:I,n:I}]": {"@d", "(for x<-@d (if (x.k<3) [x] [:{k:I,n:I}]))"},
	}
}

func TestWorkIsThatOfTheParts(t *testing.T) {
	work := func(e impl.Term) int {
		t.Helper()
		if _, ok := checkEval(t, firm, firmDB, e); !ok {
			t.Errorf("%s has no value", impl.FormatTerm(e))
		}
		return impl.EvalWork(firm, firmDB, e)
	}
	for text, list := range closedTerms() {
		x := readType(text)
		for _, first := range list {
			a := readTerm(first)
			n := work(a)
			for _, e := range []impl.Term{eOne(a), eRec("a", a), eApp(eLam("x", x, eOne(x0)), a), eFor("x", eOne(a), eOne(x0)), eProj(eRec("a b", eInt(1), a), "b")} {
				// As many nodes as there are beside the part.
				if got := work(e); got != n+nodesOfTerm(e)-nodesOfTerm(a) {
					t.Errorf("%s needs %d nodes, and %s %d", first, n, impl.FormatTerm(e), got)
				}
			}
			for _, second := range list {
				b := readTerm(second)
				both := n + work(b)
				for _, e := range []impl.Term{eUnion(eOne(a), eOne(b)), eRec("a b", a, b), eOp("&", eNone(eOne(a)), eNone(eOne(b))), eOp("|", eBool(1), eNone(eUnion(eOne(a), eOne(b))))} {
					if got := work(e); got != both+nodesOfTerm(e)-nodesOfTerm(a)-nodesOfTerm(b) {
						t.Errorf("%s needs %d nodes", impl.FormatTerm(e), got)
					}
				}
				if got := work(eIf(eBool(1), a, b)); got != n+2 {
					t.Errorf("a choice of %s needs %d nodes", first, got)
				}
				if got := work(eIf(eBool(0), b, a)); got != n+2 {
					t.Errorf("a choice of %s needs %d nodes", first, got)
				}
			}
		}
	}
}

// To apply a function is to put the argument in the place of its variable, and bound names do not matter.
func TestValuesAfterReplacing(t *testing.T) {
	bodies := map[string][]string{
		"I":           {"z", "(z+z)", "[z]", "(for x<-@d (if (x.k<z) [x.n] [z]))", "((\\x:I.(x-z)) 5)", "(for z<-[(z+1)] [z])", "((\\f:(I>I).(f (f z))) (\\x:I.(x+z)))", "(for x<-[z] (for y<-[z] [{a=x,b=y,c=z}]))", "7"},
		"B":           {"z", "(!z)", "(z&z)", "(if z 1 2)", "(for x<-@e (if (x.b|z) [x.s] [:I]))", "((\\x:B.(x&z)) #t)"},
		"[I]":         {"z", "(z++z)", "(for x<-z [(x+1)])", "(for z<-z [z])", "(count z)", "(for x<-@d [(for y<-z [(x.k+y)])])", "(if (empty z) 1 2)"},
		"{a:I,b:[B]}": {"z", "z.a", "z.b", "(for x<-z.b (if x [z] [:{a:I,b:[B]}]))", "{a=z,b=z.a}"},
		"[{k:I,n:I}]": {"z", "(for x<-z [(x.k-x.n)])", "(for x<-z (for z<-z [{a=x.k,b=z.n}]))", "[(count (z++z))]"},
	}
	for text, list := range closedTerms() {
		x := readType(text)
		for _, body := range bodies[text] {
			for _, arg := range list {
				e, a := readTerm(body), readTerm(arg)
				want, ok := checkEval(t, firm, firmDB, impl.SubstTerm(e, "z", a))
				applied, isApplied := checkEval(t, firm, firmDB, eApp(eLam("z", x, e), a))
				looped, isLooped := checkEval(t, firm, firmDB, eFor("z", eOne(a), eOne(e)))
				fresh := impl.SubstTerm(e, "z", eVar("v"))
				renamed, isRenamed := checkEval(t, firm, firmDB, eApp(eLam("v", x, fresh), a))
				if !ok || !isApplied || !isLooped || !isRenamed || !sameValue(applied, want) || !sameValue(looped, vBag(want)) || !sameValue(renamed, want) {
					t.Errorf("%s for z in %s: %v, %v, %v, %v", arg, body, want, applied, looped, renamed)
				}
			}
		}
	}
}

func TestValuesAreKeptByOtherNamesAndOrders(t *testing.T) {
	for _, p := range [][2]string{
		{"(for x<-@d (for y<-@e (if (x.k=y.k) [(x.n+y.s)] [:I])))", "(for y<-@d (for x<-@e (if (y.k=x.k) [(y.n+x.s)] [:I])))"}, {"((\\x:I.((\\y:I.(x-y)) 2)) 5)", "((\\y:I.((\\x:I.(y-x)) 2)) 5)"}, {"(for x<-[1] (for y<-[2] [x]))", "(for z<-[1] (for z1<-[2] [z]))"},
	} {
		a, b := readTerm(p[0]), readTerm(p[1])
		first, _ := checkEval(t, firm, firmDB, a)
		second, _ := checkEval(t, firm, firmDB, b)
		if !impl.AlphaEqual(a, b) || !sameValue(first, second) || impl.EvalWork(firm, firmDB, a) != impl.EvalWork(firm, firmDB, b) {
			t.Errorf("%v and %v", first, second)
		}
	}
}

// valuedLines are terms of all kinds that have a value in firmDB.
var valuedLines = []string{
	"1", "#t", "(1+2)", "(!#t)", "{a=1,b=[#t]}", "{a=1,b=[2]}.b", "[:{a:I,b:[B]}]", "[5]", "[[5]]", "[@d]", "@d", "@e", "(@d++@d)", "([1]++[:I])", "([:I]++[1])", "([1]++[2])", "(for x<-@d [x])", "(for x<-@d [{a=x,b=x}])", "(for x<-@d @e)", "(for x<-[:I] [x])", "(for x<-[1] [:I])", "(if #t @d @d)",
	"((\\x:I.x) 1)", "((\\x:[I].{a=x,b=x}) [1])", "((\\f:(I>[I]).(for x<-@d (f x.k))) (\\n:I.([n]++[(n+1)])))", "(empty @d)", "(count @e)", "{a=@d,b=@d}", "((\\x:{k:I,n:I}.[{a=x,b=[x],c=x.k}]) {k=1,n=2})", "(for x<-[@d] (x++x))", "((\\x:[{k:I,n:I}].(if #t x x)) @d)",
}

func TestNilAndEmptySlicesOfEvaluation(t *testing.T) {
	for _, line := range append([]string{"x", "(\\x:I.x)", "@q", "[(\\x:I.x)]"}, valuedLines...) {
		e := readTerm(line)
		for _, db := range []impl.DB{firmDB, impl.EmptyDB(firm), dbOf(firmDB.Tables[:1]...), {}} {
			want, ok := checkEval(t, firm, db, e)
			for _, s := range []impl.Schema{emptiedSchema(firm), nilledSchema(firm)} {
				for _, db := range []impl.DB{emptiedDB(db), nilledDB(db)} {
					first, isFirst := checkEval(t, s, db, emptiedTerm(e))
					second, isSecond := checkEval(t, s, db, nilledTerm(e))
					if ok != isFirst || ok != isSecond || !sameValue(first, want) || !sameValue(second, want) {
						t.Errorf("%s has the values %v, %v and %v", line, want, first, second)
					}
				}
			}
		}
	}
}

func TestArgumentsOfEvaluationAreKept(t *testing.T) {
	for _, line := range append([]string{"x", "(\\x:I.x)", "@q", "(for x<-@d (x x))", "(@d++[{k=7,n=7}])", "((@d++[{k=7,n=7}])++[{k=8,n=8}])", "(for x<-([1]++[2]) (if (x<2) @d [{k=x,n=x}]))", "((\\x:[{k:I,n:I}].[{a=(x++[{k=7,n=7}]),b=(x++[{k=8,n=8}])}]) @d)", "((\\x:[I].{a=(x++[2]),b=(x++[3]),c=x}) ([1]++([2]++[3])))"}, valuedLines...) {
		e := readTerm(line)
		want, _, _ := evalBySentences(firm, firmDB, e)
		s, db, arg := schemaWithSpare(firm), dbWithSpare(firmDB), termWithSpare(e)
		schemaBefore, dbBefore, argBefore := wholeSchema(s), wholeDB(db), wholeTerm(arg)
		work := impl.EvalWork(s, db, arg)
		first, _ := impl.EvalTerm(s, db, arg)
		second, _ := impl.EvalTerm(s, db, arg)
		overwriteValue(first)
		if !sameValue(second, want) || impl.EvalWork(s, db, arg) != work {
			t.Errorf("the value of %s became %v with another result", line, second)
		}
		if !sameSchema(wholeSchema(s), schemaBefore) || !sameDB(wholeDB(db), dbBefore) || !sameTerm(wholeTerm(arg), argBefore) {
			t.Errorf("EvalTerm of %s changed the memory of its arguments to %v, %v, %v", line, wholeSchema(s), wholeDB(db), wholeTerm(arg))
		}
		overwriteSchema(s)
		overwriteDB(db)
		overwriteTerm(arg)
		if !sameValue(second, want) {
			t.Errorf("the value of %s became %v with the arguments", line, second)
		}
	}
}

func TestSlicesOfAValueOfATermAreApart(t *testing.T) {
	for _, line := range valuedLines {
		e := readTerm(line)
		want, _, ok := evalBySentences(firm, firmDB, e)
		if !ok {
			t.Fatal(line)
		}
		var places func(v impl.Value, path []int) [][]int
		places = func(v impl.Value, path []int) [][]int {
			list := [][]int{path}
			for i, a := range v.Args {
				list = append(list, places(a, append(slices.Clone(path), i))...)
			}
			return list
		}
		for _, path := range places(want, nil) {
			// The labels of one node, and then all of it.
			for _, change := range []func(v *impl.Value){
				func(v *impl.Value) { overwriteValue(impl.Value{Labels: v.Labels}) }, func(v *impl.Value) { overwriteValue(*v) },
			} {
				got, _ := impl.EvalTerm(firm, firmDB, e)
				part, old := &got, want
				for _, i := range path {
					part, old = &part.Args[i], old.Args[i]
				}
				change(part)
				*part = old
				if !sameValue(got, want) {
					t.Errorf("the value of %s became %v when the part %v was overwritten", line, got, path)
				}
			}
		}
	}
}

func TestEvaluationsBeyondAllLimits(t *testing.T) {
	inTerm, inValue, inType := []impl.Term{{Kind: impl.TeOne}}, []impl.Value{{Kind: impl.VaBag}}, []impl.Type{{Kind: impl.TyRec, Labels: []string{"a"}}}
	inTerm[0].Args, inValue[0].Args, inType[0].Args = inTerm, inValue, inType
	none := func(s impl.Schema, db impl.DB, e impl.Term) {
		t.Helper()
		if v, ok := impl.EvalTerm(s, db, e); ok || impl.EvalWork(s, db, e) != -1 || !reflect.DeepEqual(v, impl.Value{}) {
			t.Errorf("the value is %.1000v, %v", v, ok)
		}
	}
	for _, e := range []impl.Term{inTerm[0], eOne(inTerm[0]), nestedTerm(200, d0, func(e impl.Term) impl.Term { return eUnion(e, e) }), nestedTerm(200000, eBool(1), func(e impl.Term) impl.Term { return eOp("!", e) }), eNode(impl.TeRec, make([]impl.Term, 100000)...), eEmpty(inType[0]), eEmpty(nestedType(200000, tInt, bagOf))} {
		none(firm, firmDB, e)
	}
	for _, row := range []impl.Value{inValue[0], nestedValue(200, rowD(1, 2), func(v impl.Value) impl.Value { return vBag(v, v) }), nestedValue(100000, rowD(1, 2), inBag), vRec("k n", make([]impl.Value, 100000)...)} {
		none(firm, withRows(firmDB, 0, row), eInt(1))
		none(firm, withRows(firmDB, 0, rowD(1, 2), row), d0)
	}
	for _, row := range []impl.Type{inType[0], nestedType(200, tInt, func(x impl.Type) impl.Type { return recOf("a b", x, x) }), nestedType(100000, typeD, bagOf)} {
		none(schemaOf(declare("d", row)), dbOf(dataOf("d")), eInt(1))
	}
	none(impl.Schema{Tables: make([]impl.TableDecl, 100000)}, impl.DB{Tables: make([]impl.TableData, 100000)}, eInt(1))
	// None of them has left anything behind.
	checkEvals(t, "(for x<-@d [x.n]) = [10,20,30] in 11")
}
