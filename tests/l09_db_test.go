package tests

import (
	"fmt"
	"math"
	"reflect"
	"runtime/debug"
	"slices"
	"strings"
	"testing"

	"loop.example/g00587/impl"
)

func declare(name string, row impl.Type) impl.TableDecl { return impl.TableDecl{Name: name, Row: row} }

func schemaOf(tables ...impl.TableDecl) impl.Schema { return impl.Schema{Tables: tables} }

func dataOf(name string, rows ...impl.Value) impl.TableData {
	return impl.TableData{Name: name, Rows: rows}
}

func dbOf(tables ...impl.TableData) impl.DB { return impl.DB{Tables: tables} }

// Three tables and their rows: rowD(k, n), rowE(b, k) and rowF(a).
var (
	typeD  = recOf("k n", tInt, tInt)
	typeE  = recOf("b k", tBool, tInt)
	typeF  = recOf("a", tInt)
	three  = schemaOf(declare("d", typeD), declare("e", typeE), declare("f", typeF))
	filled = dbOf(dataOf("d", rowD(1, 10), rowD(2, 20), rowD(1, 10)), dataOf("e"), dataOf("f", rowF(7)))
)

func rowD(k, n int) impl.Value { return vRec("k n", vInt(k), vInt(n)) }

func rowE(b, k int) impl.Value { return vRec("b k", vBool(b), vInt(k)) }

func rowF(a int) impl.Value { return vRec("a", vInt(a)) }

// rowsF returns n rows of the third table, with the numbers from 0 on.
func rowsF(n int) []impl.Value {
	var rows []impl.Value
	for i := range n {
		rows = append(rows, rowF(i))
	}
	return rows
}

// The following are the sentences of the document.

func schemaBySentences(s impl.Schema) bool {
	if len(s.Tables) > 4 {
		return false
	}
	for i, table := range s.Tables {
		if !nameByItsBytes(table.Name) || !rowBySentences(table.Row) {
			return false
		}
		for _, earlier := range s.Tables[:i] {
			if compareBytes(earlier.Name, table.Name) >= 0 {
				return false
			}
		}
	}
	return true
}

func dbBySentences(s impl.Schema, db impl.DB) bool {
	if !schemaBySentences(s) || len(db.Tables) != len(s.Tables) {
		return false
	}
	for i, table := range db.Tables {
		if table.Name != s.Tables[i].Name || len(table.Rows) > 8 {
			return false
		}
		for _, row := range table.Rows {
			if !hasTypeBySentences(row, s.Tables[i].Row) {
				return false
			}
		}
	}
	return true
}

// placeOf returns the index of the first table with a name, or -1.
func placeOf(db impl.DB, name string) int {
	for i, table := range db.Tables {
		if table.Name == name {
			return i
		}
	}
	return -1
}

// withRows returns db in new memory, with other rows in the table of the index i.
func withRows(db impl.DB, i int, rows ...impl.Value) impl.DB {
	out := impl.DB{Tables: slices.Clone(db.Tables)}
	out.Tables[i].Rows = slices.Clone(rows)
	return out
}

func insertBySentences(s impl.Schema, db impl.DB, name string, row impl.Value) (impl.DB, bool) {
	i := placeOf(db, name)
	if !dbBySentences(s, db) || i < 0 {
		return db, false
	}
	out := withRows(db, i, append(slices.Clone(db.Tables[i].Rows), row)...)
	if !dbBySentences(s, out) {
		return db, false
	}
	return out, true
}

func deleteBySentences(s impl.Schema, db impl.DB, name string, k int) (impl.DB, bool) {
	i := placeOf(db, name)
	if !dbBySentences(s, db) || i < 0 || k < 0 || k >= len(db.Tables[i].Rows) {
		return db, false
	}
	return withRows(db, i, slices.Delete(slices.Clone(db.Tables[i].Rows), k, k+1)...), true
}

// sameSchema and sameDB are EqualSchema and EqualDB by a recursion.

func sameSchema(a, b impl.Schema) bool {
	return slices.EqualFunc(a.Tables, b.Tables, func(x, y impl.TableDecl) bool { return x.Name == y.Name && sameType(x.Row, y.Row) })
}

func sameDB(a, b impl.DB) bool {
	return slices.EqualFunc(a.Tables, b.Tables, func(x, y impl.TableData) bool { return x.Name == y.Name && sameRows(x.Rows, y.Rows) })
}

func sameRows(a, b []impl.Value) bool { return slices.EqualFunc(a, b, sameValue) }

// checkSchema also says what the answer is, so that the sentences above are tested too.
func checkSchema(t *testing.T, s impl.Schema, want bool) {
	t.Helper()
	if schemaBySentences(s) != want {
		t.Errorf("the sentences do not say %v of %v", want, s)
	}
	if impl.IsSchema(s) != want {
		t.Errorf("IsSchema(%v) = %v", s, !want)
	}
	checkEmptyDB(t, s)
	for _, name := range []string{"d", "e", "zz", ""} {
		checkRowType(t, s, name)
	}
	for _, table := range s.Tables {
		checkRowType(t, s, table.Name)
	}
}

func checkEmptyDB(t *testing.T, s impl.Schema) {
	t.Helper()
	var want impl.DB
	for _, table := range s.Tables {
		want.Tables = append(want.Tables, dataOf(table.Name))
	}
	got := impl.EmptyDB(s)
	if !sameDB(got, want) {
		t.Errorf("EmptyDB(%v) = %v", s, got)
	}
	if valid := schemaBySentences(s); impl.IsDB(s, got) != valid || dbBySentences(s, got) != valid {
		t.Errorf("EmptyDB(%v) = %v, which is a database: %v", s, got, !valid)
	}
}

func checkRowType(t *testing.T, s impl.Schema, name string) {
	t.Helper()
	i := slices.IndexFunc(s.Tables, func(table impl.TableDecl) bool { return table.Name == name })
	got, ok := impl.RowType(s, name)
	switch {
	case ok != (i >= 0):
		t.Errorf("RowType(%v, %q) = %v, %v", s, name, got, ok)
	case ok && !sameType(got, s.Tables[i].Row):
		t.Errorf("RowType(%v, %q) = %v", s, name, got)
	case !ok && !reflect.DeepEqual(got, impl.Type{}):
		t.Errorf("RowType(%v, %q) = %v and false", s, name, got)
	}
}

// checkDB also says what the answer is, and tries all that is asked of a database.
func checkDB(t *testing.T, s impl.Schema, db impl.DB, want bool) {
	t.Helper()
	if dbBySentences(s, db) != want {
		t.Errorf("the sentences do not say %v of %v and the schema %v", want, db, s)
	}
	if impl.IsDB(s, db) != want {
		t.Errorf("IsDB(%v, %v) = %v", s, db, !want)
	}
	names := []string{"d", "e", "f", "zz", ""}
	for _, table := range db.Tables {
		names = append(names, table.Name)
	}
	for _, name := range names {
		checkRowsOf(t, db, name)
		for _, row := range []impl.Value{rowD(3, 30), rowE(1, 3), rowF(3), {}} {
			checkInsert(t, s, db, name, row)
		}
		for k := -2; k < 11; k++ {
			checkDelete(t, s, db, name, k)
		}
	}
}

func checkRowsOf(t *testing.T, db impl.DB, name string) {
	t.Helper()
	var want []impl.Value
	if i := placeOf(db, name); i >= 0 {
		want = db.Tables[i].Rows
	}
	if got := impl.RowsOf(db, name); !sameRows(got, want) {
		t.Errorf("RowsOf(%v, %q) = %v", db, name, got)
	}
}

func checkInsert(t *testing.T, s impl.Schema, db impl.DB, name string, row impl.Value) (ok bool) {
	t.Helper()
	want, wantOK := insertBySentences(s, db, name, row)
	got, ok := impl.InsertRow(s, db, name, row)
	if ok != wantOK || !sameDB(got, want) {
		t.Errorf("InsertRow(%v, %v, %q, %v) = %v, %v", s, db, name, row, got, ok)
	}
	if ok {
		checkDeletedAgain(t, s, db, got, name)
	}
	return ok
}

// checkDeletedAgain checks that db is what remains of larger without the last row of a table.
func checkDeletedAgain(t *testing.T, s impl.Schema, db, larger impl.DB, name string) {
	t.Helper()
	got, ok := impl.DeleteRow(s, larger, name, len(impl.RowsOf(larger, name))-1)
	if !ok || !sameDB(got, db) || !impl.EqualDB(got, db) || impl.EqualDB(larger, db) || !impl.IsDB(s, larger) {
		t.Errorf("%v with a row more in %q is %v, without it again %v, %v", db, name, larger, got, ok)
	}
}

func checkDelete(t *testing.T, s impl.Schema, db impl.DB, name string, k int) (ok bool) {
	t.Helper()
	want, wantOK := deleteBySentences(s, db, name, k)
	got, ok := impl.DeleteRow(s, db, name, k)
	if ok != wantOK || !sameDB(got, want) {
		t.Errorf("DeleteRow(%v, %v, %q, %d) = %v, %v", s, db, name, k, got, ok)
	}
	if ok && !impl.IsDB(s, got) {
		t.Errorf("DeleteRow(%v, %v, %q, %d) = %v, which is no database", s, db, name, k, got)
	}
	return ok
}

// checkVerdictOfInsert and checkVerdictOfDelete also say what the answer is.

func checkVerdictOfInsert(t *testing.T, s impl.Schema, db impl.DB, name string, row impl.Value, want bool) {
	t.Helper()
	if got := checkInsert(t, s, db, name, row); got != want {
		t.Errorf("InsertRow(%v, %v, %q, %v): %v", s, db, name, row, got)
	}
}

func checkVerdictOfDelete(t *testing.T, s impl.Schema, db impl.DB, name string, k int, want bool) {
	t.Helper()
	if got := checkDelete(t, s, db, name, k); got != want {
		t.Errorf("DeleteRow(%v, %v, %q, %d): %v", s, db, name, k, got)
	}
}

func TestConstantsOfDatabases(t *testing.T) {
	if impl.MaxTables != 4 || impl.MaxRows != 8 {
		t.Error("limits")
	}
}

func TestSchemasOfAnyNumberOfTables(t *testing.T) {
	checkSchema(t, impl.Schema{}, true)
	checkSchema(t, impl.Schema{Tables: []impl.TableDecl{}}, true)
	for _, row := range []impl.Type{typeD, typeE, typeF} {
		var s impl.Schema
		for i, name := range strings.Fields("a b2 c d d0 eeee") {
			s.Tables = append(s.Tables, declare(name, row))
			checkSchema(t, s, i < 4)
		}
	}
	checkSchema(t, three, true)
	// The last of too many tables, or the first one, is not even a table.
	checkSchema(t, schemaOf(declare("a", typeF), declare("b", typeF), declare("c", typeF), declare("d", typeF), impl.TableDecl{}), false)
	checkSchema(t, schemaOf(impl.TableDecl{}, declare("a", typeF), declare("b", typeF), declare("c", typeF), declare("d", typeF)), false)
	checkSchema(t, impl.Schema{Tables: make([]impl.TableDecl, 1)}, false)
	checkSchema(t, impl.Schema{Tables: make([]impl.TableDecl, 4)}, false)
	if impl.IsSchema(impl.Schema{Tables: make([]impl.TableDecl, 100000)}) {
		t.Error("many tables")
	}
}

func TestNamesOfTables(t *testing.T) {
	for _, name := range []string{"a", "z", "x9", "abcd", "x123", "fo", "iff", "for1", "if0"} {
		checkSchema(t, schemaOf(declare(name, typeF)), true)
	}
	for _, name := range namesOfNone {
		checkSchema(t, schemaOf(declare(name, typeF)), false)
		for i := range 4 {
			s := schemaOf(declare("a", typeF), declare("b", typeD), declare("c", typeE), declare("d", typeF))
			s.Tables[i].Name = name
			checkSchema(t, s, false)
			checkSchema(t, schemaOf(s.Tables[:i+1]...), false)
		}
		// Around this name all are ascending.
		checkSchema(t, schemaOf(declare(name, typeF), declare("zzzz", typeF)), false)
		checkSchema(t, schemaOf(declare("a", typeF), declare(name, typeF)), false)
	}
}

func TestTablesInOrder(t *testing.T) {
	for _, names := range []string{"a b", "a aa", "a0 aa", "a1 a2", "a10 a2", "d e f", "a b c d", "a a0 a00 a000"} {
		list := strings.Fields(names)
		var s impl.Schema
		for _, name := range list {
			s.Tables = append(s.Tables, declare(name, typeF))
		}
		checkSchema(t, s, true)
		for i := range list {
			for j := range list {
				swapped := schemaOf(slices.Clone(s.Tables)...)
				swapped.Tables[i], swapped.Tables[j] = s.Tables[j], s.Tables[i]
				checkSchema(t, swapped, i == j)
				twice := schemaOf(slices.Clone(s.Tables)...)
				twice.Tables[i].Name = list[j]
				checkSchema(t, twice, i == j)
				// The same name with another row type is the same name.
				twice.Tables[i].Row = typeD
				checkSchema(t, twice, i == j)
			}
		}
	}
}

// noRows are types that are no row types.
func noRows() []impl.Type {
	f := funOf(tInt, tInt)
	return []impl.Type{
		{}, tInt, tBool, f, bagOf(tInt), bagOf(typeF), funOf(typeF, typeF), bagOf(typeD),
		recOf("a", bagOf(tInt)), recOf("a b", tInt, bagOf(typeF)), recOf("a", typeF), recOf("a b", tInt, typeF), recOf("a", f), recOf("a b", f, tInt), recOf("a", impl.Type{}), recOf("a b", tInt, impl.Type{Kind: 6}),
		recOf(""), recOf("a"), recOf("a", tInt, tInt), recOf("a b", tInt), recOf("a a", tInt, tInt), recOf("a a", tInt, tBool), recOf("b a", tInt, tInt), recOf("a b b", tInt, tInt, tInt), recOf("a b c d e", tInt, tInt, tInt, tInt, tInt),
		recOf("if", tInt), recOf("a for", tInt, tInt), recOf("A", tInt), recOf("abcde", tInt), recOf("1", tInt), node(impl.TyRec, []string{""}, tInt),
		recOf("a", node(impl.TyInt, []string{"b"})), recOf("a", node(impl.TyInt, nil, tInt)), recOf("a b", tInt, node(impl.TyBool, nil, tBool)),
		node(0, []string{"a"}, tInt), node(6, []string{"a"}, tInt), node(-3, []string{"a"}, tInt), node(1<<32+3, []string{"a"}, tInt), node(impl.TyBag, []string{"a"}, tInt), node(impl.TyInt, []string{"a"}), node(impl.TyBool, nil, tInt),
		nestedType(6, typeF, bagOf), nestedType(30, tInt, bagOf),
	}
}

func TestRowTypesOfSchemas(t *testing.T) {
	for _, row := range []impl.Type{
		typeD, typeE, typeF, recOf("a", tBool), recOf("a b", tBool, tBool), recOf("a b c d", tInt, tBool, tInt, tBool), recOf("a0 a00 aa b", tInt, tInt, tInt, tInt), recOf("d", tInt),
	} {
		checkSchema(t, schemaOf(declare("d", row)), true)
		checkSchema(t, schemaOf(declare("a", row), declare("d", row), declare("e", row), declare("k", row)), true)
	}
	for _, row := range noRows() {
		checkSchema(t, schemaOf(declare("d", row)), false)
		for i := range 4 {
			s := schemaOf(declare("a", typeF), declare("b", typeD), declare("c", typeE), declare("d", typeF))
			s.Tables[i].Row = row
			checkSchema(t, s, false)
			checkSchema(t, schemaOf(s.Tables[:i+1]...), false)
		}
	}
}

func TestRowType(t *testing.T) {
	for i, name := range []string{"d", "e", "f"} {
		got, ok := impl.RowType(three, name)
		if want := []impl.Type{typeD, typeE, typeF}[i]; !ok || !sameType(got, want) {
			t.Errorf("RowType(%q) = %v, %v", name, got, ok)
		}
	}
	for _, name := range append([]string{"a", "g", "dd", "D", "d ", " d", "@d", "k", "n", "d\x00", "d,e"}, namesOfNone...) {
		if got, ok := impl.RowType(three, name); ok || !reflect.DeepEqual(got, impl.Type{}) {
			t.Errorf("RowType(%q) = %v, %v", name, got, ok)
		}
		checkRowType(t, impl.Schema{}, name)
	}
}

func TestRowTypeOfANameThatStandsTwice(t *testing.T) {
	list := []impl.TableDecl{declare("d", typeD), declare("e", typeE), declare("d", typeF), declare("", tInt), declare("e", tBool), declare("", tBool), declare("d", typeE)}
	for i := range list {
		s := schemaOf(list[i:]...)
		for _, name := range []string{"d", "e", "", "f"} {
			checkRowType(t, s, name)
		}
	}
	if got, ok := impl.RowType(schemaOf(list...), "d"); !ok || !sameType(got, typeD) {
		t.Errorf("the first d is %v, %v", got, ok)
	}
	if got, ok := impl.RowType(schemaOf(list[1:]...), "d"); !ok || !sameType(got, typeF) {
		t.Errorf("the first d is %v, %v", got, ok)
	}
	// The first one counts also where it is the zero Type.
	if got, ok := impl.RowType(schemaOf(declare("d", impl.Type{}), declare("d", typeD)), "d"); !ok || !sameType(got, impl.Type{}) {
		t.Errorf("the first d is %v, %v", got, ok)
	}
}

func TestRowTypeInSchemasThatAreNotValid(t *testing.T) {
	var many impl.Schema
	for i := range 1000 {
		many.Tables = append(many.Tables, declare(fmt.Sprint("t", i%700), recOf("a", impl.Type{Kind: i})))
	}
	for _, i := range []int{0, 1, 299, 300, 699} {
		if got, ok := impl.RowType(many, fmt.Sprint("t", i)); !ok || got.Args[0].Kind != i {
			t.Errorf("t%d is %v, %v", i, got, ok)
		}
	}
	if got, ok := impl.RowType(many, "t700"); ok || !reflect.DeepEqual(got, impl.Type{}) {
		t.Errorf("t700 is %v, %v", got, ok)
	}
	for _, row := range noRows() {
		checkRowType(t, schemaOf(declare("if", tInt), declare("d", row)), "d")
		checkRowType(t, schemaOf(declare("if", row), declare("d", tInt)), "if")
	}
}

func TestDatabasesOfASchema(t *testing.T) {
	checkDB(t, impl.Schema{}, impl.DB{}, true)
	checkDB(t, impl.Schema{}, impl.DB{Tables: []impl.TableData{}}, true)
	checkDB(t, three, filled, true)
	checkDB(t, three, impl.EmptyDB(three), true)
	checkDB(t, three, dbOf(dataOf("d"), dataOf("e", rowE(0, 1), rowE(1, 1), rowE(0, 1)), dataOf("f")), true)
	four := schemaOf(declare("a", typeF), declare("b", recOf("a b c d", tInt, tBool, tInt, tBool)), declare("c", typeD), declare("d", recOf("a", tBool)))
	checkDB(t, four, dbOf(dataOf("a", rowF(math.MaxInt), rowF(math.MinInt)), dataOf("b", vRec("a b c d", vInt(0), vBool(0), vInt(-1), vBool(1))), dataOf("c", rowD(0, 0)), dataOf("d", vRec("a", vBool(1)))), true)

	tables := filled.Tables
	for i := range tables {
		// A table too few, one too many, twice the same one, another name.
		checkDB(t, three, dbOf(slices.Delete(slices.Clone(tables), i, i+1)...), false)
		for _, extra := range []impl.TableData{{}, tables[i], dataOf("g"), dataOf("a", rowF(1))} {
			for at := range 4 {
				checkDB(t, three, dbOf(slices.Insert(slices.Clone(tables), at, extra)...), false)
			}
		}
		for j := range tables {
			swapped := slices.Clone(tables)
			swapped[i], swapped[j] = tables[j], tables[i]
			checkDB(t, three, dbOf(swapped...), i == j)
			renamed := slices.Clone(tables)
			renamed[i].Name = tables[j].Name
			checkDB(t, three, dbOf(renamed...), i == j)
			checkDB(t, three, dbOf(slices.Replace(slices.Clone(tables), i, i+1, tables[j])...), i == j)
		}
		for _, name := range append([]string{"a", "g", "dd", "D"}, namesOfNone...) {
			renamed := slices.Clone(tables)
			renamed[i].Name = name
			checkDB(t, three, dbOf(renamed...), false)
		}
		checkDB(t, schemaOf(three.Tables[i]), dbOf(tables[i]), true)
		checkDB(t, schemaOf(three.Tables[:i+1]...), dbOf(tables[:i+1]...), true)
		checkDB(t, schemaOf(slices.Delete(slices.Clone(three.Tables), i, i+1)...), dbOf(slices.Delete(slices.Clone(tables), i, i+1)...), true)
	}
	checkDB(t, three, impl.DB{}, false)
	checkDB(t, impl.Schema{}, filled, false)
	checkDB(t, impl.Schema{}, dbOf(impl.TableData{}), false)
	if impl.IsDB(three, impl.DB{Tables: make([]impl.TableData, 100000)}) {
		t.Error("many tables")
	}
}

// noRowsD are values that are no rows of the first table.
func noRowsD() []impl.Value {
	row := rowD(1, 2)
	return []impl.Value{
		{}, vInt(1), vBool(1), vBag(), vBag(row), vInts(1, 2), rowE(1, 2), rowF(1), vRec(""),
		// Another label, a label too few, too many, another order; another type.
		vRec("k m", row.Args...), vRec("j n", row.Args...), vRec("k", row.Args[:1]...), vRec("n", row.Args[1:]...), vRec("k n o", vInt(1), vInt(2), vInt(3)), vRec("a k n", vInt(1), vInt(2), vInt(3)), vRec("n k", row.Args...), vRec("k k", row.Args...), vRec("K n", row.Args...), vRec("k n n", vInt(1), vInt(2), vInt(2)),
		vRec("k n", vInt(1), vBool(1)), vRec("k n", vBool(1), vInt(1)), vRec("k n", row, row), vRec("k n", vInt(1), vBag()), vRec("k n", vInt(1), vInts(2)), vRec("k n", vInt(1), impl.Value{}),
		// Labels without Args and the other way round.
		vRec("k n"), vRec("k n", vInt(1)), vRec("k", vInt(1), vInt(2)), vRec("", vInt(1), vInt(2)), vRec("k n", vInt(1), vInt(2), vInt(3)),
		// No values.
		vNode(impl.VaRec, 1, "k n", row.Args...), vNode(impl.VaBag, 0, "k n", row.Args...), vNode(0, 0, "k n", row.Args...), vNode(5, 0, "k n", row.Args...), vNode(-3, 0, "k n", row.Args...), vNode(1<<32+3, 0, "k n", row.Args...),
		vRec("k n", vInt(1), vNode(impl.VaInt, 2, "a")), vRec("k n", vNode(impl.VaInt, 1, "", vInt(1)), vInt(2)), vRec("k n", vNode(9, 1, ""), vInt(2)),
		vRec("k n", make([]impl.Value, 3000)...), nestedValue(50, row, inBag),
	}
}

func TestRowsHaveTheTypeOfTheirTable(t *testing.T) {
	d := func(rows ...impl.Value) impl.DB { return dbOf(dataOf("d", rows...), dataOf("e"), dataOf("f")) }
	checkDB(t, three, d(rowD(1, 2)), true)
	for _, no := range noRowsD() {
		checkDB(t, three, d(no), false)
		for i := range 8 {
			rows := slices.Repeat([]impl.Value{rowD(1, 2)}, 8)
			rows[i] = no
			checkDB(t, three, d(rows...), false)
			checkDB(t, three, d(rows[:i+1]...), false)
		}
	}
	// Booleans are 0 and 1, integers any ints.
	for n := -2; n < 4; n++ {
		checkDB(t, three, dbOf(dataOf("d"), dataOf("e", rowE(n, n)), dataOf("f")), n == 0 || n == 1)
		checkDB(t, three, dbOf(dataOf("d"), dataOf("e"), dataOf("f", rowF(n), rowF(n+math.MaxInt), rowF(n))), true)
	}
	// Rows that fit another table.
	rows := []impl.Value{rowD(1, 2), rowE(1, 2), rowF(1)}
	for i := range rows {
		for j := range rows {
			checkDB(t, three, withRows(filled, i, rows[j]), i == j)
		}
	}
}

func TestDatabasesOfTheGreatestNumberOfRows(t *testing.T) {
	s := schemaOf(declare("a", typeF), declare("b", typeF), declare("c", typeF), declare("d", typeF))
	for n := range 12 {
		for i := range 4 {
			db := dbOf(dataOf("a"), dataOf("b"), dataOf("c", rowF(1)), dataOf("d", rowsF(8)...))
			db.Tables[i].Rows = rowsF(n)
			checkDB(t, s, db, n <= 8)
			// Equal rows count, each.
			db.Tables[i].Rows = slices.Repeat([]impl.Value{rowF(1)}, n)
			checkDB(t, s, db, n <= 8)
		}
		checkDB(t, s, dbOf(dataOf("a", rowsF(n)...), dataOf("b", rowsF(n)...), dataOf("c", rowsF(n)...), dataOf("d", rowsF(n)...)), n <= 8)
	}
	if impl.IsDB(s, dbOf(dataOf("a", rowsF(100000)...), dataOf("b"), dataOf("c"), dataOf("d"))) {
		t.Error("many rows")
	}
}

// noSchemas are schemas that are not valid, but for which filled has the right tables.
func noSchemas() []impl.Schema {
	var list []impl.Schema
	for i := range three.Tables {
		for _, row := range noRows() {
			s := schemaOf(slices.Clone(three.Tables)...)
			s.Tables[i].Row = row
			list = append(list, s)
		}
	}
	return list
}

func TestDatabasesOfSchemasThatAreNotValid(t *testing.T) {
	for _, s := range noSchemas() {
		checkDB(t, s, filled, false)
		checkDB(t, s, impl.EmptyDB(three), false)
	}
	for _, names := range []string{"e d", "d d", "d if", "A b", "d e f g h"} {
		var s impl.Schema
		var db impl.DB
		for _, name := range strings.Fields(names) {
			s.Tables = append(s.Tables, declare(name, typeF))
			db.Tables = append(db.Tables, dataOf(name, rowF(1), rowF(2)))
		}
		checkDB(t, s, db, false)
		checkDB(t, s, impl.EmptyDB(s), false)
	}
}

func TestRowsOf(t *testing.T) {
	for i, name := range []string{"d", "e", "f"} {
		if got := impl.RowsOf(filled, name); !sameRows(got, filled.Tables[i].Rows) {
			t.Errorf("RowsOf(%q) = %v", name, got)
		}
	}
	if len(impl.RowsOf(filled, "d")) != 3 || len(impl.RowsOf(filled, "e")) != 0 {
		t.Error("numbers of rows")
	}
	for _, name := range append([]string{"a", "g", "dd", "D", "d ", "@d", "k", "d\x00"}, namesOfNone...) {
		if got := impl.RowsOf(filled, name); got != nil {
			t.Errorf("RowsOf(%q) = %v", name, got)
		}
		if got := impl.RowsOf(impl.DB{}, name); got != nil {
			t.Errorf("RowsOf(no tables, %q) = %v", name, got)
		}
	}
}

func TestRowsOfANameThatStandsTwice(t *testing.T) {
	list := []impl.TableData{dataOf("d", rowD(1, 1), rowD(2, 2)), dataOf("e"), dataOf("d", rowF(3)), dataOf("", vInt(4)), dataOf("e", vInt(5)), dataOf("", vBag()), dataOf("d")}
	for i := range list {
		for _, name := range []string{"d", "e", "", "f"} {
			checkRowsOf(t, dbOf(list[i:]...), name)
		}
	}
	if got := impl.RowsOf(dbOf(list...), "d"); !sameRows(got, list[0].Rows) {
		t.Errorf("the rows of the first d are %v", got)
	}
	if got := impl.RowsOf(dbOf(list...), "e"); len(got) != 0 {
		t.Errorf("the rows of the first e are %v", got)
	}
}

func TestRowsOfDatabasesThatAreNotValid(t *testing.T) {
	for _, no := range noRowsD() {
		checkRowsOf(t, dbOf(dataOf("if", vInt(1)), dataOf("d", no, rowD(1, 1), no)), "d")
		checkRowsOf(t, dbOf(dataOf("if", no), dataOf("d", no)), "if")
	}
	if got := impl.RowsOf(dbOf(dataOf("d", rowsF(5000)...)), "d"); !sameRows(got, rowsF(5000)) {
		t.Errorf("%d rows", len(got))
	}
}

func TestEmptyDB(t *testing.T) {
	if got := impl.EmptyDB(three); !sameDB(got, dbOf(dataOf("d"), dataOf("e"), dataOf("f"))) {
		t.Errorf("EmptyDB = %v", got)
	}
	if got := impl.EmptyDB(impl.Schema{}); len(got.Tables) != 0 {
		t.Errorf("EmptyDB of no tables = %v", got)
	}
	// Each table counts, also where the schema is not valid.
	s := schemaOf(declare("z", tInt), declare("if", typeD), declare("", impl.Type{}), declare("z", typeF), declare("a", typeF))
	if got := impl.EmptyDB(s); !sameDB(got, dbOf(dataOf("z"), dataOf("if"), dataOf(""), dataOf("z"), dataOf("a"))) {
		t.Errorf("EmptyDB = %v", got)
	}
	for _, s := range noSchemas() {
		checkEmptyDB(t, s)
	}
}

func TestInsertRow(t *testing.T) {
	got, ok := impl.InsertRow(three, filled, "d", rowD(0, 5))
	want := dbOf(dataOf("d", rowD(1, 10), rowD(2, 20), rowD(1, 10), rowD(0, 5)), dataOf("e"), dataOf("f", rowF(7)))
	if !ok || !sameDB(got, want) {
		t.Errorf("InsertRow = %v, %v", got, ok)
	}
	got, ok = impl.InsertRow(three, got, "e", rowE(1, -1))
	want.Tables[1].Rows = []impl.Value{rowE(1, -1)}
	if !ok || !sameDB(got, want) {
		t.Errorf("InsertRow = %v, %v", got, ok)
	}
	rows := []impl.Value{rowD(1, 2), rowE(1, 2), rowF(7)}
	for i, name := range []string{"d", "e", "f"} {
		for j, row := range rows {
			checkVerdictOfInsert(t, three, filled, name, row, i == j)
			checkVerdictOfInsert(t, three, impl.EmptyDB(three), name, row, i == j)
		}
	}
	for _, no := range noRowsD() {
		checkVerdictOfInsert(t, three, filled, "d", no, false)
		checkVerdictOfInsert(t, three, impl.EmptyDB(three), "d", no, false)
	}
	for n := -2; n < 4; n++ {
		checkVerdictOfInsert(t, three, filled, "e", rowE(n, 1), n == 0 || n == 1)
		checkVerdictOfInsert(t, three, filled, "f", rowF(n+math.MaxInt), true)
	}
}

func TestInsertRowIntoATableThatIsMissing(t *testing.T) {
	for _, name := range append([]string{"a", "g", "dd", "D", "d ", "@d", "d\x00"}, namesOfNone...) {
		for _, row := range []impl.Value{rowD(1, 2), rowE(1, 2), rowF(1), {}} {
			checkVerdictOfInsert(t, three, filled, name, row, false)
			checkVerdictOfInsert(t, impl.Schema{}, impl.DB{}, name, row, false)
		}
	}
}

func TestInsertRowUntilATableIsFull(t *testing.T) {
	s := schemaOf(declare("a", typeF), declare("b", typeF))
	for _, name := range []string{"a", "b"} {
		db := impl.EmptyDB(s)
		for n := range 12 {
			row := rowF(n % 3)
			checkVerdictOfInsert(t, s, db, name, row, n < 8)
			db, _ = impl.InsertRow(s, db, name, row)
			if len(impl.RowsOf(db, name)) != min(n+1, 8) {
				t.Errorf("%d rows after %d", len(impl.RowsOf(db, name)), n+1)
			}
		}
		// A table that is full does not keep others from getting rows, and one row less makes room.
		other := map[string]string{"a": "b", "b": "a"}[name]
		checkVerdictOfInsert(t, s, db, other, rowF(1), true)
		for k := range 8 {
			less, _ := impl.DeleteRow(s, db, name, k)
			checkVerdictOfInsert(t, s, less, name, rowF(9), true)
		}
	}
	over := dbOf(dataOf("a", rowsF(9)...), dataOf("b"))
	checkVerdictOfInsert(t, s, over, "b", rowF(1), false)
	// One row less would be valid, but what is given is not.
	checkVerdictOfDelete(t, s, over, "a", 0, false)
}

func TestDeleteRow(t *testing.T) {
	db := dbOf(dataOf("d", rowD(1, 1), rowD(2, 2), rowD(2, 2), rowD(3, 3)), dataOf("e"), dataOf("f", rowF(7)))
	want := [][]impl.Value{{rowD(2, 2), rowD(2, 2), rowD(3, 3)}, {rowD(1, 1), rowD(2, 2), rowD(3, 3)}, {rowD(1, 1), rowD(2, 2), rowD(3, 3)}, {rowD(1, 1), rowD(2, 2), rowD(2, 2)}}
	for k := range want {
		got, ok := impl.DeleteRow(three, db, "d", k)
		if !ok || !sameDB(got, withRows(db, 0, want[k]...)) {
			t.Errorf("DeleteRow(%d) = %v, %v", k, got, ok)
		}
	}
	numbers := []int{-1, -2, -4, -5, 4, 5, 8, 100, math.MaxInt, math.MinInt, 1 << 32, -1 << 32}
	for _, k := range numbers {
		checkVerdictOfDelete(t, three, db, "d", k, false)
		checkVerdictOfDelete(t, three, db, "f", k, false)
		checkVerdictOfDelete(t, three, db, "e", k, false)
	}
	checkVerdictOfDelete(t, three, db, "e", 0, false)
	checkVerdictOfDelete(t, three, db, "f", 0, true)
	checkVerdictOfDelete(t, three, db, "f", 1, false)
	for n := 1; n <= 8; n++ {
		for k := -1; k <= n+1; k++ {
			checkVerdictOfDelete(t, three, withRows(db, 2, rowsF(n)...), "f", k, 0 <= k && k < n)
		}
	}
	for _, name := range append([]string{"a", "g", "dd", "D", "d ", "@d", "d\x00"}, namesOfNone...) {
		for _, k := range append(numbers, 0, 1, 2, 3) {
			checkVerdictOfDelete(t, three, db, name, k, false)
			checkVerdictOfDelete(t, impl.Schema{}, impl.DB{}, name, k, false)
		}
	}
}

func TestDeleteAllRows(t *testing.T) {
	full := dbOf(dataOf("d"), dataOf("e", rowE(1, 1)), dataOf("f", rowsF(8)...))
	for first := range 8 {
		db := full
		for n := 8; n > 0; n-- {
			checkVerdictOfDelete(t, three, db, "f", n, false)
			checkVerdictOfDelete(t, three, db, "f", first%n, true)
			db, _ = impl.DeleteRow(three, db, "f", first%n)
			if len(impl.RowsOf(db, "f")) != n-1 {
				t.Errorf("%d rows remain of %d", len(impl.RowsOf(db, "f")), n)
			}
		}
		if !sameDB(db, withRows(full, 2)) {
			t.Errorf("%v remains", db)
		}
	}
}

// noDBs returns databases that are not valid for the schema three, each but for one thing.
func noDBs() []impl.DB {
	list := []impl.DB{{}, dbOf(filled.Tables[:2]...), dbOf(filled.Tables[1:]...), dbOf(append(slices.Clone(filled.Tables), dataOf("g"))...), dbOf(append(slices.Clone(filled.Tables), filled.Tables[0])...)}
	for i := range filled.Tables {
		renamed := impl.DB{Tables: slices.Clone(filled.Tables)}
		renamed.Tables[i].Name = "dd"
		list = append(list, renamed, withRows(filled, i, rowD(1, 1), impl.Value{}, rowD(2, 2)), withRows(filled, i, vNode(7, 3, "b a", vInts(2, 1), vInt(1))), withRows(filled, i, make([]impl.Value, 9)...))
	}
	for _, no := range noRowsD() {
		list = append(list, withRows(filled, 0, rowD(1, 2), no, rowD(3, 4)))
	}
	return append(list, withRows(filled, 0, slices.Repeat([]impl.Value{rowD(1, 2)}, 9)...), dbOf(filled.Tables[2], filled.Tables[1], filled.Tables[0]))
}

func TestDatabasesThatAreNotValidAreReturnedUnchanged(t *testing.T) {
	rows := []impl.Value{rowD(1, 2), rowE(1, 2), rowF(1)}
	for _, db := range noDBs() {
		checkDB(t, three, db, false)
		for i, name := range []string{"d", "e", "f"} {
			checkVerdictOfInsert(t, three, db, name, rows[i], false)
			checkVerdictOfDelete(t, three, db, name, 0, false)
			checkVerdictOfDelete(t, three, db, name, 1, false)
		}
	}
	for _, s := range append(noSchemas(), impl.Schema{}, schemaOf(three.Tables[:2]...), schemaOf(three.Tables[2], three.Tables[1], three.Tables[0])) {
		for i, name := range []string{"d", "e", "f"} {
			checkVerdictOfInsert(t, s, filled, name, rows[i], false)
			checkVerdictOfDelete(t, s, filled, name, 0, false)
		}
	}
}

func TestAllSmallDatabases(t *testing.T) {
	rowLists := [][]impl.Value{nil, {rowF(1)}, {rowF(1), rowF(2)}, {rowF(2), rowF(1)}, {rowD(1, 2)}, {{}}}
	var tables []impl.TableData
	for _, name := range []string{"d", "e", "if"} {
		for _, rows := range rowLists {
			tables = append(tables, dataOf(name, rows...))
		}
	}
	dbs := []impl.DB{{}}
	for _, a := range tables {
		dbs = append(dbs, dbOf(a))
		for _, b := range tables {
			dbs = append(dbs, dbOf(a, b))
		}
	}
	var schemas []impl.Schema
	for _, row := range []impl.Type{typeF, typeD, tInt} {
		for _, other := range []impl.Type{typeF, typeD} {
			schemas = append(schemas, schemaOf(declare("d", row)), schemaOf(declare("d", row), declare("e", other)), schemaOf(declare("e", row), declare("d", other)), schemaOf(declare("d", row), declare("d", other)), schemaOf(declare("d", row), declare("if", other)))
		}
	}
	valid := 0
	for _, s := range append(schemas, impl.Schema{}) {
		for _, db := range dbs {
			want := dbBySentences(s, db)
			checkDB(t, s, db, want)
			if want {
				valid++
			}
		}
	}
	if valid < 40 {
		t.Errorf("only %d databases are valid", valid)
	}
}

func checkEqualSchemas(t *testing.T, a, b impl.Schema, want bool) {
	t.Helper()
	if sameSchema(a, b) != want {
		t.Errorf("the sentences do not say %v of %v and %v", want, a, b)
	}
	if impl.EqualSchema(a, b) != want || impl.EqualSchema(b, a) != want {
		t.Errorf("EqualSchema(%v, %v) = %v, %v the other way round", a, b, impl.EqualSchema(a, b), impl.EqualSchema(b, a))
	}
}

func checkEqualDBs(t *testing.T, a, b impl.DB, want bool) {
	t.Helper()
	if sameDB(a, b) != want {
		t.Errorf("the sentences do not say %v of %v and %v", want, a, b)
	}
	if impl.EqualDB(a, b) != want || impl.EqualDB(b, a) != want {
		t.Errorf("EqualDB(%v, %v) = %v, %v the other way round", a, b, impl.EqualDB(a, b), impl.EqualDB(b, a))
	}
}

// schemaVariants returns schemas that differ from s in one field, in a table more or less, or in the order of two tables.
func schemaVariants(s impl.Schema) []impl.Schema {
	var out []impl.Schema
	for i := range len(s.Tables) + 1 {
		for _, extra := range []impl.TableDecl{{}, declare("q", typeF)} {
			out = append(out, schemaOf(slices.Insert(slices.Clone(s.Tables), i, extra)...))
		}
	}
	for i, table := range s.Tables {
		with := func(other impl.TableDecl) {
			out = append(out, schemaOf(slices.Replace(slices.Clone(s.Tables), i, i+1, other)...))
		}
		with(declare(table.Name+"0", table.Row))
		with(declare("q"+table.Name, table.Row))
		with(impl.TableDecl{Name: "q"})
		for _, row := range variants(table.Row) {
			with(declare(table.Name, row))
		}
		out = append(out, schemaOf(slices.Delete(slices.Clone(s.Tables), i, i+1)...), schemaOf(slices.Insert(slices.Clone(s.Tables), i, table)...))
		for j := range i {
			swapped := slices.Clone(s.Tables)
			swapped[i], swapped[j] = swapped[j], swapped[i]
			out = append(out, schemaOf(swapped...))
		}
	}
	return out
}

// valueVariants returns values that differ from v in one field, at the top or further inside.
func valueVariants(v impl.Value) []impl.Value {
	var out []impl.Value
	vary := func(kind, n int, labels []string, args []impl.Value) {
		out = append(out, impl.Value{Kind: kind, N: n, Labels: labels, Args: args})
	}
	vary(v.Kind+1, v.N, v.Labels, v.Args)
	vary(v.Kind-1, v.N, v.Labels, v.Args)
	vary(v.Kind, v.N+1, v.Labels, v.Args)
	vary(v.Kind, v.N+1<<32, v.Labels, v.Args)
	vary(v.Kind, v.N, append(slices.Clone(v.Labels), "z"), v.Args)
	vary(v.Kind, v.N, append([]string{""}, v.Labels...), v.Args)
	vary(v.Kind, v.N, v.Labels, append(slices.Clone(v.Args), vInt(0)))
	vary(v.Kind, v.N, v.Labels, append([]impl.Value{{}}, v.Args...))
	for i, l := range v.Labels {
		vary(v.Kind, v.N, slices.Replace(slices.Clone(v.Labels), i, i+1, l+"0"), v.Args)
		vary(v.Kind, v.N, slices.Delete(slices.Clone(v.Labels), i, i+1), v.Args)
	}
	for i, a := range v.Args {
		vary(v.Kind, v.N, v.Labels, slices.Delete(slices.Clone(v.Args), i, i+1))
		for _, inner := range valueVariants(a) {
			vary(v.Kind, v.N, v.Labels, slices.Replace(slices.Clone(v.Args), i, i+1, inner))
		}
	}
	return out
}

// dbVariants returns databases that differ from db in one field, in a table or row more or less, or in the order of two different ones.
func dbVariants(db impl.DB) []impl.DB {
	var out []impl.DB
	for i := range len(db.Tables) + 1 {
		for _, extra := range []impl.TableData{{}, dataOf("q", rowF(1))} {
			out = append(out, dbOf(slices.Insert(slices.Clone(db.Tables), i, extra)...))
		}
	}
	for i, table := range db.Tables {
		for _, name := range []string{table.Name + "0", "q" + table.Name} {
			out = append(out, dbOf(slices.Replace(slices.Clone(db.Tables), i, i+1, dataOf(name, table.Rows...))...))
		}
		out = append(out, dbOf(slices.Delete(slices.Clone(db.Tables), i, i+1)...), dbOf(slices.Insert(slices.Clone(db.Tables), i, table)...))
		for j := range i {
			swapped := slices.Clone(db.Tables)
			swapped[i], swapped[j] = swapped[j], swapped[i]
			out = append(out, dbOf(swapped...))
		}
		for _, rows := range rowsVariants(table.Rows) {
			out = append(out, withRows(db, i, rows...))
		}
	}
	return out
}

func rowsVariants(rows []impl.Value) [][]impl.Value {
	out := [][]impl.Value{append(slices.Clone(rows), impl.Value{}), append([]impl.Value{rowF(1)}, rows...)}
	for i, row := range rows {
		out = append(out, slices.Delete(slices.Clone(rows), i, i+1), slices.Insert(slices.Clone(rows), i, row))
		for j := range i {
			if !sameValue(rows[i], rows[j]) {
				swapped := slices.Clone(rows)
				swapped[i], swapped[j] = swapped[j], swapped[i]
				out = append(out, swapped)
			}
		}
		for _, v := range valueVariants(row) {
			out = append(out, slices.Replace(slices.Clone(rows), i, i+1, v))
		}
	}
	return out
}

func TestEqualSchema(t *testing.T) {
	list := []impl.Schema{
		{}, three, schemaOf(three.Tables[0]), schemaOf(impl.TableDecl{}), schemaOf(declare("a", typeE), declare("b", typeE), declare("c", typeE), declare("d", typeE)),
		// Schemas that are not valid.
		schemaOf(declare("if", funOf(typeD, bagOf(tInt))), declare("", recOf("b a", typeD))), schemaOf(declare("z", tInt), declare("z", tBool), declare("a", node(9, []string{"x"}, typeD, tInt)), declare("b", typeF), declare("c", typeF), declare("d", typeF)),
	}
	for i, a := range list {
		for j, b := range list {
			checkEqualSchemas(t, a, b, i == j)
		}
		checkEqualSchemas(t, a, schemaWithSpare(a), true)
		for _, v := range schemaVariants(a) {
			checkEqualSchemas(t, a, v, false)
		}
	}
	// The same names and types, put together otherwise.
	checkEqualSchemas(t, schemaOf(declare("a", typeD), declare("b", typeE)), schemaOf(declare("a", typeE), declare("b", typeD)), false)
	checkEqualSchemas(t, schemaOf(declare("a", recOf("b", tInt))), schemaOf(declare("b", recOf("a", tInt))), false)
}

func TestEqualDB(t *testing.T) {
	list := []impl.DB{
		{}, filled, dbOf(filled.Tables[0]), dbOf(impl.TableData{}), impl.EmptyDB(three), dbOf(dataOf("a", rowsF(8)...), dataOf("b", rowsF(7)...)),
		// Databases that are not valid, also of rows with bags: their elements count in their order.
		dbOf(dataOf("if", vInts(1, 2), vInts(2, 1), impl.Value{}), dataOf("", vNode(9, 4, "b a", vInts(3), vRec("x"))), dataOf("if")),
		dbOf(dataOf("d", rowsF(9)...)),
	}
	for i, a := range list {
		for j, b := range list {
			checkEqualDBs(t, a, b, i == j)
		}
		checkEqualDBs(t, a, dbWithSpare(a), true)
		for _, v := range dbVariants(a) {
			checkEqualDBs(t, a, v, false)
		}
	}
	checkEqualDBs(t, dbOf(dataOf("d", vInts(1, 2))), dbOf(dataOf("d", vInts(2, 1))), false)
	checkEqualDBs(t, dbOf(dataOf("a", rowF(1)), dataOf("b")), dbOf(dataOf("a"), dataOf("b", rowF(1))), false)
	checkEqualDBs(t, dbOf(dataOf("a", rowF(1), rowF(2)), dataOf("b", rowF(3))), dbOf(dataOf("a", rowF(1)), dataOf("b", rowF(2), rowF(3))), false)
	for _, order := range orders([]impl.Value{rowF(1), rowF(2), rowF(3), rowF(4)}) {
		checkEqualDBs(t, dbOf(dataOf("f", rowF(1), rowF(2), rowF(3), rowF(4))), dbOf(dataOf("f", order...)), sameRows(order, []impl.Value{rowF(1), rowF(2), rowF(3), rowF(4)}))
	}
}

// emptiedSchema and emptiedDB have empty slices in place of nil ones; nilledSchema and nilledDB the other way round.

func emptiedSchema(s impl.Schema) impl.Schema {
	out := impl.Schema{Tables: []impl.TableDecl{}}
	for _, table := range s.Tables {
		out.Tables = append(out.Tables, declare(table.Name, emptied(table.Row)))
	}
	return out
}

func nilledSchema(s impl.Schema) impl.Schema {
	var out impl.Schema
	for _, table := range s.Tables {
		out.Tables = append(out.Tables, declare(table.Name, nilledType(table.Row)))
	}
	return out
}

func emptiedDB(db impl.DB) impl.DB {
	out := impl.DB{Tables: []impl.TableData{}}
	for _, table := range db.Tables {
		rows := []impl.Value{}
		for _, row := range table.Rows {
			rows = append(rows, emptiedValue(row))
		}
		out.Tables = append(out.Tables, impl.TableData{Name: table.Name, Rows: rows})
	}
	return out
}

func nilledDB(db impl.DB) impl.DB {
	var out impl.DB
	for _, table := range db.Tables {
		var rows []impl.Value
		for _, row := range table.Rows {
			rows = append(rows, nilledValue(row))
		}
		out.Tables = append(out.Tables, impl.TableData{Name: table.Name, Rows: rows})
	}
	return out
}

func TestNilAndEmptySlicesOfDatabases(t *testing.T) {
	for _, s := range append(noSchemas(), impl.Schema{}, three, schemaOf(impl.TableDecl{}), schemaOf(declare("d", recOf("")))) {
		valid := schemaBySentences(s)
		for _, a := range []impl.Schema{emptiedSchema(s), nilledSchema(s)} {
			checkSchema(t, a, valid)
			checkEqualSchemas(t, a, s, true)
			checkEqualSchemas(t, a, emptiedSchema(s), true)
		}
	}
	for _, db := range append(noDBs(), filled, impl.EmptyDB(three), dbOf(impl.TableData{})) {
		valid := dbBySentences(three, db)
		for _, a := range []impl.DB{emptiedDB(db), nilledDB(db)} {
			for _, s := range []impl.Schema{emptiedSchema(three), nilledSchema(three)} {
				checkDB(t, s, a, valid)
			}
			checkEqualDBs(t, a, db, true)
			checkEqualDBs(t, a, emptiedDB(db), true)
		}
	}
	checkDB(t, emptiedSchema(impl.Schema{}), nilledDB(impl.DB{}), true)
	checkDB(t, nilledSchema(impl.Schema{}), emptiedDB(impl.DB{}), true)
}

// schemaWithSpare and dbWithSpare return an argument in new memory, with unused capacity in every slice.

func schemaWithSpare(s impl.Schema) impl.Schema {
	tables := make([]impl.TableDecl, len(s.Tables), len(s.Tables)+2)
	for i, table := range s.Tables {
		tables[i] = declare(table.Name, withSpare(table.Row))
	}
	for i := len(tables); i < cap(tables); i++ {
		tables[:cap(tables)][i].Name = spare
	}
	return impl.Schema{Tables: tables}
}

func dbWithSpare(db impl.DB) impl.DB {
	tables := make([]impl.TableData, len(db.Tables), len(db.Tables)+2)
	for i, table := range db.Tables {
		tables[i] = impl.TableData{Name: table.Name, Rows: valueWithSpare(vBag(table.Rows...)).Args}
	}
	for i := len(tables); i < cap(tables); i++ {
		tables[:cap(tables)][i].Name = spare
	}
	return impl.DB{Tables: tables}
}

// wholeSchema and wholeDB return an argument with the unused capacity of its slices, all in new memory.

func wholeSchema(s impl.Schema) impl.Schema {
	var out impl.Schema
	for _, table := range s.Tables[:cap(s.Tables)] {
		out.Tables = append(out.Tables, declare(table.Name, wholeType(table.Row)))
	}
	return out
}

func wholeDB(db impl.DB) impl.DB {
	var out impl.DB
	for _, table := range db.Tables[:cap(db.Tables)] {
		out.Tables = append(out.Tables, impl.TableData{Name: table.Name, Rows: wholeValue(impl.Value{Args: table.Rows}).Args})
	}
	return out
}

// overwriteRows and overwriteDB change all memory of a result or an argument.

func overwriteRows(rows []impl.Value) { overwriteValue(impl.Value{Args: rows}) }

func overwriteDB(db impl.DB) {
	for i, table := range db.Tables[:cap(db.Tables)] {
		overwriteRows(table.Rows)
		db.Tables[:cap(db.Tables)][i] = dataOf("overwritten", vInt(77))
	}
}

func overwriteSchema(s impl.Schema) {
	for i, table := range s.Tables[:cap(s.Tables)] {
		overwrite(table.Row)
		s.Tables[:cap(s.Tables)][i] = declare("overwritten", impl.Type{Kind: 77})
	}
}

// memory calls all functions of the chapter with arguments that have unused capacity.
type memory struct {
	s   impl.Schema
	db  impl.DB
	row impl.Value
}

func newMemory(s impl.Schema, db impl.DB, row impl.Value) memory {
	return memory{schemaWithSpare(s), dbWithSpare(db), valueWithSpare(row)}
}

// results returns what every function gives for a name and a number, each as a database and a type.
func (m memory) results(name string, k int) (dbs []impl.DB, row impl.Type) {
	impl.IsSchema(m.s)
	impl.IsDB(m.s, m.db)
	impl.EqualSchema(m.s, schemaWithSpare(m.s))
	impl.EqualDB(m.db, dbWithSpare(m.db))
	row, _ = impl.RowType(m.s, name)
	inserted, _ := impl.InsertRow(m.s, m.db, name, m.row)
	deleted, _ := impl.DeleteRow(m.s, m.db, name, k)
	return []impl.DB{dbOf(impl.TableData{Name: name, Rows: impl.RowsOf(m.db, name)}), impl.EmptyDB(m.s), inserted, deleted}, row
}

func (m memory) overwrite() {
	overwriteSchema(m.s)
	overwriteDB(m.db)
	overwriteValue(m.row)
}

func TestArgumentsOfDatabasesAreKept(t *testing.T) {
	for i, db := range append(noDBs(), filled, impl.EmptyDB(three)) {
		for _, s := range []impl.Schema{three, schemaOf(declare("d", recOf("b a", typeD, bagOf(tInt))), declare("e", typeE), declare("d", typeF)), {}} {
			for n, row := range []impl.Value{rowD(5, 6), rowE(1, 1), vNode(9, 1, "z y", vInts(2, 1))} {
				name, k := []string{"d", "e", "f", "none", "dd"}[(i+n)%5], (i+n)%4
				checkMemory(t, s, db, row, name, k)
				checkMemory(t, s, db, row, "d", k)
			}
		}
	}
}

func checkMemory(t *testing.T, s impl.Schema, db impl.DB, row impl.Value, name string, k int) {
	t.Helper()
	m := newMemory(s, db, row)
	before := memory{wholeSchema(m.s), wholeDB(m.db), wholeValue(m.row)}
	want, wantRow := newMemory(s, db, row).results(name, k)
	again, againRow := m.results(name, k)
	got, gotRow := m.results(name, k)
	// Whatever happens to one result, neither the arguments nor the other results change.
	for i := range got {
		overwriteDB(got[i])
		for j := range got {
			if j > i && !sameDB(got[j], want[j]) {
				t.Errorf("the result %d became %v with the result %d", j, got[j], i)
			}
		}
	}
	overwrite(gotRow)
	if !sameSchema(wholeSchema(m.s), before.s) || !sameDB(wholeDB(m.db), before.db) || !sameValue(wholeValue(m.row), before.row) {
		t.Errorf("the memory of %v, %v and %v became %v, %v and %v", s, db, row, wholeSchema(m.s), wholeDB(m.db), wholeValue(m.row))
	}
	// Whatever happens to the arguments, no result changes.
	m.overwrite()
	for i := range again {
		if !sameDB(again[i], want[i]) {
			t.Errorf("the result %d of %v became %v", i, db, again[i])
		}
	}
	if !sameType(againRow, wantRow) {
		t.Errorf("the row type became %v", againRow)
	}
}

func TestSlicesOfADatabaseAreApart(t *testing.T) {
	shared := []impl.Value{rowF(1), rowF(1), rowF(1), rowF(1)}
	shared[1] = shared[0]
	s := schemaOf(declare("a", typeF), declare("b", typeF), declare("c", typeF))
	db := dbOf(dataOf("a", shared[:3]...), dataOf("b", shared[:2]...), dataOf("c", shared[1:]...))
	for i, result := range []func() impl.DB{
		func() impl.DB { out, _ := impl.InsertRow(s, db, "b", shared[0]); return out },
		func() impl.DB { out, _ := impl.InsertRow(s, db, "none", shared[0]); return out },
		func() impl.DB { out, _ := impl.InsertRow(s, db, "b", impl.Value{}); return out },
		func() impl.DB { out, _ := impl.InsertRow(impl.Schema{}, db, "b", shared[0]); return out },
		func() impl.DB { out, _ := impl.DeleteRow(s, db, "b", 0); return out },
		func() impl.DB { out, _ := impl.DeleteRow(s, db, "b", 7); return out },
		func() impl.DB { out, _ := impl.DeleteRow(impl.Schema{}, db, "b", 0); return out },
		func() impl.DB { return dbOf(impl.TableData{Name: "c", Rows: impl.RowsOf(db, "c")}) },
	} {
		want := result()
		for place := range want.Tables {
			for k := range want.Tables[place].Rows {
				got := result()
				overwriteValue(got.Tables[place].Rows[k])
				got.Tables[place].Rows[k] = want.Tables[place].Rows[k]
				for _, table := range got.Tables {
					// What lies behind the end of one slice is not part of another one.
					_ = append(table.Rows, vInt(66))
				}
				if !sameDB(got, want) {
					t.Errorf("result %d: row %d of table %d is shared: %v", i, k, place, got)
				}
			}
		}
	}
	rows := node(9, nil, typeD, typeD)
	got, _ := impl.RowType(schemaOf(declare("d", rows)), "d")
	overwrite(got.Args[0])
	if !sameType(got.Args[1], typeD) {
		t.Errorf("the second part became %v", got.Args[1])
	}
}

func TestDatabasesBeyondAllLimits(t *testing.T) {
	within := []impl.Value{{Kind: impl.VaBag}}
	within[0].Args = within
	doubled := nestedValue(200, rowD(1, 2), func(v impl.Value) impl.Value { return vBag(v, v) })
	for i, row := range []impl.Value{within[0], doubled, vRec("k n", vInt(1), doubled), vRec("k n", within[0], vInt(1)), vRec("k n", make([]impl.Value, 100000)...), nestedValue(100000, rowD(1, 2), inBag)} {
		if got, ok := impl.InsertRow(three, filled, "d", row); ok || !sameDB(got, filled) {
			t.Errorf("row %d was inserted", i)
		}
		for place := range filled.Tables {
			db := withRows(filled, place, row)
			if impl.IsDB(three, db) || impl.EqualDB(db, filled) || impl.EqualDB(filled, db) {
				t.Errorf("row %d is one of table %d", i, place)
			}
			// Only the rows of the table that is named are copied.
			if got := impl.RowsOf(db, []string{"e", "d", "d"}[place]); place > 0 && !sameRows(got, filled.Tables[0].Rows) || place == 0 && len(got) != 0 {
				t.Errorf("RowsOf = %v", got)
			}
		}
	}
	ofType := []impl.Type{{Kind: impl.TyRec, Labels: []string{"a"}}}
	ofType[0].Args = ofType
	wide := nestedType(200, tInt, func(x impl.Type) impl.Type { return recOf("a b", x, x) })
	for i, row := range []impl.Type{ofType[0], wide, recOf("k n", tInt, wide), recOf("k n", ofType[0], tInt), nestedType(100000, typeD, bagOf)} {
		s := schemaOf(declare("d", row), declare("e", typeE), declare("f", typeF))
		if impl.IsSchema(s) || impl.IsDB(s, filled) || impl.IsDB(s, impl.EmptyDB(s)) || impl.EqualSchema(s, three) || impl.EqualSchema(three, s) {
			t.Errorf("type %d is a row type", i)
		}
		if got, ok := impl.InsertRow(s, filled, "d", rowD(1, 2)); ok || !sameDB(got, filled) {
			t.Errorf("a row of type %d was inserted", i)
		}
		if got, ok := impl.DeleteRow(s, filled, "d", 0); ok || !sameDB(got, filled) {
			t.Errorf("a row of type %d was deleted", i)
		}
		if got, ok := impl.RowType(s, "e"); !ok || !sameType(got, typeE) {
			t.Errorf("beside type %d, RowType = %v, %v", i, got, ok)
		}
	}
}

func TestDeepDatabasesNeedNoStack(t *testing.T) {
	defer debug.SetMaxStack(debug.SetMaxStack(4 << 20))
	const depth = 200000
	row := nestedValue(depth, rowD(1, 2), inBag)
	db := dbOf(dataOf("d", rowD(1, 2), row), dataOf("e"), dataOf("f"))
	if got := impl.RowsOf(db, "d"); len(got) != 2 || impl.CompareValues(got[1], row) != 0 {
		t.Error("RowsOf")
	}
	if impl.IsDB(three, db) || !impl.EqualDB(db, db) || impl.EqualDB(db, dbOf(dataOf("d", rowD(1, 2), inBag(row)), dataOf("e"), dataOf("f"))) {
		t.Error("comparison")
	}
	if got, ok := impl.InsertRow(three, db, "d", rowD(1, 2)); ok || !impl.EqualDB(got, db) {
		t.Error("InsertRow")
	}
	if got, ok := impl.DeleteRow(three, db, "d", 1); ok || !impl.EqualDB(got, db) {
		t.Error("DeleteRow")
	}
	s := schemaOf(declare("d", nestedType(depth, typeD, bagOf)))
	got, ok := impl.RowType(s, "d")
	if !ok || !impl.EqualType(got, s.Tables[0].Row) || impl.IsSchema(s) || !impl.EqualSchema(s, s) || impl.EqualSchema(s, schemaOf(declare("d", bagOf(got)))) {
		t.Error("RowType")
	}
	if !sameDB(impl.EmptyDB(s), dbOf(dataOf("d"))) {
		t.Error("EmptyDB")
	}
}

func TestInsertingManyRowsAndDeletingThemInAnyOrder(t *testing.T) {
	for _, order := range orders([]impl.Value{rowD(1, 1), rowD(2, 1), rowD(1, 2), rowD(3, 0), rowD(1, 1)}) {
		db := filled
		for _, row := range order {
			checkVerdictOfInsert(t, three, db, "d", row, true)
			db, _ = impl.InsertRow(three, db, "d", row)
		}
		if want := append(slices.Clone(filled.Tables[0].Rows), order...); !sameRows(impl.RowsOf(db, "d"), want) {
			t.Errorf("the rows are %v", db)
		}
		checkVerdictOfInsert(t, three, db, "d", order[0], false)
		for range order {
			checkVerdictOfDelete(t, three, db, "d", 3, true)
			db, _ = impl.DeleteRow(three, db, "d", 3)
		}
		if !sameDB(db, filled) {
			t.Errorf("%v remains", db)
		}
	}
}
