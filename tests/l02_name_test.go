package tests

import (
	"slices"
	"strings"
	"testing"

	"loop.example/g00587/impl"
)

// spare is what the unused capacity of an argument holds, so that a test sees it overwritten.
const spare = "spare"

// argument returns a list with unused capacity, and all of its memory.
func argument(list ...string) (arg, whole []string) {
	whole = append(slices.Clone(list), spare, spare, spare, spare)
	return whole[:len(list)], whole
}

// checkKept fails the test unless the memory of an argument is as it was, also after all of result is overwritten.
func checkKept(t *testing.T, name string, whole []string, result []string, list ...string) {
	t.Helper()
	want := append(slices.Clone(list), spare, spare, spare, spare)
	if !slices.Equal(whole, want) {
		t.Errorf("%s changed the memory of its argument to %q", name, whole)
	}
	result = result[:cap(result)]
	for i := range result {
		result[i] = "overwritten"
	}
	if !slices.Equal(whole, want) {
		t.Errorf("%s returned memory of its argument, which became %q", name, whole)
	}
}

// listsOver returns all lists of at most max of the strings of words.
func listsOver(words []string, max int) [][]string {
	all, last := [][]string{nil}, [][]string{nil}
	for range max {
		var next [][]string
		for _, list := range last {
			for _, w := range words {
				next = append(next, append(slices.Clone(list), w))
			}
		}
		all, last = append(all, next...), next
	}
	return all
}

func checkIsName(t *testing.T, s string, want bool) {
	t.Helper()
	if got := impl.IsName(s); got != want {
		t.Errorf("IsName(%.40q) = %v", s, got)
	}
}

func TestMaxName(t *testing.T) {
	if impl.MaxName != 4 {
		t.Errorf("MaxName = %d", impl.MaxName)
	}
	for n := 1; n <= 20; n++ {
		checkIsName(t, strings.Repeat("a", n), n <= 4)
		checkIsName(t, "z"+strings.Repeat("9", n-1), n <= 4)
	}
	checkIsName(t, "abcd", true)
	checkIsName(t, "abcde", false)
	checkIsName(t, "x123", true)
	checkIsName(t, "x1234", false)
	checkIsName(t, strings.Repeat("a", 1<<20), false)
}

func TestNames(t *testing.T) {
	for _, s := range []string{"a", "z", "m", "ab", "zz", "a0", "a9", "z09", "x1", "x1y2", "true", "f0r", "iff", "of", "fi", "rof", "o"} {
		checkIsName(t, s, true)
	}
}

func TestIfAndForAreNoNames(t *testing.T) {
	checkIsName(t, "if", false)
	checkIsName(t, "for", false)
	for _, s := range []string{"i", "f", "fo", "ifs", "ifx", "if0", "ifif", "iffy", "fore", "for1", "form", "fors", "xif", "xfor", "aif", "afor", "i1", "fr"} {
		checkIsName(t, s, true)
	}
	for _, s := range []string{"If", "iF", "IF", "For", "FOR", "fOr", "if ", " if", "for ", " for"} {
		checkIsName(t, s, false)
	}
}

func TestWordsThatAreNoNames(t *testing.T) {
	for _, s := range []string{
		"", "1", "0", "9", "1x", "0a", "9abc", "12", "1234", "00",
		"A", "Z", "Ab", "aB", "abC", "abcD", "ABCD",
		"-", "_", "a_", "_a", "a-b", "a.b", "a b", " a", "a ", "a\n", "\na", "\t", " ", "$1", "a$", "a,b", "a'", "(a)", "?",
		"\x00", "a\x00", "\x00a", "\x7f", "a\x7f", "`", "{", "a`", "a{", "/", ":", "a/", "a:", "@", "[",
	} {
		checkIsName(t, s, false)
	}
}

func TestBytesFrom128OnFormNoName(t *testing.T) {
	for _, s := range []string{
		"é", "aé", "éa", "ä", "ß", "aß", "µ", "ª", "º", "x²", "x٣", "٣", "x１", "１", "ａ", "aａ", "а", "aа", "ı", "ſ", "K", "\u0301", "a\u0301",
		"\ufffd", "a\ufffd", "\ufeffa", "𝐚", "\xff", "a\xff", "\xffa", "\x80", "a\x80", "\xc3", "a\xc3", "ab\xe2\x82", "\xc1\xa1", "a\xc1\xa1", "\xed\xa0\x80", "\xe1", "\xfe\xfe",
	} {
		checkIsName(t, s, false)
	}
	for b := 128; b < 256; b++ {
		by := string([]byte{byte(b)})
		for _, s := range []string{by, "a" + by, by + "a", "a" + by + "b", "abc" + by, by + by, "a" + by + by, "1" + by} {
			checkIsName(t, s, false)
		}
	}
}

// nameByItsBytes is another form of the definition, by a list of the permitted bytes.
func nameByItsBytes(s string) bool {
	const letters, digits = "abcdefghijklmnopqrstuvwxyz", "0123456789"
	if len(s) == 0 || len(s) > 4 || s == "if" || s == "for" || strings.IndexByte(letters, s[0]) < 0 {
		return false
	}
	for i := range len(s) {
		if strings.IndexByte(letters+digits, s[i]) < 0 {
			return false
		}
	}
	return true
}

func TestIsNameOfAllShortStrings(t *testing.T) {
	for a := range 256 {
		checkIsName(t, string([]byte{byte(a)}), nameByItsBytes(string([]byte{byte(a)})))
		for b := range 256 {
			s := string([]byte{byte(a), byte(b)})
			checkIsName(t, s, nameByItsBytes(s))
			checkIsName(t, "f"+s, nameByItsBytes("f"+s))
			checkIsName(t, "fo"+s, nameByItsBytes("fo"+s))
		}
	}
	for _, s := range stringsOver("afior09A \xc3", 5) {
		checkIsName(t, s, nameByItsBytes(s))
	}
}

func TestIndexOf(t *testing.T) {
	for _, c := range []struct {
		list []string
		s    string
		want int
	}{
		{nil, "a", -1},
		{nil, "", -1},
		{[]string{}, "a", -1},
		{[]string{"a"}, "a", 0},
		{[]string{"a"}, "b", -1},
		{[]string{"a"}, "", -1},
		{[]string{"a"}, "ab", -1},
		{[]string{"ab"}, "a", -1},
		{[]string{"a", "b", "c"}, "a", 0},
		{[]string{"a", "b", "c"}, "b", 1},
		{[]string{"a", "b", "c"}, "c", 2},
		{[]string{"a", "b", "c"}, "d", -1},
		{[]string{"c", "a", "b"}, "b", 2},
		{[]string{"b", "a", "b", "a"}, "a", 1},
		{[]string{"b", "b", "b"}, "b", 0},
		{[]string{"x", "", ""}, "", 1},
		{[]string{"A", "a"}, "a", 1},
		{[]string{"\xff", "\xfe"}, "\xfe", 1},
		{[]string{"\xff", "\xfe"}, "\ufffd", -1},
		{[]string{"1x", "if"}, "if", 1},
	} {
		if got := impl.IndexOf(c.list, c.s); got != c.want {
			t.Errorf("IndexOf(%q, %q) = %d, want %d", c.list, c.s, got, c.want)
		}
	}
}

func TestIndexOfLooksIntoNoUnusedCapacity(t *testing.T) {
	arg, whole := argument("a", "b")
	if got := impl.IndexOf(arg, spare); got != -1 {
		t.Errorf("IndexOf = %d", got)
	}
	checkKept(t, "IndexOf", whole, nil, "a", "b")
}

func TestAreAscending(t *testing.T) {
	for _, c := range []struct {
		list []string
		want bool
	}{
		{nil, true},
		{[]string{}, true},
		{[]string{"a"}, true},
		{[]string{""}, true},
		{[]string{"?"}, true},
		{[]string{"a", "b"}, true},
		{[]string{"b", "a"}, false},
		{[]string{"a", "a"}, false},
		{[]string{"", ""}, false},
		{[]string{"", "a"}, true},
		{[]string{"a", ""}, false},
		{[]string{"a", "ab"}, true},
		{[]string{"ab", "a"}, false},
		{[]string{"a", "ab", "b"}, true},
		{[]string{"a", "b", "ab"}, false},
		{[]string{"a", "b", "c", "c"}, false},
		{[]string{"a", "a", "b", "c"}, false},
		{[]string{"a", "c", "b", "d"}, false},
		{[]string{"a", "b", "a"}, false},
		{[]string{"c", "a", "b"}, false},
		{[]string{"a10", "a9"}, true},
		{[]string{"a9", "a10"}, false},
		{[]string{"Z", "a"}, true},
		{[]string{"a", "Z"}, false},
		{[]string{"9", "a"}, true},
		{[]string{"z", "\x80"}, true},
		{[]string{"\x80", "z"}, false},
		{[]string{"z", "é"}, true},
		{[]string{"\xfe", "\xff"}, true},
		{[]string{"\xff", "\xfe"}, false},
		{[]string{"\xff", "\xff"}, false},
		{[]string{"\uffff", "\U00010000"}, true},
	} {
		if got := impl.AreAscending(c.list); got != c.want {
			t.Errorf("AreAscending(%q) = %v", c.list, got)
		}
	}
}

func TestAreAscendingLooksIntoNoUnusedCapacity(t *testing.T) {
	arg, whole := argument("y", "z")
	if !impl.AreAscending(arg) {
		t.Error("AreAscending = false")
	}
	checkKept(t, "AreAscending", whole, nil, "y", "z")
}

func TestUniteNames(t *testing.T) {
	for _, c := range []struct{ a, b, want []string }{
		{nil, nil, nil},
		{[]string{}, []string{}, nil},
		{[]string{"a"}, nil, []string{"a"}},
		{nil, []string{"a"}, []string{"a"}},
		{[]string{"a"}, []string{}, []string{"a"}},
		{[]string{"a"}, []string{"b"}, []string{"a", "b"}},
		{[]string{"b"}, []string{"a"}, []string{"b", "a"}},
		{[]string{"a"}, []string{"a"}, []string{"a"}},
		{[]string{"a", "a"}, nil, []string{"a"}},
		{nil, []string{"a", "a"}, []string{"a"}},
		{[]string{"a", "a"}, []string{"b", "a"}, []string{"a", "b"}},
		{[]string{"a", "b"}, []string{"b", "a"}, []string{"a", "b"}},
		{[]string{"b", "a", "b"}, []string{"c", "a", "c", "d"}, []string{"b", "a", "c", "d"}},
		{[]string{"c", "b", "c", "a"}, []string{"z", "y", "z", "b"}, []string{"c", "b", "a", "z", "y"}},
		{[]string{""}, []string{"", "a"}, []string{"", "a"}},
		{[]string{"ab", "a"}, []string{"a", "abc", "ab"}, []string{"ab", "a", "abc"}},
		{[]string{"A", "\xff"}, []string{"a", "\xfe", "\xff"}, []string{"A", "\xff", "a", "\xfe"}},
		{[]string{"a,b"}, []string{"a", "b"}, []string{"a,b", "a", "b"}},
	} {
		if got := impl.UniteNames(c.a, c.b); !slices.Equal(got, c.want) {
			t.Errorf("UniteNames(%q, %q) = %q, want %q", c.a, c.b, got, c.want)
		}
	}
}

func TestUniteNamesOfManyLists(t *testing.T) {
	lists := listsOver([]string{"b", "", "a"}, 3)
	for _, a := range lists {
		for _, b := range lists {
			var want []string
			for _, s := range append(slices.Clone(a), b...) {
				if !slices.Contains(want, s) {
					want = append(want, s)
				}
			}
			if got := impl.UniteNames(a, b); !slices.Equal(got, want) {
				t.Fatalf("UniteNames(%q, %q) = %q, want %q", a, b, got, want)
			}
		}
	}
}

func TestUniteNamesKeepsItsArguments(t *testing.T) {
	for _, a := range listsOver([]string{"b", "a"}, 2) {
		for _, b := range listsOver([]string{"c", "a"}, 2) {
			argA, wholeA := argument(a...)
			argB, wholeB := argument(b...)
			got := impl.UniteNames(argA, argB)
			checkKept(t, "UniteNames", wholeA, got, a...)
			checkKept(t, "UniteNames", wholeB, got, b...)
		}
	}
	arg, whole := argument("b", "a")
	checkKept(t, "UniteNames", whole, impl.UniteNames(arg, arg), "b", "a")
	checkKept(t, "UniteNames", whole, impl.UniteNames(arg[:1], arg[1:]), "b", "a")
	checkKept(t, "UniteNames", whole, impl.UniteNames(arg[:1], whole[2:3]), "b", "a")
}

func TestSortNames(t *testing.T) {
	for _, c := range []struct{ list, want []string }{
		{nil, nil},
		{[]string{}, nil},
		{[]string{"a"}, []string{"a"}},
		{[]string{""}, []string{""}},
		{[]string{"b", "a"}, []string{"a", "b"}},
		{[]string{"a", "b"}, []string{"a", "b"}},
		{[]string{"b", "a", "b"}, []string{"a", "b"}},
		{[]string{"a", "a", "a"}, []string{"a"}},
		{[]string{"c", "b", "a", "c", "b", "a"}, []string{"a", "b", "c"}},
		{[]string{"abc", "ab", "a", ""}, []string{"", "a", "ab", "abc"}},
		{[]string{"b", "ab", "a", "aa"}, []string{"a", "aa", "ab", "b"}},
		{[]string{"a9", "a10", "a1"}, []string{"a1", "a10", "a9"}},
		{[]string{"a", "Z", "9", "_", "~"}, []string{"9", "Z", "_", "a", "~"}},
		{[]string{"é", "z", "\xff", "\x80", "\x00", "a"}, []string{"\x00", "a", "z", "\x80", "é", "\xff"}},
		{[]string{"\U00010000", "\uffff"}, []string{"\uffff", "\U00010000"}},
		{[]string{"\xff", "\xfe", "\xff"}, []string{"\xfe", "\xff"}},
		{[]string{"if", "for", "1x"}, []string{"1x", "for", "if"}},
	} {
		if got := impl.SortNames(c.list); !slices.Equal(got, c.want) {
			t.Errorf("SortNames(%q) = %q, want %q", c.list, got, c.want)
		}
	}
}

func TestSortedNamesAreAscending(t *testing.T) {
	for _, list := range listsOver([]string{"b", "ab", "", "a", "\xff"}, 5) {
		got := impl.SortNames(list)
		if !impl.AreAscending(got) {
			t.Fatalf("SortNames(%q) = %q, which is not ascending", list, got)
		}
		for _, s := range list {
			if impl.IndexOf(got, s) < 0 {
				t.Fatalf("SortNames(%q) = %q, without %q", list, got, s)
			}
		}
		for _, s := range got {
			if impl.IndexOf(list, s) < 0 {
				t.Fatalf("SortNames(%q) = %q, with %q", list, got, s)
			}
		}
		if again := impl.SortNames(got); !slices.Equal(again, got) {
			t.Fatalf("SortNames(%q) = %q", got, again)
		}
		if impl.AreAscending(list) != slices.Equal(list, got) {
			t.Fatalf("AreAscending(%q) = %v, but it is sorted to %q", list, impl.AreAscending(list), got)
		}
	}
}

func TestSortNamesOfALongList(t *testing.T) {
	words := stringsOver("cab", 7)
	list := slices.Concat(words, words)
	slices.Reverse(list)
	want := slices.Clone(words)
	slices.SortFunc(want, strings.Compare)
	if got := impl.SortNames(list); !slices.Equal(got, want) || !impl.AreAscending(got) {
		t.Errorf("SortNames of %d strings has %d", len(list), len(got))
	}
	if got := impl.UniteNames(words, list); !slices.Equal(got, words) {
		t.Errorf("UniteNames of %d and %d strings has %d", len(words), len(list), len(got))
	}
}

func TestSortNamesKeepsItsArgument(t *testing.T) {
	for _, list := range listsOver([]string{"b", "a", "c"}, 3) {
		arg, whole := argument(list...)
		checkKept(t, "SortNames", whole, impl.SortNames(arg), list...)
	}
}

func TestNamesAreNewMemoryEachTime(t *testing.T) {
	list := []string{"b", "a"}
	sorted, united := impl.SortNames(list), impl.UniteNames(list, list)
	impl.SortNames(list)[0] = "changed"
	impl.UniteNames(list, list)[0] = "changed"
	if !slices.Equal(sorted, []string{"a", "b"}) || !slices.Equal(united, list) {
		t.Errorf("earlier results became %q and %q", sorted, united)
	}
}
