package tests

import (
	"math"
	"slices"
	"strconv"
	"strings"
	"testing"

	"loop.example/g00587/impl"
)

const (
	greatestNumber = 999999
	greatestInt    = 999999999999
)

// neverWritten are strings that FormatInt writes for no integer.
func neverWritten() []string {
	return []string{
		"", "-", "+", "--1", "-+1", "1-", "- 1",
		"007", "00", "01", "-0", "-00", "-01", "-007", "+0", "+7",
		" 1", "1 ", "\t1", "1\n", "1 2", "1,2", "1.0", ".5", "1e3", "1_000", "0x1F", "0b1", "0o7",
		"a", "1a", "a1", "\x00", "1\x00", "\xff", "1\xff", "٣", "１", "−1",
		strings.Repeat("0", 5000), strings.Repeat("0", 5000) + "1", "#t", "?",
	}
}

// tooLong are the decimal representations of integers that do not fit into 64 bits:
// the first ones would be 1, 999999, -1 and 0 if they wrapped around.
func tooLong() []string {
	return []string{
		"18446744073709551617", "18446744073710551615", "-18446744073709551617", "18446744073709551616",
		"9223372036854775808", "-9223372036854775809", "340282366920938463463374607431768211457",
		strings.Repeat("9", 400), "-" + strings.Repeat("9", 400), "1" + strings.Repeat("0", 64), strings.Repeat("1", 100000),
	}
}

func TestFormatInt(t *testing.T) {
	for n, want := range map[int]string{
		0: "0", 1: "1", -1: "-1", 7: "7", -5: "-5", 9: "9", 10: "10", -10: "-10", 100: "100", 120: "120", -70: "-70",
		999999: "999999", 1000000: "1000000", 999999999999: "999999999999", -999999999999: "-999999999999",
		math.MaxInt: "9223372036854775807", math.MinInt: "-9223372036854775808",
		math.MinInt + 1: "-9223372036854775807", 1 << 32: "4294967296", math.MinInt32: "-2147483648",
	} {
		if got := impl.FormatInt(n); got != want {
			t.Errorf("FormatInt(%d) = %q, want %q", n, got, want)
		}
	}
}

func TestFormatIntOfManyIntegers(t *testing.T) {
	check := func(n int) {
		if got, want := impl.FormatInt(n), strconv.FormatInt(int64(n), 10); got != want {
			t.Fatalf("FormatInt(%d) = %q", n, got)
		}
	}
	for n := -20000; n <= 20000; n++ {
		check(n)
	}
	for shift := range 64 {
		for d := -2; d <= 2; d++ {
			check(1<<shift + d)
			check(-1<<shift + d)
		}
	}
}

// checkParse compares one result of ParseNumber or ParseInt with what is wanted.
func checkParse(t *testing.T, name string, parse func(string) (int, bool), s string, want int, wantOK bool) {
	t.Helper()
	if n, ok := parse(s); n != want || ok != wantOK {
		t.Errorf("%s(%.40q) = %d, %v, want %d, %v", name, s, n, ok, want, wantOK)
	}
}

func checkNumber(t *testing.T, s string, want int, wantOK bool) {
	t.Helper()
	checkParse(t, "ParseNumber", impl.ParseNumber, s, want, wantOK)
}

func checkInt(t *testing.T, s string, want int, wantOK bool) {
	t.Helper()
	checkParse(t, "ParseInt", impl.ParseInt, s, want, wantOK)
}

func TestParseOrdinaryIntegers(t *testing.T) {
	for s, n := range map[string]int{"0": 0, "1": 1, "7": 7, "10": 10, "42": 42, "100": 100, "90210": 90210, "123456": 123456} {
		checkNumber(t, s, n, true)
		checkInt(t, s, n, true)
	}
	for s, n := range map[string]int{"-1": -1, "-5": -5, "-10": -10, "-100": -100, "1234567": 1234567, "-123456789012": -123456789012, "4294967296": 1 << 32} {
		checkNumber(t, s, 0, false)
		checkInt(t, s, n, true)
	}
}

func TestParseNumberBounds(t *testing.T) {
	checkNumber(t, "0", 0, true)
	checkNumber(t, "-1", 0, false)
	checkNumber(t, "999998", 999998, true)
	checkNumber(t, "999999", 999999, true)
	checkNumber(t, "1000000", 0, false)
	checkNumber(t, "1000001", 0, false)
	checkNumber(t, "-999999", 0, false)
	checkNumber(t, "999999999999", 0, false)
}

func TestParseIntBounds(t *testing.T) {
	checkInt(t, "999999999998", 999999999998, true)
	checkInt(t, "999999999999", 999999999999, true)
	checkInt(t, "1000000000000", 0, false)
	checkInt(t, "1000000000001", 0, false)
	checkInt(t, "-999999999998", -999999999998, true)
	checkInt(t, "-999999999999", -999999999999, true)
	checkInt(t, "-1000000000000", 0, false)
	checkInt(t, "-1000000000001", 0, false)
	checkInt(t, "9223372036854775807", 0, false)
	checkInt(t, "-9223372036854775808", 0, false)
}

func TestParseRejectsMalformedIntegers(t *testing.T) {
	for _, s := range slices.Concat(neverWritten(), tooLong()) {
		checkNumber(t, s, 0, false)
		checkInt(t, s, 0, false)
	}
}

func TestParseReadsWhatFormatIntWrites(t *testing.T) {
	check := func(n int) {
		s := impl.FormatInt(n)
		if 0 <= n && n <= greatestNumber {
			checkNumber(t, s, n, true)
		} else {
			checkNumber(t, s, 0, false)
		}
		if -greatestInt <= n && n <= greatestInt {
			checkInt(t, s, n, true)
		} else {
			checkInt(t, s, 0, false)
		}
	}
	for n := -3000; n <= 3000; n++ {
		check(n)
		check(n + greatestNumber)
		check(n - greatestNumber)
		check(n + greatestInt)
		check(n - greatestInt)
	}
	for n := math.MaxInt; n > 0; n /= 3 {
		check(n)
		check(-n)
	}
	check(math.MinInt)
}

// stringsOver returns all strings of at most max of the bytes of alphabet.
func stringsOver(alphabet string, max int) []string {
	all, last := []string{""}, []string{""}
	for range max {
		var next []string
		for _, s := range last {
			for i := range len(alphabet) {
				next = append(next, s+alphabet[i:i+1])
			}
		}
		all, last = append(all, next...), next
	}
	return all
}

func TestParseReadsNothingElse(t *testing.T) {
	written := map[string]int{}
	for n := -9999; n <= 99999; n++ {
		written[impl.FormatInt(n)] = n
	}
	for _, s := range stringsOver("-+019 _x", 5) {
		n, ok := written[s]
		checkInt(t, s, n, ok)
		if n < 0 {
			n, ok = 0, false
		}
		checkNumber(t, s, n, ok)
	}
}

func TestParseAfterAFailureIsAsBefore(t *testing.T) {
	for range 3 {
		checkInt(t, "-12", -12, true)
		checkInt(t, "-012", 0, false)
		checkNumber(t, "12", 12, true)
		checkNumber(t, "12x", 0, false)
	}
}

func TestSplitByte(t *testing.T) {
	for _, c := range []struct {
		s    string
		by   byte
		want []string
	}{
		{"a,b,c", ',', []string{"a", "b", "c"}},
		{"one two", ' ', []string{"one", "two"}},
		{"abc", ',', []string{"abc"}},
		{"", ',', []string{""}},
		{"", 0, []string{""}},
		{",", ',', []string{"", ""}},
		{",,", ',', []string{"", "", ""}},
		{",a", ',', []string{"", "a"}},
		{"a,", ',', []string{"a", ""}},
		{",a,", ',', []string{"", "a", ""}},
		{"a,,b", ',', []string{"a", "", "b"}},
		{",,a,,b,,", ',', []string{"", "", "a", "", "b", "", ""}},
		{"a\nb\n", '\n', []string{"a", "b", ""}},
		{"a\x00b", 0, []string{"a", "b"}},
		{"a\xffb\xff", 0xff, []string{"a", "b", ""}},
		{"a\x80b", 0x80, []string{"a", "b"}},
		{"é", 0xa9, []string{"\xc3", ""}},
		{"é", 0xc3, []string{"", "\xa9"}},
		{"é", 0xe9, []string{"é"}},
		{"\xe9", 0xe9, []string{"", ""}},
		{"\xff,\xfe", ',', []string{"\xff", "\xfe"}},
	} {
		if got := impl.SplitByte(c.s, c.by); !slices.Equal(got, c.want) {
			t.Errorf("SplitByte(%q, %q) = %q, want %q", c.s, c.by, got, c.want)
		}
	}
}

func TestSplitByteByEveryByte(t *testing.T) {
	for b := range 256 {
		by := string([]byte{byte(b)})
		other := string([]byte{byte(b + 1)})
		if got, want := impl.SplitByte(by+other+by+by+other, byte(b)), []string{"", other, "", other}; !slices.Equal(got, want) {
			t.Errorf("SplitByte by %d = %q, want %q", b, got, want)
		}
	}
}

func TestJoin(t *testing.T) {
	for _, c := range []struct {
		list []string
		by   string
		want string
	}{
		{nil, ",", ""},
		{[]string{}, ",", ""},
		{nil, "", ""},
		{[]string{"a"}, ",", "a"},
		{[]string{""}, ",", ""},
		{[]string{","}, ",", ","},
		{[]string{"a", "b"}, ",", "a,b"},
		{[]string{"a", "b", "c"}, ", ", "a, b, c"},
		{[]string{"a", "b", "c"}, "", "abc"},
		{[]string{"", ""}, ",", ","},
		{[]string{"", "", ""}, "--", "----"},
		{[]string{"", "a", ""}, ",", ",a,"},
		{[]string{"a", "a", "a"}, "a", "aaaaa"},
		{[]string{"\xff", "\x00"}, "\x80", "\xff\x80\x00"},
	} {
		if got := impl.Join(c.list, c.by); got != c.want {
			t.Errorf("Join(%q, %q) = %q, want %q", c.list, c.by, got, c.want)
		}
	}
}

func TestJoinOfSplitIsTheString(t *testing.T) {
	for _, by := range []byte{',', 'a', 0, 0x80, 0xff, 0xc3} {
		sep := string([]byte{by})
		for _, s := range stringsOver("a,\x00\xc3\xff", 5) {
			parts := impl.SplitByte(s, by)
			if len(parts) != strings.Count(s, sep)+1 {
				t.Fatalf("SplitByte(%q, %q) has %d elements", s, by, len(parts))
			}
			if slices.ContainsFunc(parts, func(p string) bool { return strings.Contains(p, sep) }) {
				t.Fatalf("SplitByte(%q, %q) = %q has the separator in an element", s, by, parts)
			}
			if got := impl.Join(parts, sep); got != s {
				t.Fatalf("Join of SplitByte(%q, %q) = %q", s, by, got)
			}
		}
	}
}

func TestSplitOfJoinIsTheList(t *testing.T) {
	parts := stringsOver("a\xc3", 2)
	for _, by := range []byte{',', 0, 0x80, 0xff} {
		for _, a := range parts {
			for _, b := range parts {
				for _, list := range [][]string{{a}, {a, b}, {a, b, a}, {b, a, a, b}} {
					if got := impl.SplitByte(impl.Join(list, string([]byte{by})), by); !slices.Equal(got, list) {
						t.Fatalf("SplitByte of Join(%q) by %q = %q", list, by, got)
					}
				}
			}
		}
	}
}

func TestJoinKeepsItsArgument(t *testing.T) {
	whole := []string{"a", "b", "c", "d"}
	if got := impl.Join(whole[:2], "-"); got != "a-b" {
		t.Errorf("Join = %q", got)
	}
	if want := []string{"a", "b", "c", "d"}; !slices.Equal(whole, want) {
		t.Errorf("Join changed the memory of its argument to %q", whole)
	}
}

func TestSplitByteReturnsNewMemory(t *testing.T) {
	first := impl.SplitByte("a,b,c", ',')
	second := impl.SplitByte("a,b,c", ',')
	first[0] = "changed"
	if want := []string{"a", "b", "c"}; !slices.Equal(second, want) {
		t.Errorf("a second result of SplitByte became %q", second)
	}
}
