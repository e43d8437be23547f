package tests

import (
	"fmt"
	"math"
	"math/big"
	"regexp"
	"slices"
	"strings"
	"testing"

	"loop.example/g00817/impl"
)

// someInts returns integers of all lengths, among them the least and the greatest one.
func someInts() []int {
	l := []int{0, math.MinInt, math.MinInt + 1, math.MaxInt, math.MaxInt - 1}
	for n := -1200; n <= 1200; n++ {
		l = append(l, n)
	}
	for p := 10; p <= math.MaxInt/10; p *= 10 {
		l = append(l, p-1, p, p+1, -p-1, -p, -p+1)
	}
	for k := range 63 {
		p := 1 << k
		l = append(l, p-1, p, p+1, -p-1, -p, -p+1)
	}
	return l
}

func TestFormatInt(t *testing.T) {
	for n, want := range map[int]string{
		0: "0", 7: "7", 10: "10", -5: "-5", -10: "-10", 1000000000: "1000000000",
		math.MaxInt: "9223372036854775807", math.MinInt: "-9223372036854775808",
	} {
		if got := impl.FormatInt(n); got != want {
			t.Errorf("FormatInt(%d) is %q", n, got)
		}
	}
	for _, n := range someInts() {
		if got, want := impl.FormatInt(n), big.NewInt(int64(n)).String(); got != want {
			t.Errorf("FormatInt(%s) is %q", want, got)
		}
	}
}

func TestIntsFromTheirTexts(t *testing.T) {
	for _, n := range someInts() {
		if got, ok := impl.ParseInt(impl.FormatInt(n)); got != n || !ok {
			t.Errorf("ParseInt(FormatInt(%d)) is %d, %v", n, got, ok)
		}
	}
}

func expectNoInt(t *testing.T, s string) {
	t.Helper()
	if n, ok := impl.ParseInt(s); n != 0 || ok {
		t.Errorf("ParseInt(%q) is %d, %v", s, n, ok)
	}
}

func TestParseIntRefuses(t *testing.T) {
	for _, s := range []string{
		"", "-", "+", "--1", "+1", "+0", "-0", "00", "01", "-01", "-00", "007", " 1", "1 ", "1\n", "\n1", "1\x00", "- 1", "1-", "1-2",
		"1_000", "1,000", "0x10", "0b1", "0o7", "0X1", "1e3", "1.0", "1.", ".5", "a", "1a", "a1", "NaN", "inf", "true",
		"9223372036854775808", "-9223372036854775809", "9223372036854775810", "10000000000000000000", "-10000000000000000000",
		"18446744073709551615", "18446744073709551616", "18446744073709551617", "-18446744073709551617", "09223372036854775807",
	} {
		expectNoInt(t, s)
	}
	for _, s := range oddTexts() {
		expectNoInt(t, s)
	}
	expectNoInt(t, strings.Repeat("9", 100000))
	expectNoInt(t, "-"+strings.Repeat("9", 100000))
	expectNoInt(t, strings.Repeat("0", 100000))
}

func TestParseIntOfAllShortTexts(t *testing.T) {
	canonical := regexp.MustCompile(`\A(0|-?[1-9][0-9]*)\z`)
	for _, s := range allTexts("-+0179_ x\n\xff", 4) {
		n, ok := impl.ParseInt(s)
		if ok != canonical.MatchString(s) {
			t.Errorf("ParseInt(%q) is %d, %v", s, n, ok)
		} else if ok && fmt.Sprint(n) != s || !ok && n != 0 {
			t.Errorf("ParseInt(%q) is %d, %v", s, n, ok)
		}
	}
}

func TestIsDigits(t *testing.T) {
	digits := regexp.MustCompile(`\A[0-9]+\z`)
	texts := append(allTexts("059/:-a \xff", 4), oddTexts()...)
	texts = append(texts, "0123456789", strings.Repeat("9", 5000), strings.Repeat("9", 5000)+"x", "x"+strings.Repeat("9", 5000))
	for i := range 256 {
		b := string([]byte{byte(i)})
		texts = append(texts, b, "1"+b, b+"1", "1"+b+"1")
	}
	for _, s := range texts {
		if got := impl.IsDigits(s); got != digits.MatchString(s) {
			t.Errorf("IsDigits(%q) is %v", s, got)
		}
	}
}

func TestIsName(t *testing.T) {
	name := regexp.MustCompile(`\A[a-z][a-z0-9]{0,7}\z`)
	texts := append(allTexts("az09A_ \xff", 4), oddTexts()...)
	texts = append(texts, "abcdefgh", "abcdefghi", "a1234567", "a12345678", "1abcdefg", "zzzzzzzz", "z9999999")
	texts = append(texts, "abcdefg.", "abcdefgé", "abcdefé", "éabcdef", strings.Repeat("a", 5000))
	for i := range 256 {
		b := string([]byte{byte(i)})
		texts = append(texts, b, "a"+b, b+"a", "a"+b+"a", "abcdefg"+b)
	}
	for _, s := range texts {
		if got := impl.IsName(s); got != name.MatchString(s) {
			t.Errorf("IsName(%q) is %v", s, got)
		}
	}
}

// expectSplit checks by what defines the parts of s: without any cut byte, and between each two of them exactly one.
func expectSplit(t *testing.T, s string, by string) {
	t.Helper()
	parts := impl.SplitAny(s, by)
	at, cuts := 0, 0
	for k, part := range parts {
		if k > 0 {
			if at >= len(s) || strings.IndexByte(by, s[at]) < 0 {
				t.Errorf("SplitAny(%q, %q) is %q: no cut before part %d", s, by, parts, k)
				return
			}
			at++
			cuts++
		}
		if !strings.HasPrefix(s[at:], part) {
			t.Errorf("SplitAny(%q, %q) is %q: part %d is not in its place", s, by, parts, k)
			return
		}
		for i := range len(part) {
			if strings.IndexByte(by, part[i]) >= 0 {
				t.Errorf("SplitAny(%q, %q) is %q: part %d is not cut", s, by, parts, k)
			}
		}
		at += len(part)
	}
	if at != len(s) || len(parts) != cuts+1 {
		t.Errorf("SplitAny(%q, %q) is %q: it ends at %d", s, by, parts, at)
	}
}

func TestSplitAny(t *testing.T) {
	for _, c := range []struct {
		s, by string
		want  []string
	}{
		{"a,b c", ", ", []string{"a", "b", "c"}},
		{"", "", []string{""}},
		{"", ",", []string{""}},
		{"abc", "", []string{"abc"}},
		{"abc", ",", []string{"abc"}},
		{",", ",", []string{"", ""}},
		{",,", ",", []string{"", "", ""}},
		{",a,", ",", []string{"", "a", ""}},
		{"a, b", ", ", []string{"a", "", "b"}},
		{"a,b", ",,,", []string{"a", "b"}},
		{"é", "\xa9", []string{"\xc3", ""}},
		{"é", "\xc3", []string{"", "\xa9"}},
		{"é", "é", []string{"", "", ""}},
		{"é", "\xff", []string{"é"}},
		{"\xfe\xff\xfe", "\xff", []string{"\xfe", "\xfe"}},
		{"\xff\xfe", "\ufffd", []string{"\xff\xfe"}},
		{"a\x00b", "\x00", []string{"a", "b"}},
	} {
		if got := impl.SplitAny(c.s, c.by); !slices.Equal(got, c.want) {
			t.Errorf("SplitAny(%q, %q) is %q", c.s, c.by, got)
		}
	}
	for _, s := range append(allTexts("a, \xc3", 4), oddTexts()...) {
		for _, by := range append(oddTexts(), ",", ", ", "a", "\xc3a", "\n") {
			expectSplit(t, s, by)
		}
	}
}

func TestSplitAnyOfLongTexts(t *testing.T) {
	long := strings.Repeat("ab,", 100000)
	if got := impl.SplitAny(long, strings.Repeat(";,", 100000)); len(got) != 100001 || got[99999] != "ab" || got[100000] != "" {
		t.Errorf("SplitAny of a long text has %d parts", len(got))
	}
}

func TestSplitLines(t *testing.T) {
	for s, want := range map[string][]string{
		"": nil, "\n": {""}, "\n\n": {"", ""}, "a": {"a"}, "a\n": {"a"}, "a\nb": {"a", "b"}, "a\nb\n": {"a", "b"},
		"a\n\nb": {"a", "", "b"}, "\na": {"", "a"}, "a\n\n": {"a", ""}, " ": {" "}, "a\n ": {"a", " "},
		"a\r\nb\r\n": {"a\r", "b\r"}, "a\rb": {"a\rb"}, "\xff\n\x00": {"\xff", "\x00"}, "a\u2028b\u0085": {"a\u2028b\u0085"},
	} {
		if got := impl.SplitLines(s); !slices.Equal(got, want) {
			t.Errorf("SplitLines(%q) is %q", s, got)
		}
	}
	for _, s := range append(allTexts("a\n \xff", 5), oddTexts()...) {
		lines := impl.SplitLines(s)
		back := ""
		for _, line := range lines {
			if strings.Contains(line, "\n") {
				t.Errorf("SplitLines(%q) is %q", s, lines)
			}
			back += line + "\n"
		}
		if s != "" && !strings.HasSuffix(s, "\n") {
			s += "\n"
		}
		if back != s {
			t.Errorf("SplitLines(%q) is %q", s, lines)
		}
	}
}

func TestJoin(t *testing.T) {
	for _, c := range []struct {
		l    []string
		by   string
		want string
	}{
		{nil, ",", ""},
		{[]string{}, ",", ""},
		{[]string{""}, ",", ""},
		{[]string{"", ""}, ",", ","},
		{[]string{"a"}, ",", "a"},
		{[]string{"a", "b", "c"}, "-", "a-b-c"},
		{[]string{"a", "b", "c"}, "", "abc"},
		{[]string{"a", "", "c"}, ", ", "a, , c"},
		{[]string{",", ","}, ",", ",,,"},
		{[]string{"\xc3", "\xa9"}, "", "é"},
		{[]string{"\xff", "\x00"}, "\xfe\n", "\xff\xfe\n\x00"},
	} {
		if got := impl.Join(c.l, c.by); got != c.want {
			t.Errorf("Join(%q, %q) is %q", c.l, c.by, got)
		}
	}
}

func TestTextsFromTheirParts(t *testing.T) {
	for _, s := range append(allTexts("a,\n\xff", 5), oddTexts()...) {
		for _, sep := range []string{",", "\n", "\x00", "\xa9", "\xc3", "\xff"} {
			parts := impl.SplitAny(s, sep)
			if back := impl.Join(parts, sep); back != s {
				t.Errorf("the parts %q of %q are joined to %q", parts, s, back)
			}
		}
		lines := impl.SplitLines(s + "\n")
		if back := impl.Join(lines, "\n"); back != s {
			t.Errorf("the lines %q of %q are joined to %q", lines, s, back)
		}
	}
	for _, l := range [][]string{{""}, {"", ""}, {"a"}, {"a", "b"}, {"", "a", ""}, {"\xff", "\xc3\xa9", "\n", "\x00"}} {
		if back := impl.SplitAny(impl.Join(l, ","), ","); !slices.Equal(back, l) {
			t.Errorf("the text of %q is split into %q", l, back)
		}
	}
}

func TestPadZeros(t *testing.T) {
	texts := append(oddTexts(), "7", "-7", "007", "abc")
	for _, n := range []int{1999, 2000, 2001, 5000} {
		texts = append(texts, strings.Repeat("x", n))
	}
	counts := []int{math.MinInt, math.MinInt + 1, -2001, -1, 0, 1, 2, 3, 4, 5, 31, 1998, 1999, 2000}
	counts = append(counts, 2001, 2002, 5001, 1<<32, 1<<32+3, math.MaxInt-1, math.MaxInt)
	for _, s := range texts {
		for _, n := range counts {
			want := s
			for n <= 2000 && len(want) < n {
				want = "0" + want
			}
			if got := impl.PadZeros(s, n); got != want {
				t.Errorf("PadZeros(%q, %d) has %d bytes: %q", s, n, len(got), got)
			}
		}
	}
	if got := impl.PadZeros("7", 3); got != "007" {
		t.Errorf("PadZeros of 7 and 3 is %q", got)
	}
}

func TestTextArgumentsStay(t *testing.T) {
	list, whole := roomy("a", "", "\xff")
	before := slices.Clone(whole)
	first := impl.Join(list, ",")
	if !slices.Equal(whole, before) {
		t.Errorf("Join changed its list to %q", whole)
	}
	list[0] = "b"
	if first != "a,,\xff" {
		t.Errorf("Join kept its list: %q", first)
	}
}

func TestTextResultsAreNew(t *testing.T) {
	for _, split := range []func() []string{
		func() []string { return impl.SplitAny("a,b\nc", ",\n") },
		func() []string { return impl.SplitAny("abc", "") },
		func() []string { return impl.SplitLines("a\nb\n") },
	} {
		first := split()
		want := slices.Clone(first)
		for i := range first {
			first[i] = "changed"
		}
		_ = append(first, "more")
		if again := split(); !slices.Equal(again, want) {
			t.Errorf("after a change of the result %q it is %q", want, again)
		}
	}
}
