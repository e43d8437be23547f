package tests

import (
	"bytes"
	"encoding/hex"
	"hash/adler32"
	"math"
	"math/big"
	"slices"
	"strings"
	"testing"

	"loop.example/g00817/impl"
)

// sizes returns widths, counts and indexes, most of them beyond any limit; 8 times some of them overflows to a small number.
func sizes() []int {
	l := []int{math.MinInt, math.MinInt + 1, math.MinInt + 6, -1 << 61, -1<<61 + 1, -1 << 32, -1000, -257, -256, -255, -8, -1}
	for n := range 20 {
		l = append(l, n)
	}
	l = append(l, 63, 64, 65, 255, 256, 257, 258, 999, 1000, 1001, 1<<32, 1<<32+1, 1<<32+6, 1<<61, 1<<61+1, 1<<61+6)
	return append(l, 1<<62, 1<<62+2, math.MaxInt-7, math.MaxInt-6, math.MaxInt-1, math.MaxInt)
}

// byteTexts returns strings of all kinds of bytes and of many lengths.
func byteTexts() []string {
	texts := append(allTexts("\x00\x01a\xff", 4), oddTexts()...)
	for _, n := range []int{15, 16, 17, 31, 32, 33, 96, 999, 1000, 1001, 2500} {
		texts = append(texts, strings.Repeat("\x00", n), strings.Repeat("\xff", n), strings.Repeat("\x00a\x80é", n)[:n])
	}
	return texts
}

// wantNumber returns the bytes of n, or the empty string if they do not fit into width.
func wantNumber(n int, width int) string {
	if width < 1 || width > 6 || n < 0 || big.NewInt(int64(n)).BitLen() > 8*width {
		return ""
	}
	return string(big.NewInt(int64(n)).FillBytes(make([]byte, width)))
}

func TestPutNumber(t *testing.T) {
	for _, c := range []struct {
		n, width int
		want     string
	}{
		{0, 1, "\x00"}, {0, 2, "\x00\x00"}, {0, 6, "\x00\x00\x00\x00\x00\x00"}, {1, 1, "\x01"}, {1, 3, "\x00\x00\x01"}, {97, 1, "a"},
		{255, 1, "\xff"}, {255, 2, "\x00\xff"}, {256, 2, "\x01\x00"}, {258, 3, "\x00\x01\x02"}, {65535, 2, "\xff\xff"}, {65536, 3, "\x01\x00\x00"},
		{16777215, 3, "\xff\xff\xff"}, {16777216, 4, "\x01\x00\x00\x00"}, {4294967295, 4, "\xff\xff\xff\xff"}, {4294967296, 5, "\x01\x00\x00\x00\x00"},
		{1099511627775, 5, "\xff\xff\xff\xff\xff"}, {1099511627776, 6, "\x01\x00\x00\x00\x00\x00"},
		{281474976710655, 6, "\xff\xff\xff\xff\xff\xff"}, {0x010203040506, 6, "\x01\x02\x03\x04\x05\x06"}, {1000000000, 4, "\x3b\x9a\xca\x00"},
		{256, 1, ""}, {65536, 2, ""}, {16777216, 3, ""}, {4294967296, 4, ""}, {1099511627776, 5, ""}, {281474976710656, 6, ""},
		{5, 0, ""}, {0, 0, ""}, {5, 7, ""}, {0, 7, ""}, {0, 8, ""}, {5, -1, ""}, {-1, 1, ""}, {-1, 6, ""}, {-256, 2, ""},
		{math.MinInt, 6, ""}, {math.MaxInt, 6, ""}, {math.MinInt, math.MinInt, ""}, {math.MaxInt, math.MaxInt, ""},
	} {
		if got := impl.PutNumber(c.n, c.width); got != c.want {
			t.Errorf("PutNumber(%d, %d) is %q", c.n, c.width, got)
		}
	}
	for _, n := range someInts() {
		for _, width := range sizes() {
			if got := impl.PutNumber(n, width); got != wantNumber(n, width) {
				t.Errorf("PutNumber(%d, %d) is %q", n, width, got)
			}
		}
	}
}

// wantRead returns what GetNumber should read, with sums that cannot overflow.
func wantRead(s string, at int, width int) (int, bool) {
	end := new(big.Int).Add(big.NewInt(int64(at)), big.NewInt(int64(width)))
	if width < 1 || width > 6 || at < 0 || end.Cmp(big.NewInt(int64(len(s)))) > 0 {
		return 0, false
	}
	return int(new(big.Int).SetBytes([]byte(s)[at : at+width]).Int64()), true
}

func TestGetNumber(t *testing.T) {
	for _, c := range []struct {
		s         string
		at, width int
		want      int
		ok        bool
	}{
		{"\x00\x01\x02", 0, 3, 258, true}, {"\x00\x01\x02", 1, 2, 258, true}, {"\x00\x01\x02", 0, 2, 1, true}, {"\x00\x01\x02", 2, 1, 2, true},
		{"\x00", 0, 1, 0, true}, {"\xff\xff\xff\xff\xff\xff", 0, 6, 281474976710655, true}, {"é", 0, 2, 0xc3a9, true}, {"é", 1, 1, 0xa9, true},
		{"abc", 2, 2, 0, false}, {"abc", 3, 1, 0, false}, {"abc", 4, 1, 0, false}, {"abc", 0, 4, 0, false}, {"", 0, 1, 0, false},
		{"abc", -1, 1, 0, false}, {"abc", -1, 2, 0, false}, {"abc", 0, 0, 0, false}, {"", 0, 0, 0, false}, {"abc", 1, -1, 0, false},
		{"abcdefgh", 0, 7, 0, false}, {"abcdefgh", 0, 8, 0, false}, {"abcdefgh", math.MaxInt, 1, 0, false}, {"abcdefgh", math.MaxInt, 6, 0, false},
		{"abcdefgh", math.MinInt, 6, 0, false}, {"abcdefgh", 0, math.MaxInt, 0, false}, {"abcdefgh", 8, math.MinInt, 0, false},
	} {
		if got, ok := impl.GetNumber(c.s, c.at, c.width); got != c.want || ok != c.ok {
			t.Errorf("GetNumber(%q, %d, %d) is %d, %v", c.s, c.at, c.width, got, ok)
		}
	}
	for _, s := range byteTexts() {
		places := append(sizes(), len(s)-7, len(s)-6, len(s)-5, len(s)-2, len(s)-1, len(s), len(s)+1)
		for _, at := range places {
			for _, width := range sizes() {
				want, wantOk := wantRead(s, at, width)
				if got, ok := impl.GetNumber(s, at, width); got != want || ok != wantOk {
					t.Errorf("GetNumber(%.40q, %d, %d) is %d, %v", s, at, width, got, ok)
				}
			}
		}
	}
}

// expectNumber checks that n is recovered from its bytes, also from among others.
func expectNumber(t *testing.T, n int, width int) {
	t.Helper()
	s := impl.PutNumber(n, width)
	for _, before := range []string{"", "\x00", "\xffabc"} {
		for _, behind := range []string{"", "\x00", "\xffabc"} {
			if got, ok := impl.GetNumber(before+s+behind, len(before), width); len(s) != width || got != n || !ok {
				t.Errorf("%d is recovered from %q, %d bytes behind %q, as %d, %v", n, s, width, before, got, ok)
			}
		}
	}
}

func TestNumbersFromTheirBytes(t *testing.T) {
	limit := 1
	for width := 1; width <= 6; width++ {
		limit *= 256
		for _, n := range append(someInts(), limit-1, limit-2, limit/2, limit/3, limit/251) {
			if n >= 0 && n < limit {
				expectNumber(t, n, width)
			}
		}
		if s := impl.PutNumber(limit-1, width); s != strings.Repeat("\xff", width) {
			t.Errorf("the greatest number of %d bytes is %q", width, s)
		}
		if s := impl.PutNumber(limit, width); s != "" {
			t.Errorf("%d, one too large for %d bytes, is %q", limit, width, s)
		}
	}
	for n := range 65536 {
		if got, ok := impl.GetNumber(impl.PutNumber(n, 2), 0, 2); got != n || !ok {
			t.Errorf("%d is recovered from 2 bytes as %d, %v", n, got, ok)
		}
	}
}

func TestBytesFromTheirNumbers(t *testing.T) {
	for _, s := range append(allTexts("\x00\x01\x7f\x80\xff", 5), "abcdef", "\xff\x00\xff\x00\xff\x00", "\x80\x00\x00\x00\x00\x00") {
		n, ok := impl.GetNumber(s, 0, len(s))
		if back := impl.PutNumber(n, len(s)); ok != (s != "") || back != s {
			t.Errorf("%q is recovered from %d, %v as %q", s, n, ok, back)
		}
	}
}

func TestPadTo(t *testing.T) {
	for _, c := range []struct {
		s    string
		n    int
		want string
	}{
		{"ab", 4, "ab\x00\x00"}, {"ab", 3, "ab\x00"}, {"ab", 2, "ab"}, {"abc", 2, "abc"}, {"abc", 0, "abc"}, {"abc", -1, "abc"},
		{"", 0, ""}, {"", 2, "\x00\x00"}, {"", -1, ""}, {"é", 3, "é\x00"}, {"\xff\x00", 4, "\xff\x00\x00\x00"},
		{"abc", math.MinInt, "abc"}, {"abc", math.MaxInt, ""}, {"abc", 100001, ""}, {"", 100001, ""},
	} {
		if got := impl.PadTo(c.s, c.n); got != c.want {
			t.Errorf("PadTo(%q, %d) is %q", c.s, c.n, got)
		}
	}
	for _, s := range byteTexts() {
		for _, n := range append(sizes(), len(s)-1, len(s), len(s)+1, 2*len(s)) {
			want := s
			if n > len(s) && n <= 100000 {
				want = string(append([]byte(s), make([]byte, n-len(s))...))
			} else if n > 100000 {
				want = ""
			}
			if got := impl.PadTo(s, n); got != want {
				t.Errorf("PadTo(%.40q, %d) has %d bytes: %.40q", s, n, len(got), got)
			}
		}
	}
}

func TestPadToItsLimit(t *testing.T) {
	for _, length := range []int{0, 1, 99999, 100000, 100001, 100002, 100003} {
		s := strings.Repeat("x", length)
		for _, n := range []int{-1, 0, 1, 99999, 100000, 100001, 100002, 1 << 32, math.MaxInt} {
			want := ""
			if n <= 100000 {
				want = s + strings.Repeat("\x00", max(n, length)-length)
			}
			if got := impl.PadTo(s, n); got != want {
				t.Errorf("PadTo of %d bytes and %d has %d bytes", length, n, len(got))
			}
		}
	}
}

func TestIsZeroes(t *testing.T) {
	for s, want := range map[string]bool{
		"": true, "\x00": true, "\x00\x00\x00": true, "0": false, "a": false, "\x00a": false, "a\x00": false, "\x00a\x00": false,
		"\x01": false, "\xff": false, "\x00\xff\x00": false, "\xc0\x80": false, " ": false, "\x00\n": false,
	} {
		if got := impl.IsZeroes(s); got != want {
			t.Errorf("IsZeroes(%q) is %v", s, got)
		}
	}
	for _, s := range byteTexts() {
		if got := impl.IsZeroes(s); got != (strings.Count(s, "\x00") == len(s)) {
			t.Errorf("IsZeroes(%.40q) is %v", s, got)
		}
	}
	zeroes := make([]byte, 300)
	for i := range zeroes {
		for c := range 256 {
			zeroes[i] = byte(c)
			if got := impl.IsZeroes(string(zeroes)); got != (c == 0) {
				t.Errorf("IsZeroes with the byte %d at %d is %v", c, i, got)
			}
		}
		zeroes[i] = 0
	}
	if !impl.IsZeroes(strings.Repeat("\x00", 1000000)) || impl.IsZeroes(strings.Repeat("\x00", 1000000)+"\x01") {
		t.Error("IsZeroes of a long text")
	}
}

// wantChecksum follows the definition word by word, apart from the library's implementation.
func wantChecksum(s string) int {
	a, b := 1, 0
	for i := 0; i < len(s); i++ {
		a = (a + int(s[i])) % 65521
		b = (b + a) % 65521
	}
	return b*65536 + a
}

func TestChecksumOf(t *testing.T) {
	for s, want := range map[string]int{
		"": 1, "\x00": 65536 + 1, "\x00\x00": 2*65536 + 1, "a": 98*65536 + 98, "ab": 294*65536 + 196, "Wikipedia": 0x11e60398,
		"\xff": 256*65536 + 256, "é": (196+365)*65536 + 365,
	} {
		if got := impl.ChecksumOf(s); got != want {
			t.Errorf("ChecksumOf(%q) is %d", s, got)
		}
	}
	texts := byteTexts()
	// 257 bytes of 255 bring a just beyond the modulus; the longer ones bring both sums beyond it often.
	for _, n := range []int{255, 256, 257, 258, 361, 362, 5552, 5553, 65520, 65521, 65522, 300000} {
		texts = append(texts, strings.Repeat("\xff", n), strings.Repeat("\x00", n), strings.Repeat("\x01", n), strings.Repeat("a\x00\xf0é", n/5))
	}
	for _, s := range texts {
		got := impl.ChecksumOf(s)
		if got != wantChecksum(s) || got != int(adler32.Checksum([]byte(s))) {
			t.Errorf("ChecksumOf of %d bytes %.20q is %d", len(s), s, got)
		}
	}
}

func TestAChangedByteChangesTheChecksum(t *testing.T) {
	for _, s := range append(oddTexts(), "a", "abc", strings.Repeat("\x00", 32), strings.Repeat("\xff", 600)) {
		sum := impl.ChecksumOf(s)
		changed := []byte(s)
		for i := range changed {
			for c := range 256 {
				changed[i] = byte(c)
				if got := impl.ChecksumOf(string(changed)); (got == sum) != (s[i] == byte(c)) {
					t.Errorf("ChecksumOf(%.40q) is %d with the byte %d at %d", s, got, c, i)
				}
			}
			changed[i] = s[i]
		}
	}
	long := strings.Repeat("\xff", 150000)
	for _, at := range []int{0, 1, 65520, 65521, 65522, 131041, 131042, 149999} {
		if impl.ChecksumOf(long) == impl.ChecksumOf(long[:at]+"\xfe"+long[at+1:]) {
			t.Errorf("a long text has the same checksum with another byte at %d", at)
		}
	}
}

func TestCutAll(t *testing.T) {
	for _, c := range []struct {
		s    string
		n    int
		want []string
	}{
		{"abcde", 2, []string{"ab", "cd", "e"}}, {"abcd", 2, []string{"ab", "cd"}}, {"abc", 1, []string{"a", "b", "c"}}, {"abc", 3, []string{"abc"}},
		{"abc", 4, []string{"abc"}}, {"abc", 1000, []string{"abc"}}, {"", 1, nil}, {"", 1000, nil}, {"é", 1, []string{"\xc3", "\xa9"}},
		{"a\x00\xff\n", 2, []string{"a\x00", "\xff\n"}}, {"\x00\x00\x00", 2, []string{"\x00\x00", "\x00"}},
		{"abc", 0, nil}, {"abc", -1, nil}, {"abc", 1001, nil}, {"", 0, nil}, {"", -1, nil}, {"", 1001, nil}, {"abc", math.MinInt, nil}, {"abc", math.MaxInt, nil},
	} {
		if got := impl.CutAll(c.s, c.n); !slices.Equal(got, c.want) {
			t.Errorf("CutAll(%q, %d) is %q", c.s, c.n, got)
		}
	}
	for _, s := range byteTexts() {
		for _, n := range sizes() {
			if (n < 1 || n > 1000) && impl.CutAll(s, n) != nil {
				t.Errorf("CutAll(%.40q, %d) is not nil", s, n)
			}
		}
	}
	long := strings.Repeat("x", 2001)
	if l := impl.CutAll(long, 1000); len(l) != 3 || l[2] != "x" || impl.CutAll(long, 1001) != nil {
		t.Errorf("CutAll of 2001 bytes into 1000 has %d pieces", len(l))
	}
}

func TestStringsFromTheirPieces(t *testing.T) {
	for _, s := range append(byteTexts(), strings.Repeat("abc\xff", 30000)) {
		for _, n := range []int{1, 2, 3, 4, 5, 16, 31, 32, 33, 499, 500, 999, 1000} {
			pieces := impl.CutAll(s, n)
			for k, piece := range pieces {
				if len(piece) != n && (k < len(pieces)-1 || piece == "" || len(piece) > n) {
					t.Errorf("piece %d of %d of CutAll of %d bytes and %d has %d bytes", k, len(pieces), len(s), n, len(piece))
				}
			}
			if impl.Join(pieces, "") != s {
				t.Errorf("%d bytes are not recovered from their pieces of %d", len(s), n)
			}
		}
	}
}

func TestHexOf(t *testing.T) {
	for s, want := range map[string]string{
		"": "", "az\x0f": "617a0f", "\x00": "00", "\x0a": "0a", "\xff": "ff", "\xab\xcd\xef": "abcdef", "\x10\x01": "1001", "é": "c3a9", "\x89\x9a": "899a",
	} {
		if got := impl.HexOf(s); got != want {
			t.Errorf("HexOf(%q) is %q", s, got)
		}
	}
	for _, s := range append(byteTexts(), strings.Repeat("a\xff", 100000)) {
		if got := impl.HexOf(s); got != hex.EncodeToString([]byte(s)) {
			t.Errorf("HexOf(%.40q) is %.40q", s, got)
		}
	}
}

func TestPiecesAreNew(t *testing.T) {
	first := impl.CutAll("abcde", 2)
	for i := range first {
		first[i] = "changed"
	}
	_ = append(first, "more")
	if again := impl.CutAll("abcde", 2); !slices.Equal(again, []string{"ab", "cd", "e"}) {
		t.Errorf("after a change of the result it is %q", again)
	}
}

func TestByteArgumentsStay(t *testing.T) {
	for _, s := range byteTexts() {
		before := strings.Clone(s)
		impl.GetNumber(s, 0, 1)
		impl.PadTo(s, len(s)+1)
		impl.IsZeroes(s)
		impl.ChecksumOf(s)
		impl.CutAll(s, 2)
		impl.HexOf(s)
		if s != before {
			t.Errorf("%.40q became %.40q", before, s)
		}
	}
}

// TestByteCallsKeepNothing makes calls for several texts at once: whatever one of them kept would show up in the others.
func TestByteCallsKeepNothing(t *testing.T) {
	report := func(s string) []byte {
		var out bytes.Buffer
		for n := range 300 {
			number, _ := impl.GetNumber(s, n%len(s), 1)
			out.WriteString(impl.PutNumber(number, 2) + impl.PadTo(s, n%20) + impl.HexOf(s) + impl.Join(impl.CutAll(s, 1+n%5), "|"))
			out.WriteString(impl.FormatInt(impl.ChecksumOf(s)))
		}
		return out.Bytes()
	}
	texts := []string{"abc", "\x00\xff", "file system", "é"}
	var alone [][]byte
	for _, s := range texts {
		alone = append(alone, report(s))
	}
	together := make([]chan []byte, len(texts))
	for i, s := range texts {
		together[i] = make(chan []byte, 1)
		go func() { together[i] <- report(s) }()
	}
	for i, s := range texts {
		if !bytes.Equal(<-together[i], alone[i]) {
			t.Errorf("the results for %q depend on other calls", s)
		}
	}
}
