package tests

import (
	"fmt"
	"math"
	"regexp"
	"slices"
	"strings"
	"sync"
	"testing"

	"loop.example/g00817/impl"
)

func cred(uid int, gid int, groups ...int) impl.Cred {
	return impl.Cred{Uid: uid, Gid: gid, Groups: groups}
}

// validCreds returns every Cred that is valid.
func validCreds() []impl.Cred {
	var creds []impl.Cred
	for chosen := range 16 {
		var groups []int
		for g := range 4 {
			if chosen>>g&1 == 1 {
				groups = append(groups, g)
			}
		}
		for k := range 16 {
			creds = append(creds, cred(k/4, k%4, groups...))
		}
	}
	return creds
}

// someGroups returns lists of groups in every order, with elements twice and with numbers of no group.
func someGroups() [][]int {
	lists := [][]int{nil, {}}
	last := [][]int{nil}
	for range 4 {
		var longer [][]int
		for _, l := range last {
			for g := -1; g <= 4; g++ {
				longer = append(longer, append(slices.Clone(l), g))
			}
		}
		lists = append(lists, longer...)
		last = longer
	}
	return append(lists, []int{0, 1, 2, 3, 4}, []int{-1, 0, 1, 2, 3}, []int{0, 1, 2, 3, 3}, []int{0, 0, 1, 2, 3}, make([]int, 1000))
}

// invalidCreds returns Creds each of which has one fault, most of them also with the Uid of the superuser.
func invalidCreds() []impl.Cred {
	var creds []impl.Cred
	for _, n := range append(oddNumbers(), 4, 5) {
		creds = append(creds, cred(n, 0), cred(n, 3, 1, 2), cred(0, n), cred(2, n, 1, 2), cred(0, 0, n), cred(2, 1, n), cred(1, 1, 0, n), cred(0, 0, n, 3))
		creds = append(creds, cred(n, n, n), cred(0, 0, 0, 1, 2, 3, n), cred(0, 0, n, 0, 1, 2, 3))
	}
	for uid := range 4 {
		creds = append(creds, cred(uid, 0, 1, 1), cred(uid, 0, 2, 1), cred(uid, 0, 0, 2, 1), cred(uid, 0, 1, 0, 2), cred(uid, 0, 0, 1, 2, 3, 3))
		creds = append(creds, cred(uid, 0, 3, 2, 1, 0), cred(uid, 0, 0, 0), cred(uid, 0, 3, 3), cred(uid, 0, make([]int, 1000)...))
	}
	return creds
}

func wantCred(c impl.Cred) bool {
	set := slices.Compact(slices.Sorted(slices.Values(c.Groups)))
	for _, n := range append(slices.Clone(set), c.Uid, c.Gid) {
		if n < 0 || n > 3 {
			return false
		}
	}
	return slices.Equal(set, c.Groups)
}

func TestPermConstants(t *testing.T) {
	if got := []int{impl.ModeSetgid, impl.ModeSticky, impl.MaxMode}; !slices.Equal(got, []int{1024, 512, 2047}) {
		t.Errorf("the constants are %v", got)
	}
}

func TestKnownCreds(t *testing.T) {
	for _, c := range []struct {
		c    impl.Cred
		want bool
	}{
		{impl.Cred{}, true}, {cred(0, 0), true}, {impl.Cred{Uid: 2, Gid: 1, Groups: []int{}}, true}, {cred(3, 3), true}, {cred(2, 1, 3), true},
		{cred(3, 3, 0, 1, 2, 3), true}, {cred(1, 1, 1), true}, {cred(1, 2, 0, 3), true}, {cred(3, 0, 3), true}, {cred(0, 3, 0), true},
		{cred(4, 0), false}, {cred(0, 4), false}, {cred(0, 0, 4), false}, {cred(-1, 0), false}, {cred(0, -1), false}, {cred(0, 0, -1), false},
		{cred(0, 0, 1, 1), false}, {cred(0, 0, 1, 0), false}, {cred(0, 0, 0, 2, 1), false}, {cred(0, 0, 0, 1, 2, 3, 3), false}, {cred(0, 0, 2, 3, 4), false},
		{cred(math.MinInt, 0), false}, {cred(0, math.MaxInt), false}, {cred(0, 0, math.MinInt), false}, {cred(0, 0, 3, math.MaxInt), false},
	} {
		if got := impl.IsCred(c.c); got != c.want {
			t.Errorf("IsCred(%v) is %v", c.c, got)
		}
	}
}

func TestIsCred(t *testing.T) {
	count := 0
	for _, groups := range someGroups() {
		for uid := -1; uid <= 4; uid++ {
			for gid := -1; gid <= 4; gid++ {
				c := cred(uid, gid, groups...)
				if got := impl.IsCred(c); got != wantCred(c) {
					t.Errorf("IsCred(%.60v) is %v", c, got)
				}
			}
		}
	}
	for _, c := range invalidCreds() {
		if impl.IsCred(c) || wantCred(c) {
			t.Errorf("IsCred(%.60v) is true", c)
		}
	}
	for _, c := range validCreds() {
		if !impl.IsCred(c) {
			t.Errorf("IsCred(%v) is false", c)
		}
		count++
	}
	if count != 256 {
		t.Errorf("there are %d valid Creds", count)
	}
}

func TestInGroup(t *testing.T) {
	for _, c := range []struct {
		c    impl.Cred
		g    int
		want bool
	}{
		{cred(2, 1, 3), 1, true}, {cred(2, 1, 3), 3, true}, {cred(2, 1, 3), 2, false}, {cred(2, 1, 3), 0, false}, {cred(2, 1), 2, false},
		{impl.Cred{}, 0, true}, {impl.Cred{}, 1, false}, {cred(0, 1), 0, false}, {cred(3, 0, 1, 2), 2, true}, {cred(3, 0, 1, 2), 3, false},
		{cred(0, 0, 3, 1, 1), 1, true}, {cred(0, 0, 3, 1, 1), 3, true}, {cred(0, 0, 3, 1, 1), 2, false}, {cred(9, -5, 7), -5, true}, {cred(9, -5, 7), 7, true},
		{cred(9, -5, 7), 9, false}, {cred(0, math.MinInt, math.MaxInt), math.MinInt, true}, {cred(0, math.MinInt, math.MaxInt), math.MaxInt, true},
		{cred(0, math.MinInt, math.MaxInt), 0, false}, {cred(0, 0), math.MinInt, false}, {cred(0, 0), 1 << 32, false}, {cred(0, 1), 257, false},
	} {
		if got := impl.InGroup(c.c, c.g); got != c.want {
			t.Errorf("InGroup(%v, %d) is %v", c.c, c.g, got)
		}
	}
	var creds []impl.Cred
	for _, groups := range someGroups() {
		creds = append(creds, cred(0, -1, groups...), cred(1, 0, groups...), cred(3, 3, groups...), cred(4, 4, groups...))
	}
	for _, c := range append(append(creds, validCreds()...), invalidCreds()...) {
		groups := map[int]bool{c.Gid: true}
		for _, g := range c.Groups {
			groups[g] = true
		}
		for _, g := range append(oddNumbers(), 0, 1, 2, 3, 4, 5) {
			if got := impl.InGroup(c, g); got != groups[g] {
				t.Errorf("InGroup(%.60v, %d) is %v", c, g, got)
			}
		}
	}
}

// modesAndOthers returns every mode, and numbers that are none.
func modesAndOthers() []int {
	l := []int{math.MinInt, math.MinInt + 1, math.MinInt + 2047, -1 << 32, -2048, -2047, -512, -2, -1}
	for n := range 2060 {
		l = append(l, n)
	}
	return append(l, 3071, 4095, 4096, 65535, 65536, 1<<32-1, 1<<32, 1<<32+420, 1<<62, math.MaxInt-2047, math.MaxInt-1, math.MaxInt)
}

func isModeNumber(n int) bool { return n >= 0 && n <= 2047 }

func TestPermOf(t *testing.T) {
	for _, c := range []struct{ mode, class, want int }{
		{416, 0, 6}, {416, 1, 4}, {416, 2, 0}, {493, 0, 7}, {493, 1, 5}, {493, 2, 5}, {0421, 0, 4}, {0421, 1, 2}, {0421, 2, 1}, {0, 0, 0}, {0, 1, 0}, {0, 2, 0},
		{2047, 0, 7}, {2047, 1, 7}, {2047, 2, 7}, {512, 0, 0}, {1024, 0, 0}, {1536, 1, 0}, {1024 + 0356, 0, 3}, {512 + 0356, 1, 5}, {1536 + 0356, 2, 6},
		{2047, -1, 0}, {2047, 3, 0}, {2048, 0, 0}, {2048 + 0777, 0, 0}, {2048 + 0777, 2, 0}, {-1, 0, 0}, {-1, 1, 0}, {-1, 2, 0},
		{2047, math.MinInt, 0}, {2047, math.MaxInt, 0}, {2047, 1 << 32, 0}, {math.MinInt, 0, 0}, {math.MaxInt, 0, 0}, {math.MinInt, math.MinInt, 0},
	} {
		if got := impl.PermOf(c.mode, c.class); got != c.want {
			t.Errorf("PermOf(%d, %d) is %d", c.mode, c.class, got)
		}
	}
	for _, mode := range modesAndOthers() {
		digits := fmt.Sprintf("%04o", mode)
		for _, class := range append(oddNumbers(), 0, 1, 2, 3, 4, 5, 6) {
			want := 0
			if isModeNumber(mode) && class >= 0 && class <= 2 {
				want = int(digits[1+class] - '0')
			}
			if got := impl.PermOf(mode, class); got != want {
				t.Errorf("PermOf(%d, %d) is %d", mode, class, got)
			}
		}
	}
}

func wantModeText(mode int) string {
	if !isModeNumber(mode) {
		return ""
	}
	classes := []string{"---", "--x", "-w-", "-wx", "r--", "r-x", "rw-", "rwx"}
	return []string{"--", "-t", "s-", "st"}[mode/512] + classes[mode/64%8] + classes[mode/8%8] + classes[mode%8]
}

func TestKnownModes(t *testing.T) {
	for mode, want := range map[int]string{
		0: "-----------", 2047: "strwxrwxrwx", 1024: "s----------", 512: "-t---------", 1536: "st---------", 511: "--rwxrwxrwx",
		493: "--rwxr-xr-x", 420: "--rw-r--r--", 1024 + 420: "s-rw-r--r--", 512 + 488: "-trwxr-x---", 256: "--r--------", 128: "---w-------",
		64: "----x------", 32: "-----r-----", 16: "------w----", 8: "-------x---", 4: "--------r--", 2: "---------w-", 1: "----------x", 0421: "--r---w---x",
	} {
		if got := impl.FormatMode(mode); got != want {
			t.Errorf("FormatMode(%d) is %q", mode, got)
		}
		if got, ok := impl.ParseMode(want); got != mode || !ok {
			t.Errorf("ParseMode(%q) is %d, %v", want, got, ok)
		}
	}
}

func TestFormatMode(t *testing.T) {
	for _, mode := range append(modesAndOthers(), oddNumbers()...) {
		if got := impl.FormatMode(mode); got != wantModeText(mode) {
			t.Errorf("FormatMode(%d) is %q", mode, got)
		}
	}
}

func TestModesFromTheirTexts(t *testing.T) {
	modes := map[string]int{}
	for mode := range impl.MaxMode + 1 {
		text := impl.FormatMode(mode)
		if got, ok := impl.ParseMode(text); got != mode || !ok {
			t.Errorf("ParseMode(FormatMode(%d)) is %d, %v", mode, got, ok)
		}
		if other, ok := modes[text]; ok {
			t.Errorf("%d and %d have the text %q", other, mode, text)
		}
		modes[text] = mode
	}
	if len(modes) != 2048 {
		t.Errorf("there are %d texts of modes", len(modes))
	}
}

var modeText = regexp.MustCompile(`\A[s-][t-]([r-][w-][x-]){3}\z`)

func expectMode(t *testing.T, text string) {
	t.Helper()
	want, wantOk := 0, modeText.MatchString(text)
	if wantOk {
		for k, value := range []int{1024, 512, 256, 128, 64, 32, 16, 8, 4, 2, 1} {
			if text[k] != '-' {
				want += value
			}
		}
	}
	if got, ok := impl.ParseMode(text); got != want || ok != wantOk {
		t.Errorf("ParseMode(%.60q) is %d, %v", text, got, ok)
	}
}

func TestParseModeRefuses(t *testing.T) {
	texts := []string{
		"-", "s", "--", "s-", "rwxr-xr-x", "-rwxr-xr-x", "drwxr-xr-x", "--rwxr-xr-", "--rwxr-xr-x-", "---rwxr-xr-x", "--rwxr-xr-xx", "-rwxr-xr-x-",
		"s-rw-r--r-", "s-rw-r--r--\n", "\ns-rw-r--r--", " s-rw-r--r--", "s-rw-r--r-- ", "s-rw-r--r--\x00", "s-rw-r--r-\x00", "s-rw-r--r- ",
		"t-rw-r--r--", "-srw-r--r--", "tsrwxrwxrwx", "S-rw-r--r--", "-Trw-r--r--", "--RW-R--R--", "--wr-r--r--", "--rw--r-r--", "--xwrxwrxwr", "--wxrwxrwxr",
		"rwxrwxrwxst", "rwxrwxrwx--", "--rwsrwxrwt", "--rwxrwxrwt", "s-rwxrwxrws", "1-rw-r--r--", "10110100100", "00000000000", "11111111111", "--111111111",
		"___________", "           ", "\x00\x00\x00\x00\x00\x00\x00\x00\x00\x00\x00", "+++++++++++", "rrrrrrrrrrr", "sssssssssss", "strwxrwxrw", "strwxrwxrwxr",
		"strwxrwxrwxstrwxrwxrwx", "2047", "420", "0644", "0", "rw-,r--,r--", "--rw-r--r-é", "--rw-r--ré", "–rw-r--r--", "\u2010-rw-r--r--", "s\xad" + "rw-r--r--",
		strings.Repeat("-", 12), strings.Repeat("-", 10), strings.Repeat("-", 100000), strings.Repeat("strwxrwxrwx", 10000), strings.Repeat("x", 64), strings.Repeat("x", 75),
	}
	for _, text := range append(texts, oddTexts()...) {
		if got, ok := impl.ParseMode(text); got != 0 || ok {
			t.Errorf("ParseMode(%.60q) is %d, %v", text, got, ok)
		}
		expectMode(t, text)
	}
	for _, text := range append(byteTexts(), allTexts("-strwx", 5)...) {
		expectMode(t, text)
	}
}

func TestParseModeOfChangedTexts(t *testing.T) {
	for mode := range impl.MaxMode + 1 {
		text := wantModeText(mode)
		for _, changed := range changedTexts(text, "-strwx") {
			expectMode(t, changed)
		}
		for k := range len(text) {
			for j := range k {
				swapped := []byte(text)
				swapped[j], swapped[k] = swapped[k], swapped[j]
				expectMode(t, string(swapped))
			}
			expectMode(t, text[k:]+text[:k])
		}
	}
	for _, mode := range []int{0, 2047, 493, 1024 + 420, 512 + 488, 0421, 1536, 511} {
		for _, changed := range changedTexts(wantModeText(mode), everyByte()) {
			expectMode(t, changed)
		}
	}
}

// roomyCred returns a Cred with the numbers of c and with further groups behind its own, and the whole of these.
func roomyCred(c impl.Cred) (part impl.Cred, whole []int) {
	whole = append(slices.Clone(c.Groups), 3, 2, 1, 0)
	return cred(c.Uid, c.Gid, whole[:len(c.Groups)]...), whole
}

// permAnswers returns all that the functions say of c and l, as a text.
func permAnswers(c impl.Cred, l []impl.AclEntry) string {
	text := fmt.Sprint(impl.IsCred(c))
	for n := -1; n <= 4; n++ {
		text += fmt.Sprint(" ", impl.InGroup(c, n), impl.MayRemove(c, n, 512, 2), impl.MayRemove(c, 2, 1023, n), impl.MayRemove(c, 2, 511, n))
		for want := range 8 {
			text += fmt.Sprint(impl.Allowed(c, n, 2, 0421, l, want), impl.Allowed(c, 3, n, 0146, l, want))
		}
	}
	return text
}

// TestPermArgumentsStay also checks that no result depends on what is behind an argument, or on a call before.
func TestPermArgumentsStay(t *testing.T) {
	creds := append(invalidCreds(), validCreds()...)
	for _, list := range append(someAcls(), acl([3]int{1, 2, 8}, [3]int{3, 0, 4}), acl([3]int{2, 2, 6}), nil) {
		for k := range 60 {
			c := creds[k*37%len(creds)]
			groups := slices.Clone(c.Groups)
			part, wholeGroups := roomyCred(c)
			entries, wholeAcl := roomyAcl(list)
			beforeGroups, beforeAcl := slices.Clone(wholeGroups), slices.Clone(wholeAcl)
			want := permAnswers(c, list)
			if got := permAnswers(part, entries); got != want {
				t.Errorf("with room behind %.60v and %v: %s, not %s", c, list, got, want)
			}
			if !slices.Equal(wholeGroups, beforeGroups) || !slices.Equal(wholeAcl, beforeAcl) {
				t.Errorf("%.60v and %v are changed to %v and %v", c, list, wholeGroups, wholeAcl)
			}
			spoilAcl(entries)
			for k := range wholeGroups {
				wholeGroups[k] = -7
			}
			if got := permAnswers(cred(c.Uid, c.Gid, groups...), list); got != want {
				t.Errorf("after a change of earlier arguments, for %.60v and %v: %s, not %s", c, list, got, want)
			}
		}
	}
}

// TestPermCallsKeepNothing makes calls at the same time, which must not disturb each other.
func TestPermCallsKeepNothing(t *testing.T) {
	creds := validCreds()
	var group sync.WaitGroup
	for k, l := range someAcls() {
		group.Go(func() {
			c, mode := creds[(k*29+5)%len(creds)], k*227%2048
			want := permAnswers(c, l)
			for range 50 {
				if got := permAnswers(c, l); got != want {
					t.Errorf("the answers for %v and %v are %s, then %s", c, l, want, got)
				}
				if got, ok := impl.ParseMode(impl.FormatMode(mode)); got != mode || !ok {
					t.Errorf("%d is recovered as %d, %v", mode, got, ok)
				}
			}
		})
	}
	group.Wait()
}
