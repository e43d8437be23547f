package tests

import (
	"fmt"
	"math"
	"math/rand"
	"regexp"
	"slices"
	"strings"
	"sync"
	"testing"

	"loop.example/g00817/impl"
)

// acl returns a list of entries with these Tags, Ids and Perms.
func acl(entries ...[3]int) []impl.AclEntry {
	var l []impl.AclEntry
	for _, e := range entries {
		l = append(l, impl.AclEntry{Tag: e[0], Id: e[1], Perm: e[2]})
	}
	return l
}

// aclShapes returns the valid lists of every choice of users and groups, all with the Perm 0.
func aclShapes() [][]impl.AclEntry {
	shapes := [][]impl.AclEntry{nil}
	for chosen := range 256 {
		var l []impl.AclEntry
		for k := range 8 {
			if chosen>>k&1 == 1 {
				l = append(l, impl.AclEntry{Tag: 1 + k/4, Id: k % 4})
			}
		}
		if len(l) <= 5 {
			shapes = append(shapes, append(l, impl.AclEntry{Tag: 3}))
		}
	}
	return shapes
}

// validAcls returns lists of every shape, in which each entry has each Perm.
func validAcls() [][]impl.AclEntry {
	random := rand.New(rand.NewSource(5))
	var lists [][]impl.AclEntry
	for _, shape := range aclShapes() {
		for turn := range 16 {
			l := slices.Clone(shape)
			for k := range l {
				l[k].Perm = (turn + k) % 8
				if turn >= 8 {
					l[k].Perm = random.Intn(8)
				}
			}
			lists = append(lists, l)
		}
	}
	return lists
}

// someAcls returns a valid list of each length, and a few more.
func someAcls() [][]impl.AclEntry {
	return [][]impl.AclEntry{
		nil,
		acl([3]int{3, 0, 7}),
		acl([3]int{3, 0, 0}),
		acl([3]int{1, 2, 6}, [3]int{3, 0, 4}),
		acl([3]int{2, 0, 0}, [3]int{3, 0, 1}),
		acl([3]int{1, 0, 1}, [3]int{2, 0, 2}, [3]int{3, 0, 3}),
		acl([3]int{1, 0, 7}, [3]int{1, 3, 0}, [3]int{2, 1, 5}, [3]int{3, 0, 6}),
		acl([3]int{2, 0, 7}, [3]int{2, 1, 0}, [3]int{2, 2, 3}, [3]int{2, 3, 3}, [3]int{3, 0, 2}),
		acl([3]int{1, 0, 7}, [3]int{1, 1, 0}, [3]int{1, 2, 3}, [3]int{1, 3, 4}, [3]int{2, 3, 2}, [3]int{3, 0, 5}),
	}
}

// oddNumbers returns numbers that no field of a list may have.
func oddNumbers() []int {
	l := []int{math.MinInt, math.MinInt + 1, math.MinInt + 3, -1 << 32, -256, -255, -2, -1, 8, 9, 10, 16, 48, 100, 255}
	return append(l, 256, 257, 258, 259, 512, 1<<32, 1<<32+1, 1<<32+3, 1<<62, math.MaxInt-1, math.MaxInt)
}

// changedAcls returns what l becomes by one change: of a field, of the order, or of the number of its entries.
func changedAcls(l []impl.AclEntry) [][]impl.AclEntry {
	var lists [][]impl.AclEntry
	add := func(change func(c []impl.AclEntry) []impl.AclEntry) {
		lists = append(lists, change(slices.Clone(l)))
	}
	for k := range l {
		for _, n := range append(oddNumbers(), 0, 1, 2, 3, 4, 5, 6, 7) {
			add(func(c []impl.AclEntry) []impl.AclEntry { c[k].Tag = n; return c })
			add(func(c []impl.AclEntry) []impl.AclEntry { c[k].Id = n; return c })
			add(func(c []impl.AclEntry) []impl.AclEntry { c[k].Perm = n; return c })
		}
		add(func(c []impl.AclEntry) []impl.AclEntry { return slices.Delete(c, k, k+1) })
		add(func(c []impl.AclEntry) []impl.AclEntry { return slices.Insert(c, k, c[k]) })
		for j := range k {
			add(func(c []impl.AclEntry) []impl.AclEntry { c[j], c[k] = c[k], c[j]; return c })
			add(func(c []impl.AclEntry) []impl.AclEntry { return append(c, c[j]) })
		}
	}
	for _, e := range acl([3]int{0, 0, 0}, [3]int{1, 0, 1}, [3]int{1, 3, 7}, [3]int{2, 0, 2}, [3]int{2, 3, 0}, [3]int{3, 0, 0}, [3]int{3, 1, 7}, [3]int{4, 0, 0}) {
		for k := range len(l) + 1 {
			add(func(c []impl.AclEntry) []impl.AclEntry { return slices.Insert(c, k, e) })
		}
	}
	return lists
}

// longAcls returns lists with too many entries, in order where that is possible.
func longAcls() [][]impl.AclEntry {
	var all []impl.AclEntry
	for k := range 8 {
		all = append(all, impl.AclEntry{Tag: 1 + k/4, Id: k % 4, Perm: 7 - k})
	}
	mask := impl.AclEntry{Tag: 3, Perm: 5}
	lists := [][]impl.AclEntry{append(slices.Clone(all), mask), append(slices.Clone(all[:6]), mask), append(slices.Clone(all[2:]), mask), all, all[:7], all[:6]}
	for _, n := range []int{6, 7, 255, 256, 257, 262, 1000} {
		lists = append(lists, slices.Repeat([]impl.AclEntry{mask}, n), slices.Repeat(all[:1], n), make([]impl.AclEntry, n))
	}
	return lists
}

// allAcls returns lists of all kinds, valid ones and others.
func allAcls() [][]impl.AclEntry {
	lists := append(longAcls(), nil, []impl.AclEntry{})
	for _, l := range someAcls() {
		lists = append(append(lists, l), changedAcls(l)...)
	}
	var entries []impl.AclEntry
	for tag := range 5 {
		for id := -1; id <= 4; id++ {
			for _, perm := range []int{-1, 0, 7, 8} {
				entries = append(entries, impl.AclEntry{Tag: tag, Id: id, Perm: perm})
			}
		}
	}
	for _, e := range entries {
		lists = append(lists, []impl.AclEntry{e})
		for _, f := range entries {
			lists = append(lists, []impl.AclEntry{e, f})
			if e.Perm%7 == 0 && f.Perm%7 == 0 {
				lists = append(lists, append([]impl.AclEntry{e, f}, acl([3]int{3, 0, 3})...))
			}
		}
	}
	return lists
}

// aclPlace returns the place of an entry in the order of lists, or -1 if no list has it.
func aclPlace(e impl.AclEntry) int {
	return slices.Index([]impl.AclEntry{
		{Tag: 1, Id: 0}, {Tag: 1, Id: 1}, {Tag: 1, Id: 2}, {Tag: 1, Id: 3}, {Tag: 2, Id: 0}, {Tag: 2, Id: 1}, {Tag: 2, Id: 2}, {Tag: 2, Id: 3}, {Tag: 3, Id: 0},
	}, impl.AclEntry{Tag: e.Tag, Id: e.Id})
}

func wantAcl(l []impl.AclEntry) bool {
	last := -1
	for _, e := range l {
		place := aclPlace(e)
		if place <= last || e.Perm < 0 || e.Perm > 7 {
			return false
		}
		last = place
	}
	return len(l) == 0 || len(l) <= 6 && last == 8
}

func wantAclText(l []impl.AclEntry) string {
	if !wantAcl(l) {
		return ""
	}
	text := "-"
	for _, e := range l {
		text += fmt.Sprintf(",%s%d:%d", []string{1: "u", 2: "g", 3: "m"}[e.Tag], e.Id, e.Perm)
	}
	return strings.TrimPrefix(text, "-,")
}

func wantAclBytes(l []impl.AclEntry) string {
	if !wantAcl(l) {
		return ""
	}
	record := make([]byte, 19)
	record[0] = byte(len(l))
	for k, e := range l {
		record[3*k+1], record[3*k+2], record[3*k+3] = byte(e.Tag), byte(e.Id), byte(e.Perm)
	}
	return string(record)
}

var aclText = regexp.MustCompile(`\A[ugm][0-3]:[0-7](,[ugm][0-3]:[0-7]){0,5}\z`)

// wantParsed reads the characters of the entries at their fixed places.
func wantParsed(t string) ([]impl.AclEntry, bool) {
	var l []impl.AclEntry
	if aclText.MatchString(t) {
		for at := 0; at < len(t); at += 5 {
			l = append(l, impl.AclEntry{Tag: strings.Index(" ugm", t[at:at+1]), Id: int(t[at+1] - '0'), Perm: int(t[at+3] - '0')})
		}
	}
	if t != "-" && l == nil || !wantAcl(l) {
		return nil, false
	}
	return l, true
}

func wantUnpacked(s string) ([]impl.AclEntry, bool) {
	if len(s) != 19 || s[0] > 6 {
		return nil, false
	}
	end := 1 + 3*int(s[0])
	var l []impl.AclEntry
	for at := 1; at < end; at += 3 {
		l = append(l, impl.AclEntry{Tag: int(s[at]), Id: int(s[at+1]), Perm: int(s[at+2])})
	}
	if !wantAcl(l) || strings.Count(s[end:], "\x00") != 19-end {
		return nil, false
	}
	return l, true
}

func TestAclConstants(t *testing.T) {
	got := []int{impl.MaxUsers, impl.MaxAcl, impl.AclUser, impl.AclGroup, impl.AclMask}
	if !slices.Equal(got, []int{4, 6, 1, 2, 3}) {
		t.Errorf("the constants are %v", got)
	}
}

// TestKnownAcls has all that the document says of a few lists written out.
func TestKnownAcls(t *testing.T) {
	for _, c := range []struct {
		l     []impl.AclEntry
		text  string
		bytes string
	}{
		{nil, "-", strings.Repeat("\x00", 19)},
		{[]impl.AclEntry{}, "-", strings.Repeat("\x00", 19)},
		{acl([3]int{3, 0, 0}), "m0:0", "\x01\x03" + strings.Repeat("\x00", 17)},
		{acl([3]int{3, 0, 7}), "m0:7", "\x01\x03\x00\x07" + strings.Repeat("\x00", 15)},
		{acl([3]int{1, 2, 6}, [3]int{3, 0, 4}), "u2:6,m0:4", "\x02\x01\x02\x06\x03\x00\x04" + strings.Repeat("\x00", 12)},
		{acl([3]int{2, 3, 1}, [3]int{3, 0, 5}), "g3:1,m0:5", "\x02\x02\x03\x01\x03\x00\x05" + strings.Repeat("\x00", 12)},
		{acl([3]int{1, 3, 0}, [3]int{2, 0, 7}, [3]int{3, 0, 2}), "u3:0,g0:7,m0:2", "\x03\x01\x03\x00\x02\x00\x07\x03\x00\x02" + strings.Repeat("\x00", 9)},
		{
			acl([3]int{1, 0, 7}, [3]int{1, 1, 6}, [3]int{1, 2, 5}, [3]int{1, 3, 4}, [3]int{2, 0, 3}, [3]int{3, 0, 2}),
			"u0:7,u1:6,u2:5,u3:4,g0:3,m0:2",
			"\x06\x01\x00\x07\x01\x01\x06\x01\x02\x05\x01\x03\x04\x02\x00\x03\x03\x00\x02",
		},
	} {
		parsed, isText := impl.ParseAcl(c.text)
		unpacked, isPacked := impl.UnpackAcl(c.bytes)
		if !impl.IsAcl(c.l) || impl.FormatAcl(c.l) != c.text || impl.PackAcl(c.l) != c.bytes {
			t.Errorf("%v is valid: %v, %q, %q", c.l, impl.IsAcl(c.l), impl.FormatAcl(c.l), impl.PackAcl(c.l))
		}
		if !isText || !isPacked || !slices.Equal(parsed, c.l) || !slices.Equal(unpacked, c.l) {
			t.Errorf("%v is recovered as %v, %v and %v, %v", c.l, parsed, isText, unpacked, isPacked)
		}
	}
}

// TestKnownWrongAcls has, for each rule of lists, one that breaks no other rule.
func TestKnownWrongAcls(t *testing.T) {
	for name, l := range map[string][]impl.AclEntry{
		"seven entries":       acl([3]int{1, 0, 1}, [3]int{1, 1, 1}, [3]int{1, 2, 1}, [3]int{1, 3, 1}, [3]int{2, 0, 1}, [3]int{2, 1, 1}, [3]int{3, 0, 1}),
		"no mask":             acl([3]int{1, 2, 6}),
		"no mask for groups":  acl([3]int{1, 2, 6}, [3]int{2, 2, 6}),
		"six without a mask":  acl([3]int{1, 0, 1}, [3]int{1, 1, 1}, [3]int{1, 2, 1}, [3]int{1, 3, 1}, [3]int{2, 0, 1}, [3]int{2, 1, 1}),
		"the mask first":      acl([3]int{3, 0, 4}, [3]int{1, 2, 6}),
		"the mask between":    acl([3]int{1, 2, 6}, [3]int{3, 0, 4}, [3]int{2, 2, 6}),
		"the mask twice":      acl([3]int{3, 0, 4}, [3]int{3, 0, 4}),
		"two masks":           acl([3]int{3, 0, 4}, [3]int{3, 0, 5}),
		"a mask with an Id":   acl([3]int{3, 1, 4}),
		"masks of two Ids":    acl([3]int{3, 0, 4}, [3]int{3, 1, 4}),
		"a mask before 0":     acl([3]int{3, -1, 4}),
		"a user twice":        acl([3]int{1, 2, 6}, [3]int{1, 2, 6}, [3]int{3, 0, 4}),
		"a user of two Perms": acl([3]int{1, 2, 5}, [3]int{1, 2, 6}, [3]int{3, 0, 4}),
		"a group twice":       acl([3]int{2, 2, 6}, [3]int{2, 2, 6}, [3]int{3, 0, 4}),
		"users out of order":  acl([3]int{1, 2, 6}, [3]int{1, 1, 6}, [3]int{3, 0, 4}),
		"groups out of order": acl([3]int{2, 2, 6}, [3]int{2, 0, 6}, [3]int{3, 0, 4}),
		"a group before":      acl([3]int{2, 1, 6}, [3]int{1, 2, 6}, [3]int{3, 0, 4}),
		"user 4":              acl([3]int{1, 4, 6}, [3]int{3, 0, 4}),
		"user -1":             acl([3]int{1, -1, 6}, [3]int{3, 0, 4}),
		"group 4":             acl([3]int{2, 4, 6}, [3]int{3, 0, 4}),
		"group -1":            acl([3]int{2, -1, 6}, [3]int{3, 0, 4}),
		"Tag 0":               acl([3]int{0, 0, 6}, [3]int{3, 0, 4}),
		"Tag 4":               acl([3]int{3, 0, 4}, [3]int{4, 0, 6}),
		"Tag -1":              acl([3]int{-1, 0, 6}, [3]int{3, 0, 4}),
		"only Tag 4":          acl([3]int{4, 0, 6}),
		"Perm 8 of a user":    acl([3]int{1, 2, 8}, [3]int{3, 0, 4}),
		"Perm -1 of a user":   acl([3]int{1, 2, -1}, [3]int{3, 0, 4}),
		"Perm 8 of a group":   acl([3]int{2, 2, 8}, [3]int{3, 0, 4}),
		"Perm -1 of a group":  acl([3]int{2, 2, -1}, [3]int{3, 0, 4}),
		"Perm 8 of the mask":  acl([3]int{1, 2, 6}, [3]int{3, 0, 8}),
		"Perm -1 of the mask": acl([3]int{1, 2, 6}, [3]int{3, 0, -1}),
		"the least ints":      acl([3]int{math.MinInt, math.MinInt, math.MinInt}),
		"the greatest ints":   acl([3]int{math.MaxInt, math.MaxInt, math.MaxInt}),
		"the zero value":      acl([3]int{0, 0, 0}),
	} {
		if impl.IsAcl(l) || impl.FormatAcl(l) != "" || impl.PackAcl(l) != "" {
			t.Errorf("%s, %v: valid is %v, %q, %q", name, l, impl.IsAcl(l), impl.FormatAcl(l), impl.PackAcl(l))
		}
	}
}

func TestAclTextsAndBytes(t *testing.T) {
	for _, l := range append(allAcls(), validAcls()...) {
		if got := impl.IsAcl(l); got != wantAcl(l) {
			t.Errorf("IsAcl(%v) is %v", l, got)
		}
		if got := impl.FormatAcl(l); got != wantAclText(l) {
			t.Errorf("FormatAcl(%v) is %q", l, got)
		}
		if got := impl.PackAcl(l); got != wantAclBytes(l) {
			t.Errorf("PackAcl(%v) is %q", l, got)
		}
	}
}

// expectListRecovered checks that l is recovered from its text and from its bytes.
func expectListRecovered(t *testing.T, l []impl.AclEntry) {
	t.Helper()
	text, packed := impl.FormatAcl(l), impl.PackAcl(l)
	if got, ok := impl.ParseAcl(text); !ok || !slices.Equal(got, l) {
		t.Errorf("%v is recovered from %q as %v, %v", l, text, got, ok)
	}
	if got, ok := impl.UnpackAcl(packed); !ok || !slices.Equal(got, l) || len(packed) != 19 {
		t.Errorf("%v is recovered from %q as %v, %v", l, packed, got, ok)
	}
}

func TestAclsFromTheirTextsAndBytes(t *testing.T) {
	lengths := map[int]int{}
	for _, l := range validAcls() {
		expectListRecovered(t, l)
		lengths[len(l)]++
	}
	for n := range 7 {
		if lengths[n] == 0 {
			t.Errorf("no list has %d entries", n)
		}
	}
	for _, shape := range aclShapes() {
		if len(shape) > 3 {
			continue
		}
		for perms := range 1 << (3 * len(shape)) {
			l := slices.Clone(shape)
			for k := range l {
				l[k].Perm = perms >> (3 * k) & 7
			}
			expectListRecovered(t, l)
		}
	}
}

func TestAclsHaveTextsOfTheirOwn(t *testing.T) {
	texts, records := map[string]string{}, map[string]string{}
	for _, l := range validAcls() {
		text, packed, name := impl.FormatAcl(l), impl.PackAcl(l), fmt.Sprint(l)
		if before, ok := texts[text]; ok && before != name {
			t.Errorf("%s and %s have the text %q", before, name, text)
		}
		if before, ok := records[packed]; ok && before != name {
			t.Errorf("%s and %s have the bytes %q", before, name, packed)
		}
		texts[text], records[packed] = name, name
	}
}

func TestMaskOf(t *testing.T) {
	for _, c := range []struct {
		l    []impl.AclEntry
		want int
	}{
		{nil, 7}, {[]impl.AclEntry{}, 7}, {acl([3]int{1, 0, 3}), 7}, {acl([3]int{1, 3, 0}, [3]int{2, 3, 0}), 7}, {make([]impl.AclEntry, 9), 7},
		{acl([3]int{3, 0, 0}), 0}, {acl([3]int{3, 0, 7}), 7}, {acl([3]int{1, 0, 3}, [3]int{3, 0, 5}), 5}, {acl([3]int{3, 0, 5}, [3]int{1, 0, 3}), 5},
		{acl([3]int{3, 0, 1}, [3]int{3, 0, 2}), 1}, {acl([3]int{3, 0, 2}, [3]int{3, 0, 1}), 2}, {acl([3]int{3, 2, 4}, [3]int{3, 0, 1}), 4},
		{acl([3]int{3, -1, 4}), 4}, {acl([3]int{3, 9, 4}), 4}, {acl([3]int{3, 0, 8}), 8}, {acl([3]int{3, 0, -1}), -1},
		{acl([3]int{3, math.MinInt, math.MinInt}), math.MinInt}, {acl([3]int{3, math.MaxInt, math.MaxInt}), math.MaxInt},
		{acl([3]int{math.MinInt, 0, 1}, [3]int{math.MaxInt, 0, 2}, [3]int{0, 3, 3}, [3]int{4, 0, 4}, [3]int{259, 0, 5}), 7},
	} {
		if got := impl.MaskOf(c.l); got != c.want {
			t.Errorf("MaskOf(%v) is %d", c.l, got)
		}
	}
	for _, l := range allAcls() {
		want := 7
		if k := slices.IndexFunc(l, func(e impl.AclEntry) bool { return e.Tag == 3 }); k >= 0 {
			want = l[k].Perm
		}
		if got := impl.MaskOf(l); got != want {
			t.Errorf("MaskOf(%v) is %d", l, got)
		}
	}
}

func TestAclPerm(t *testing.T) {
	valid := acl([3]int{1, 0, 0}, [3]int{1, 2, 6}, [3]int{2, 2, 5}, [3]int{2, 3, 3}, [3]int{3, 0, 4})
	odd := acl([3]int{2, 1, 3}, [3]int{1, 1, 4}, [3]int{2, 1, 5}, [3]int{9, -9, 99}, [3]int{1, 1, -1}, [3]int{0, 0, 1}, [3]int{math.MinInt, math.MaxInt, 2})
	for _, c := range []struct {
		l       []impl.AclEntry
		tag, id int
		want    int
		ok      bool
	}{
		{valid, 1, 0, 0, true}, {valid, 1, 2, 6, true}, {valid, 2, 2, 5, true}, {valid, 2, 3, 3, true}, {valid, 3, 0, 4, true},
		{valid, 1, 1, 0, false}, {valid, 1, 3, 0, false}, {valid, 2, 0, 0, false}, {valid, 3, 1, 0, false}, {valid, 3, 2, 0, false},
		{valid, 2, 1, 0, false}, {valid, 0, 0, 0, false}, {valid, 4, 0, 0, false}, {valid, -1, 2, 0, false}, {valid, 1, 258, 0, false},
		{valid, 257, 2, 0, false}, {valid, 1, 1<<32 + 2, 0, false}, {valid, 1, math.MinInt, 0, false}, {valid, math.MaxInt, 2, 0, false},
		{valid, math.MinInt, math.MinInt, 0, false}, {valid, math.MaxInt, math.MaxInt, 0, false}, {nil, 1, 0, 0, false}, {nil, 0, 0, 0, false},
		{nil, 3, 0, 0, false}, {[]impl.AclEntry{}, 3, 0, 0, false}, {odd, 2, 1, 3, true}, {odd, 1, 1, 4, true}, {odd, 9, -9, 99, true},
		{odd, 0, 0, 1, true}, {odd, math.MinInt, math.MaxInt, 2, true}, {odd, 3, 0, 0, false}, {odd, math.MaxInt, math.MinInt, 0, false},
		{acl([3]int{1, 1, -1}), 1, 1, -1, true}, {acl([3]int{1, 1, math.MinInt}), 1, 1, math.MinInt, true},
	} {
		if got, ok := impl.AclPerm(c.l, c.tag, c.id); got != c.want || ok != c.ok {
			t.Errorf("AclPerm(%v, %d, %d) is %d, %v", c.l, c.tag, c.id, got, ok)
		}
	}
	for _, l := range append(allAcls(), validAcls()...) {
		for tag := range 5 {
			for id := -1; id <= 4; id++ {
				want, wantOk := 0, false
				for k := len(l) - 1; k >= 0; k-- {
					if l[k].Tag == tag && l[k].Id == id {
						want, wantOk = l[k].Perm, true
					}
				}
				if got, ok := impl.AclPerm(l, tag, id); got != want || ok != wantOk {
					t.Errorf("AclPerm(%v, %d, %d) is %d, %v", l, tag, id, got, ok)
				}
			}
		}
	}
}

// changedTexts returns what s becomes when a byte is replaced, added or left out.
func changedTexts(s string, alphabet string) []string {
	var texts []string
	for at := range len(s) + 1 {
		for i := range len(alphabet) {
			texts = append(texts, s[:at]+alphabet[i:i+1]+s[at:])
			if at < len(s) {
				texts = append(texts, s[:at]+alphabet[i:i+1]+s[at+1:])
			}
		}
		if at < len(s) {
			texts = append(texts, s[:at]+s[at+1:], s[:at], s[at:])
		}
	}
	return texts
}

// everyByte is a string of all bytes.
func everyByte() string {
	var all []byte
	for i := range 256 {
		all = append(all, byte(i))
	}
	return string(all)
}

func expectParsed(t *testing.T, text string) {
	t.Helper()
	want, wantOk := wantParsed(text)
	if got, ok := impl.ParseAcl(text); ok != wantOk || !slices.Equal(got, want) {
		t.Errorf("ParseAcl(%.60q) is %v, %v", text, got, ok)
	}
}

func TestParseAclRefuses(t *testing.T) {
	texts := []string{
		"", ",", ":", "--", "-,", ",-", "- ", " -", "-\n", "-\x00", "-0", "0", "-,m0:4", "m0:4,-", "u", "u2", "u2:", "u2:6", "u2:6,", ",u2:6", "u2:6,m0:4,",
		",u2:6,m0:4", "u2:6,,m0:4", "u2:6 m0:4", "u2:6;m0:4", "u2:6, m0:4", "u2:6 ,m0:4", "u2:6,m0:4\n", "\nu2:6,m0:4", " u2:6,m0:4", "u2:6,m0:4 ",
		"u2:6,m0:4\x00", "u02:6,m0:4", "u2:06,m0:4", "u2:6,m00:4", "u2:6,m0:04", "u2:6,m:4", "u2:6,m0:", "u:6,m0:4", "u2,m0:4", "2:6,m0:4", ":6,m0:4",
		"u2:6,0:4", "U2:6,m0:4", "u2:6,M0:4", "G2:6,m0:4", "o2:6,m0:4", "x0:7", "u2:6,u0:4", "u+2:6,m0:4", "u-2:6,m0:4", "u2:+6,m0:4", "u2:-6,m0:4",
		"u-0:6,m0:4", "u2:-0,m0:4", "u2:6,m-0:4", "u4:6,m0:4", "g4:6,m0:4", "u2:8,m0:4", "u2:6,m0:8", "u2:6,m1:4", "u10:6,m0:4", "u2:10,m0:4",
		"u2:6:6,m0:4", "u2::6,m0:4", "u2:6,m0:4:4", "uu2:6,m0:4", "u2 :6,m0:4", "u 2:6,m0:4", "u2: 6,m0:4", "u0x2:6,m0:4", "u2:6,m0:4.0", "u2:6,m0:1e0",
		"m0:4,u2:6", "g1:6,u2:6,m0:4", "u2:6,u1:6,m0:4", "u2:6,u2:6,m0:4", "u2:5,u2:6,m0:4", "m0:4,m0:4", "m0:4,m0:5", "u2:6,m0:4,g2:6", "u2:6,g2:6",
		"u0:1,u1:1,u2:1,u3:1,g0:1,g1:1,m0:1", "u0:1,u1:1,u2:1,u3:1,g0:1,g1:1", "u0:1,u1:1,u2:1,u3:1,g0:1,m0:1,m0:1", "[]", "nil", "user:2:6,mask::4",
		"u9223372036854775807:6,m0:4", "u-9223372036854775808:6,m0:4", "u18446744073709551618:6,m0:4", "u2:18446744073709551622,m0:4", "u256:6,m0:4",
		"u2:6,m4294967296:4", "u\u0662:6,m0:4", "ｕ2:6,m0:4", "u2：6,m0:4", "u2:6，m0:4", "-\u0030", "\u2212", "\u2013", "\xad",
		strings.Repeat("u0:0,", 100000) + "m0:0", strings.Repeat("m0:0,", 99999) + "m0:0", strings.Repeat(",", 100000), strings.Repeat("-", 100000),
		"u" + strings.Repeat("0", 100000) + "2:6,m0:4", "u2:" + strings.Repeat("6", 100000) + ",m0:4", "m0:4" + strings.Repeat("\x00", 15),
	}
	for _, text := range append(texts, oddTexts()...) {
		if got, ok := impl.ParseAcl(text); ok || got != nil {
			t.Errorf("ParseAcl(%.60q) is %v, %v", text, got, ok)
		}
		expectParsed(t, text)
	}
}

func TestParseAclOfChangedTexts(t *testing.T) {
	for _, l := range someAcls() {
		expectParsed(t, wantAclText(l))
		for _, text := range changedTexts(wantAclText(l), everyByte()) {
			expectParsed(t, text)
		}
	}
	for _, text := range changedTexts("u1:2,m0:4", "u0m:,- ") {
		for _, twice := range changedTexts(text, "01:,-") {
			expectParsed(t, twice)
		}
	}
}

func TestParseAclOfAllShortTexts(t *testing.T) {
	for _, text := range append(allTexts("ugm0378:,-", 4), allTexts("m07:,-", 6)...) {
		expectParsed(t, text)
	}
}

// TestParseAclOfAllPairs has all texts of two entries, also in the wrong order.
func TestParseAclOfAllPairs(t *testing.T) {
	var words []string
	for _, letter := range []string{"u", "g", "m", "x"} {
		for id := range 6 {
			for _, perm := range []string{"0", "7", "8"} {
				words = append(words, fmt.Sprint(letter, id, ":", perm))
			}
		}
	}
	for _, a := range words {
		for _, b := range words {
			expectParsed(t, a+","+b)
			expectParsed(t, a+","+b+",m0:1")
		}
	}
}

func expectUnpacked(t *testing.T, s string) {
	t.Helper()
	want, wantOk := wantUnpacked(s)
	if got, ok := impl.UnpackAcl(s); ok != wantOk || !slices.Equal(got, want) {
		t.Errorf("UnpackAcl(%.60q) is %v, %v", s, got, ok)
	}
}

func TestUnpackAclRefuses(t *testing.T) {
	zeros := strings.Repeat("\x00", 40)
	full := "\x06\x01\x00\x07\x01\x01\x06\x01\x02\x05\x01\x03\x04\x02\x00\x03\x03\x00\x02"
	records := []string{
		"", "\x00", zeros[:18], zeros[:20], zeros, "\x01\x03\x00\x07", ("\x01\x03\x00\x07" + zeros)[:18], ("\x01\x03\x00\x07" + zeros)[:20],
		("\x00\x03\x00\x07" + zeros)[:19], ("\x02\x03\x00\x07" + zeros)[:19], ("\x01\x03\x01\x07" + zeros)[:19], ("\x01\x03\x00\x08" + zeros)[:19],
		("\x01\x02\x00\x07" + zeros)[:19], ("\x01\x04\x00\x07" + zeros)[:19], ("\x01\x00\x00\x00" + zeros)[:19], ("\x01\x03\x00\x07\x01" + zeros)[:19],
		("\x02\x03\x00\x07\x03\x00\x07" + zeros)[:19], ("\x02\x03\x00\x04\x01\x02\x06" + zeros)[:19], ("\x02\x01\x04\x04\x03\x00\x06" + zeros)[:19],
		("\x02\x01\x02\x06\x03\x00\x04" + zeros)[:18] + "\x01", "\xff" + zeros[:18], strings.Repeat("\xff", 19), strings.Repeat("\xff", 766),
		full[:18], full + "\x00", full + "\x01", "\x00" + full, full[1:], full + full, "\x05" + full[1:], "\x07" + full[1:], "\x07" + full[1:] + "\x03\x00\x02",
		"u2:6,m0:4", "-", ("-" + zeros)[:19], "\x07" + full[1:16] + "\x02\x01\x03\x03\x00\x02", strings.Repeat("\x06", 100000),
	}
	for _, s := range append(records, oddTexts()...) {
		if got, ok := impl.UnpackAcl(s); ok || got != nil {
			t.Errorf("UnpackAcl(%.60q) is %v, %v", s, got, ok)
		}
		expectUnpacked(t, s)
	}
}

func TestUnpackAclOfChangedBytes(t *testing.T) {
	for _, l := range someAcls() {
		expectUnpacked(t, wantAclBytes(l))
		for _, s := range changedTexts(wantAclBytes(l), everyByte()) {
			expectUnpacked(t, s)
		}
	}
	for _, s := range changedTexts(wantAclBytes(someAcls()[3]), "\x00\x01\x03\x06\x08\xff") {
		for _, twice := range changedTexts(s, "\x00\x02\x04") {
			expectUnpacked(t, twice)
		}
	}
}

func TestUnpackAclOfAllCounts(t *testing.T) {
	for n := range 256 {
		for _, l := range someAcls() {
			expectUnpacked(t, string([]byte{byte(n)})+wantAclBytes(l)[1:])
		}
		whole := string([]byte{byte(n)}) + strings.Repeat("\x03\x00\x07", n)
		expectUnpacked(t, whole)
		expectUnpacked(t, whole+strings.Repeat("\x00", 19))
	}
}

func TestUnpackAclOfByteTexts(t *testing.T) {
	for _, s := range byteTexts() {
		expectUnpacked(t, s)
		expectParsed(t, s)
		expectUnpacked(t, (s + strings.Repeat("\x00", 19))[:19])
	}
}

// roomyAcl returns a slice with the entries of l and with others behind them, that would make another valid list, and the whole of it.
func roomyAcl(l []impl.AclEntry) (part []impl.AclEntry, whole []impl.AclEntry) {
	whole = append(slices.Clone(l), acl([3]int{3, 0, 1}, [3]int{1, 0, 1}, [3]int{3, 0, 2})...)
	return whole[:len(l)], whole
}

func spoilAcl(l []impl.AclEntry) {
	l = l[:cap(l)]
	for k := range l {
		l[k] = impl.AclEntry{Tag: -7, Id: -7, Perm: -7}
	}
}

// aclAnswers returns all that the functions say of l, as a text.
func aclAnswers(l []impl.AclEntry) string {
	text := fmt.Sprintf("%v %q %q %d", impl.IsAcl(l), impl.FormatAcl(l), impl.PackAcl(l), impl.MaskOf(l))
	for tag := 1; tag <= 3; tag++ {
		for id := range 4 {
			perm, ok := impl.AclPerm(l, tag, id)
			text += fmt.Sprint(" ", perm, ok)
		}
	}
	return text
}

// TestAclArgumentsStay also checks that no result depends on what is behind an argument.
func TestAclArgumentsStay(t *testing.T) {
	for _, l := range allAcls() {
		part, whole := roomyAcl(l)
		before, want := slices.Clone(whole), aclAnswers(l)
		if got := aclAnswers(part); got != want {
			t.Errorf("with room behind %v: %s, not %s", l, got, want)
		}
		if !slices.Equal(whole, before) {
			t.Errorf("%v is changed to %v", before, whole)
		}
		packed := impl.PackAcl(part)
		text := impl.FormatAcl(part)
		spoilAcl(part)
		if packed != wantAclBytes(l) || text != wantAclText(l) {
			t.Errorf("the results for %v change with it: %q, %q", l, packed, text)
		}
	}
}

// TestAclResultsAreNew changes a result, of the same argument: another one stays as it is.
func TestAclResultsAreNew(t *testing.T) {
	for _, l := range someAcls() {
		text, packed := wantAclText(l), wantAclBytes(l)
		for name, read := range map[string]func() ([]impl.AclEntry, bool){
			"ParseAcl":  func() ([]impl.AclEntry, bool) { return impl.ParseAcl(text) },
			"UnpackAcl": func() ([]impl.AclEntry, bool) { return impl.UnpackAcl(packed) },
		} {
			first, _ := read()
			other, _ := read()
			spoilAcl(first)
			again, ok := read()
			if !ok || !slices.Equal(other, l) || !slices.Equal(again, l) {
				t.Errorf("after a change of a result of %s for %v: %v, %v, %v", name, l, other, again, ok)
			}
		}
	}
}

// TestAclCallsKeepNothing makes calls at the same time, which must not disturb each other.
func TestAclCallsKeepNothing(t *testing.T) {
	var group sync.WaitGroup
	for _, l := range someAcls() {
		group.Go(func() {
			want := aclAnswers(l)
			for range 50 {
				expectListRecovered(t, l)
				if got := aclAnswers(l); got != want {
					t.Errorf("the answers for %v are %s, then %s", l, want, got)
				}
			}
		})
	}
	group.Wait()
}
