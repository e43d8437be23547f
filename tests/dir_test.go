package tests

import (
	"fmt"
	"math"
	"slices"
	"strings"
	"testing"

	"loop.example/g00817/impl"
)

// wantEntryName looks at one byte after the other.
func wantEntryName(s string) bool {
	for k := range len(s) {
		if s[k] == 0 || s[k] == '/' {
			return false
		}
	}
	return len(s) > 0 && len(s) < 13 && s != "." && s != ".."
}

// recordText returns a record with any number before the name, and any length.
func recordText(number int, length int, name string) string {
	return string([]byte{byte(number / 256), byte(number), byte(length)}) + name + strings.Repeat("\x00", 13-len(name))
}

// recordsText returns the records of l.
func recordsText(l []impl.DirEntry) string {
	text := ""
	for _, e := range l {
		text += recordText(e.Inode+1, len(e.Name), e.Name)
	}
	return text
}

// isDirOf reports whether chapter 11 has anything to do with inode dir.
func isDirOf(f impl.FS, dir int) bool { return wantObject(f, dir) && f.Inodes[dir].Kind == 2 }

// wantDirCode is the code of all functions whose dir is no directory.
func wantDirCode(f impl.FS, dir int) int {
	switch {
	case isDirOf(f, dir):
		return 0
	case wantObject(f, dir):
		return 5
	}
	return 1
}

// wantEntries takes a record apart by the length that it tells.
func wantEntries(f impl.FS, dir int) []impl.DirEntry {
	var l []impl.DirEntry
	if !isDirOf(f, dir) {
		return nil
	}
	content := wantReadBytes(f, dir, 0, 256)
	for at := 0; at+16 <= len(content); at += 16 {
		number, length := int(content[at])*256+int(content[at+1]), int(content[at+2])
		if number < 1 || number > 20 || length < 1 || length > 12 {
			continue
		}
		name, rest := content[at+3:at+3+length], content[at+3+length:at+16]
		if wantEntryName(name) && strings.Trim(rest, "\x00") == "" {
			l = append(l, impl.DirEntry{Name: name, Inode: number - 1})
		}
	}
	return l
}

// placeOf returns the index of the first entry with this name, or -1.
func placeOf(l []impl.DirEntry, name string) int {
	return slices.IndexFunc(l, func(e impl.DirEntry) bool { return e.Name == name })
}

func wantFindEntry(f impl.FS, dir int, name string) (int, bool) {
	l := wantEntries(f, dir)
	if k := placeOf(l, name); k >= 0 {
		return l[k].Inode, true
	}
	return 0, false
}

func wantAddEntry(f impl.FS, dir int, name string, i int) (impl.FS, int) {
	code := wantDirCode(f, dir)
	switch {
	case code != 0:
		return f, code
	case !wantEntryName(name):
		return f, 11
	case i < 0 || i > 19:
		return f, 1
	case placeOf(wantEntries(f, dir), name) >= 0:
		return f, 4
	}
	return wantWriteBytes(f, dir, f.Inodes[dir].Size, recordText(i+1, len(name), name))
}

func wantRemoveEntry(f impl.FS, dir int, name string) (impl.FS, int) {
	if code := wantDirCode(f, dir); code != 0 {
		return f, code
	}
	l := wantEntries(f, dir)
	k := placeOf(l, name)
	if k < 0 {
		return f, 3
	}
	text := recordsText(slices.Delete(l, k, k+1))
	g, code := wantWriteBytes(f, dir, 0, text)
	if code != 0 {
		return f, code
	}
	return wantResizeFile(g, dir, len(text))
}

func wantParentOf(f impl.FS, i int) (int, string, bool) {
	for dir := range f.Inodes {
		for _, e := range wantEntries(f, dir) {
			if e.Inode == i {
				return dir, e.Name, true
			}
		}
	}
	return 0, "", false
}

func expectEntries(t *testing.T, f impl.FS, dir int) {
	t.Helper()
	if got, want := impl.EntriesOf(f, dir), wantEntries(f, dir); !slices.Equal(got, want) {
		t.Errorf("EntriesOf of inode %d is %v and not %v, for %s", dir, got, want, briefFS(f))
	}
}

func expectFound(t *testing.T, f impl.FS, dir int, name string) {
	t.Helper()
	got, ok := impl.FindEntry(f, dir, name)
	if want, wantOk := wantFindEntry(f, dir, name); got != want || ok != wantOk {
		t.Errorf("FindEntry of %.40q in inode %d is %d, %v and not %d, %v, for %s", name, dir, got, ok, want, wantOk, briefFS(f))
	}
}

func expectAdded(t *testing.T, f impl.FS, dir int, name string, i int) {
	t.Helper()
	got, code := impl.AddEntry(f, dir, name, i)
	want, wantCode := wantAddEntry(f, dir, name, i)
	expectResult(t, fmt.Sprintf("AddEntry of %.40q with %d to inode %d", name, i, dir), f, got, code, want, wantCode)
}

func expectRemoved(t *testing.T, f impl.FS, dir int, name string) {
	t.Helper()
	got, code := impl.RemoveEntry(f, dir, name)
	want, wantCode := wantRemoveEntry(f, dir, name)
	expectResult(t, fmt.Sprintf("RemoveEntry of %.40q from inode %d", name, dir), f, got, code, want, wantCode)
}

func expectParent(t *testing.T, f impl.FS, i int) {
	t.Helper()
	dir, name, ok := impl.ParentOf(f, i)
	if wantDir, wantName, wantOk := wantParentOf(f, i); dir != wantDir || name != wantName || ok != wantOk {
		t.Errorf("ParentOf of %d is %d, %q, %v and not %d, %q, %v, for %s", i, dir, name, ok, wantDir, wantName, wantOk, briefFS(f))
	}
}

// dirWith returns f with a directory of user u as inode dir, which has this content; those of its blocks that holes has are holes.
func dirWith(f impl.FS, dir int, u int, content string, holes int) impl.FS {
	f = cloneFS(f)
	for _, b := range f.Inodes[dir].Blocks {
		if b != -1 {
			f.Data[b] = sector("")
		}
	}
	f.Inodes[dir] = impl.Inode{}
	n := inodeOf(2, 493, u, 0, 1, len(content), 2)
	used := usedIn(f)
	b := 14*u + 13
	for k := 0; 32*k < len(content); k++ {
		if holes>>k&1 == 1 {
			n.Blocks = append(n.Blocks, -1)
			continue
		}
		for used[b] {
			b--
		}
		used[b] = true
		n.Blocks = append(n.Blocks, b)
		f.Data[b] = sector(content[32*k : min(32*k+32, len(content))])
	}
	f.Inodes[dir] = n
	if !impl.IsFS(f) {
		panic("there is no room for the directory")
	}
	return f
}

// entriesOf returns n entries whose names have all lengths, with different inodes as long as there are any.
func entriesOf(n int) []impl.DirEntry {
	var l []impl.DirEntry
	for k := range n {
		l = append(l, impl.DirEntry{Name: strings.Repeat(string(rune('a'+k)), 1+k*5%12), Inode: k * 7 % 20})
	}
	return l
}

// wrongRecords returns records that are none: each is wrong by one of the rules.
func wrongRecords() []string {
	l := []string{
		recordText(0, 1, "a"), recordText(0, 12, "abcdefghijkl"), recordText(0, 0, ""), recordText(21, 1, "a"), recordText(22, 1, "a"), recordText(255, 1, "a"),
		recordText(256, 1, "a"), recordText(257, 1, "a"), recordText(256+20, 3, "new"), recordText(5*256, 1, "a"), recordText(65535, 1, "a"), recordText(20*256+20, 1, "a"),
		recordText(1, 0, ""), recordText(1, 0, "a"), recordText(1, 2, "a"), recordText(1, 2, "abc"), recordText(1, 1, "ab"), recordText(1, 1, "a\x00b"), recordText(1, 3, "a\x00b"),
		recordText(1, 13, "abcdefghijklm"), recordText(1, 12, "abcdefghijklm"), recordText(1, 13, "abcdefghijkl"), recordText(1, 14, "abcdefghijklm"), recordText(1, 16, "abcdefghijklm"),
		recordText(1, 255, "abc"), recordText(1, 128, "abc"), recordText(1, 11, "abcdefghijkl"), recordText(1, 12, "abcdefghijk"), recordText(1, 12, ""), recordText(1, 13, ""),
		recordText(1, 1, "."), recordText(1, 2, ".."), recordText(1, 1, "/"), recordText(1, 3, "a/b"), recordText(1, 12, "/bcdefghijkl"), recordText(1, 12, "abcdefghijk/"),
		recordText(1, 1, ""), recordText(1, 3, "ab"), recordText(1, 2, "\x00b"), recordText(1, 1, "\x00b"), recordText(20, 12, "abcde\x00ghijkl"), recordText(1, 5, "abc"),
		strings.Repeat("a", 16), strings.Repeat("\x00", 16), strings.Repeat("\xff", 16), "\x00" + recordText(1, 1, "a")[:15], recordText(1, 1, "a")[1:] + "\x00",
	}
	for at := 4; at < 16; at++ {
		l = append(l, setByte(recordText(9, 1, "w"), at, 1), setByte(recordText(9, 1, "w"), at, 'w'), setByte(recordText(9, at-3, strings.Repeat("w", at-3)), at-1, 0))
	}
	return l
}

// oddNames returns names that are valid although they may look wrong, and names that are not valid.
func oddNames() []string {
	l := []string{
		"a", "...", "....", ".a", "a.", "..a", "a..", ". ", " .", " ", "abcdefghijkl", "abcdefghijklm", "............", ".............", "a\nb", "\\", "-", "*", "A", "a", "\x01", "\x7f", "\x80", "\xff\xfe",
		"é", "ééé", "éééééé", "éééééééé", "日本語日", "日本語日本", "new", "New", "new ", " new", "ne", "neww", "a/", "/a", "/", "//", "a\x00", "\x00a", "\x00", "./", "../", "./..", "a/b/c", ".", "..", "",
		strings.Repeat("\xff", 12), strings.Repeat("\xff", 13), strings.Repeat("\x00", 12), strings.Repeat("/", 12), strings.Repeat("a", 255), strings.Repeat("a", 256), strings.Repeat("a", 257), strings.Repeat("a", 65537), strings.Repeat("a", 100001),
	}
	return append(l, oddTexts()...)
}

// dirSystems returns valid file systems with directories that have entries, records that are none, holes, and a part of a record at the end.
func dirSystems() []impl.FS {
	l := entriesOf(16)
	systems := someFS()
	for _, n := range []int{0, 1, 2, 3, 5, 15, 16} {
		systems = append(systems, dirWith(emptyFS(), 0, 0, recordsText(l[:n]), 0), dirWith(emptyFS(), 7, 2, recordsText(l[:n]), 0x55), dirWith(busyFS(), 3, 0, recordsText(l[:n]), 0xaa))
	}
	wrong := strings.Join(wrongRecords()[:16], "")
	systems = append(systems, dirWith(emptyFS(), 0, 1, wrong, 0), dirWith(emptyFS(), 0, 3, (recordsText(l[:2]) + wrong)[:250], 0))
	for _, n := range []int{1, 4, 15, 17, 31, 33, 47, 63, 95, 100, 241, 255} {
		systems = append(systems, dirWith(emptyFS(), 0, 0, (recordsText(l) + "x")[:n], 0), dirWith(busyFS(), 0, 3, recordsText(l)[:n], 0x5))
	}
	return append(systems, treeFS())
}

// treeFS returns a file system with directories of several users, two of which name the same inodes.
func treeFS() impl.FS {
	f := busyFS()
	f = dirWith(f, 0, 0, recordsText([]impl.DirEntry{{Name: "one", Inode: 1}, {Name: "sub", Inode: 5}, {Name: "gone", Inode: 18}}), 0)
	f = dirWith(f, 5, 1, recordsText([]impl.DirEntry{{Name: "up", Inode: 0}, {Name: "first", Inode: 6}, {Name: "again", Inode: 6}, {Name: "own", Inode: 5}, {Name: "one", Inode: 11}, {Name: "one", Inode: 1}, {Name: "seven", Inode: 7}}), 0)
	f = dirWith(f, 8, 2, strings.Repeat("\x00", 32)+recordsText([]impl.DirEntry{{Name: "late", Inode: 7}, {Name: "self", Inode: 8}, {Name: "last", Inode: 19}}), 1)
	// A file with the content of a directory names nothing, also if it comes first.
	f.Inodes[2] = inodeOf(1, 420, 0, 0, 1, 16, 3, 11)
	f.Data[11] = sector(recordsText([]impl.DirEntry{{Name: "file", Inode: 17}}))
	return f
}

func TestKnownEntries(t *testing.T) {
	f := emptyFS()
	a, code := impl.AddEntry(f, 0, "new", 7)
	if code != impl.ErOk || a.Inodes[0].Size != 16 || impl.ReadBytes(a, 0, 0, 6) != "\x00\x08\x03new" || a.Data[0] != sector("\x00\x08\x03new") {
		t.Errorf("after the first entry, with the code %d, the root is %v with %q", code, a.Inodes[0], a.Data[0])
	}
	if i, ok := impl.FindEntry(a, 0, "new"); i != 7 || !ok {
		t.Errorf("the entry is found as %d, %v", i, ok)
	}
	if dir, name, ok := impl.ParentOf(a, 7); dir != 0 || name != "new" || !ok {
		t.Errorf("the parent is %d, %q, %v", dir, name, ok)
	}
	b, code := impl.AddEntry(a, 0, "b", 8)
	if l := impl.EntriesOf(b, 0); code != impl.ErOk || !slices.Equal(l, []impl.DirEntry{{Name: "new", Inode: 7}, {Name: "b", Inode: 8}}) || b.Inodes[0].Size != 32 {
		t.Errorf("after the second entry, with the code %d, the entries are %v", code, l)
	}
	c, code := impl.RemoveEntry(b, 0, "new")
	if l := impl.EntriesOf(c, 0); code != impl.ErOk || !slices.Equal(l, []impl.DirEntry{{Name: "b", Inode: 8}}) || c.Data[0] != sector("\x00\x09\x01b") || c.Inodes[0].Size != 16 {
		t.Errorf("after the removal, with the code %d, the entries are %v, in %q", code, l, c.Data[0])
	}
	if _, _, ok := impl.ParentOf(c, 7); ok {
		t.Error("the entry that was removed still has a parent")
	}
	d, code := impl.RemoveEntry(c, 0, "b")
	if code != impl.ErOk || d.Inodes[0].Size != 0 || len(d.Inodes[0].Blocks) != 0 || !equalFS(d, f) || impl.BlocksOf(d, 0) != 0 {
		t.Errorf("after the removal of the last entry, with the code %d, the file system is %s", code, briefFS(d))
	}
	for _, c := range []struct {
		name    string
		i, want int
	}{{"new", 1, impl.ErExists}, {"b", 8, impl.ErExists}, {"a/b", 1, impl.ErName}, {"c", 20, impl.ErInvalid}, {"c", 19, impl.ErOk}, {"abcdefghijkl", 0, impl.ErOk}, {"abcdefghijklm", 0, impl.ErName}} {
		if g, code := impl.AddEntry(b, 0, c.name, c.i); code != c.want || code != 0 && !equalFS(g, b) {
			t.Errorf("AddEntry of %q with %d has the code %d", c.name, c.i, code)
		}
	}
	if g, code := impl.RemoveEntry(b, 0, "x"); code != impl.ErMissing || !equalFS(g, b) {
		t.Errorf("RemoveEntry of what is not there has the code %d", code)
	}
}

func TestIsEntryName(t *testing.T) {
	names := append(allTexts("a./\x00\xff", 4), oddNames()...)
	for n := range 16 {
		names = append(names, strings.Repeat(".", n), strings.Repeat("\xc3\xa9", n), marked(200, n))
		for x := range 256 {
			for at := range n {
				names = append(names, setByte(marked(97, n), at, byte(x)))
			}
		}
	}
	for _, s := range names {
		if got := impl.IsEntryName(s); got != wantEntryName(s) {
			t.Errorf("IsEntryName(%.40q) is %v", s, got)
		}
	}
	for s, want := range map[string]bool{"abcdefghijkl": true, "abcdefghijklm": false, "a": true, "": false, ".": false, "..": false, "...": true, ".a": true, "a/b": false, "/": false, "a\x00": false, " ": true, "\n": true, "éééééé": true, "ééééééé": false, "\xff": true} {
		if impl.IsEntryName(s) != want {
			t.Errorf("IsEntryName(%q) is %v", s, !want)
		}
	}
}

func TestEntriesOf(t *testing.T) {
	for _, f := range dirSystems() {
		for dir := -1; dir <= 20; dir++ {
			expectEntries(t, f, dir)
		}
	}
	for n := range 17 {
		l := entriesOf(n)
		if got := impl.EntriesOf(dirWith(emptyFS(), 0, 3, recordsText(l), 0), 0); !slices.Equal(got, l) {
			t.Errorf("EntriesOf is %v and not %v", got, l)
		}
	}
}

// TestWrongRecords lays each record that is none at each place between others.
func TestWrongRecords(t *testing.T) {
	l := entriesOf(4)
	for _, wrong := range wrongRecords() {
		if len(wrong) != 16 {
			t.Fatalf("%q is no record", wrong)
		}
		for k := range 5 {
			text := recordsText(l[:k]) + wrong + recordsText(l[k:])
			f := dirWith(emptyFS(), 0, 0, text, 0)
			if got := impl.EntriesOf(f, 0); !slices.Equal(got, l) {
				t.Errorf("with %q as record %d, the entries are %v", wrong, k, got)
			}
			for _, name := range []string{strings.TrimRight(wrong[3:], "\x00"), wrong[3:], wrong, "", "a", "w"} {
				expectFound(t, f, 0, name)
			}
			expectParent(t, f, int(wrong[0])*256+int(wrong[1])-1)
			expectParent(t, f, -1)
			g, code := impl.RemoveEntry(f, 0, l[2].Name)
			if want := recordsText(l[:2]) + recordsText(l[3:]); code != 0 || impl.ReadBytes(g, 0, 0, 256) != want {
				t.Errorf("with %q as record %d, the code is %d, and %q is left", wrong, k, code, impl.ReadBytes(g, 0, 0, 256))
			}
			expectRemoved(t, f, 0, l[2].Name)
			expectAdded(t, f, 0, "behind", 3)
		}
	}
}

// TestBytesOfRecords has all values of each byte of records.
func TestBytesOfRecords(t *testing.T) {
	for _, record := range []string{recordText(1, 1, "a"), recordText(20, 12, "abcdefghijkl"), recordText(9, 2, ".a"), recordText(12, 11, "éééé日"), recordText(3, 3, "...")} {
		for at := range 16 {
			for x := range 256 {
				changed := setByte(record, at, byte(x))
				f := dirWith(emptyFS(), 0, 0, changed, 0)
				expectEntries(t, f, 0)
				for _, e := range wantEntries(f, 0) {
					if recordsText([]impl.DirEntry{e}) != changed {
						t.Errorf("%q is the record of %v", changed, e)
					}
					expectFound(t, f, 0, e.Name)
				}
			}
		}
	}
}

// TestAllInodesOfRecords has all numbers that a record may have.
func TestAllInodesOfRecords(t *testing.T) {
	for number := range 65536 {
		if number > 300 && number%256 > 22 {
			continue
		}
		l := impl.EntriesOf(dirWith(emptyFS(), 0, 0, recordText(number, 3, "new"), 0), 0)
		if isThere := number >= 1 && number <= 20; isThere != (len(l) == 1) || isThere && l[0] != (impl.DirEntry{Name: "new", Inode: number - 1}) {
			t.Errorf("with the number %d, the entries are %v", number, l)
		}
	}
}

// TestEndsOfDirectories cuts a directory off at each size: what is left of a record is ignored.
func TestEndsOfDirectories(t *testing.T) {
	l := entriesOf(16)
	for size := range 257 {
		f := dirWith(emptyFS(), 0, 1, recordsText(l)[:size], 0)
		if got := impl.EntriesOf(f, 0); !slices.Equal(got, l[:size/16]) {
			t.Errorf("of %d bytes, the entries are %v", size, got)
		}
		for k, e := range l {
			i, ok := impl.FindEntry(f, 0, e.Name)
			if ok != (k < size/16) || ok && i != e.Inode || !ok && i != 0 {
				t.Errorf("of %d bytes, FindEntry of %q is %d, %v", size, e.Name, i, ok)
			}
		}
		expectAdded(t, f, 0, "behind", 3)
		expectRemoved(t, f, 0, l[0].Name)
		expectRemoved(t, f, 0, l[max(0, size/16-1)].Name)
		expectRemoved(t, f, 0, l[min(15, size/16)].Name)
	}
	// The record is written at Size, so that one that lacks only its last zero gets that.
	f := dirWith(emptyFS(), 0, 0, recordsText(l[:1])[:15], 0)
	g, code := impl.AddEntry(f, 0, "new", 7)
	if got := impl.EntriesOf(g, 0); code != 0 || !slices.Equal(got, l[:1]) || impl.ReadBytes(g, 0, 15, 99) != recordText(8, 3, "new") {
		t.Errorf("behind 15 bytes, with the code %d, the entries are %v", code, got)
	}
}

// TestHolesOfDirectories has holes at all places, which read as records that are none.
func TestHolesOfDirectories(t *testing.T) {
	l := entriesOf(16)
	for holes := range 256 {
		for _, n := range []int{2, 7, 16} {
			f := dirWith(emptyFS(), 0, 2, recordsText(l[:n]), holes)
			var want []impl.DirEntry
			for k, e := range l[:n] {
				if holes>>(k/2)&1 == 0 {
					want = append(want, e)
				}
			}
			if got := impl.EntriesOf(f, 0); !slices.Equal(got, want) {
				t.Errorf("with the holes %b, the entries are %v and not %v", holes, got, want)
			}
			if holes%7 == 0 {
				expectParent(t, f, l[n-1].Inode)
				expectRemoved(t, f, 0, l[n-1].Name)
				expectRemoved(t, f, 0, l[0].Name)
				expectAdded(t, f, 0, "behind", 3)
			}
		}
	}
}

func TestFindEntry(t *testing.T) {
	names := append(oddNames(), "one", "sub", "gone", "up", "first", "again", "own", "seven", "late", "self", "last", "file")
	for _, e := range entriesOf(16) {
		names = append(names, e.Name, e.Name+"x", e.Name[1:], e.Name+"\x00", strings.ToUpper(e.Name))
	}
	for _, f := range dirSystems() {
		for _, dir := range []int{-1, 0, 1, 3, 5, 7, 8, 20} {
			if isDirOf(f, dir) || dir < 2 {
				for _, name := range names {
					expectFound(t, f, dir, name)
				}
			}
		}
	}
}

// TestFirstOfTwo has records with the same name, and ones with the same inode, which only a hand can lay.
func TestFirstOfTwo(t *testing.T) {
	l := []impl.DirEntry{{Name: "x", Inode: 3}, {Name: "same", Inode: 4}, {Name: "other", Inode: 5}, {Name: "same", Inode: 6}, {Name: "third", Inode: 4}, {Name: "same", Inode: 4}}
	f := dirWith(emptyFS(), 0, 0, recordsText(l), 0)
	if got := impl.EntriesOf(f, 0); !slices.Equal(got, l) {
		t.Errorf("the entries are %v", got)
	}
	if dir, name, ok := impl.ParentOf(f, 6); dir != 0 || name != "same" || !ok {
		t.Errorf("the parent of 6 is %d, %q, %v", dir, name, ok)
	}
	for k, inode := range []int{4, 6, 4} {
		if i, ok := impl.FindEntry(f, 0, "same"); i != inode || !ok {
			t.Errorf("after %d removals, %d, %v is found", k, i, ok)
		}
		if _, name, ok := impl.ParentOf(f, 4); name != []string{"same", "third", "third"}[k] || !ok {
			t.Errorf("after %d removals, 4 has the name %q, %v", k, name, ok)
		}
		if g, code := impl.AddEntry(f, 0, "same", 9); code != impl.ErExists || !equalFS(g, f) {
			t.Errorf("after %d removals, AddEntry has the code %d", k, code)
		}
		place := placeOf(l, "same")
		l = slices.Delete(l, place, place+1)
		g, code := impl.RemoveEntry(f, 0, "same")
		if got := impl.EntriesOf(g, 0); code != 0 || !slices.Equal(got, l) {
			t.Errorf("after removal %d, with the code %d, the entries are %v", k, code, got)
		}
		f = g
	}
	if g, code := impl.RemoveEntry(f, 0, "same"); code != impl.ErMissing || !equalFS(g, f) {
		t.Errorf("after all removals, the code is %d", code)
	}
}

func TestAddEntry(t *testing.T) {
	for k, f := range dirSystems() {
		for dir := -1; dir <= 20; dir++ {
			for j, name := range append(oddNames(), "one", "abcdefghijkl", entriesOf(3)[2].Name) {
				if isDirOf(f, dir) && (dir == 0 || (j+k)%5 == 0) || (j+k+dir)%40 == 0 {
					expectAdded(t, f, dir, name, (j+k)%21)
				}
			}
		}
	}
	for _, f := range []impl.FS{emptyFS(), treeFS(), busyFS()} {
		for _, i := range append(foreignNumbers(), 0, 1, 2, 5, 17, 18, 19) {
			expectAdded(t, f, 0, "new", i)
			expectAdded(t, f, 0, "sub", i)
			expectAdded(t, f, 0, "", i)
			expectAdded(t, f, 0, "abcdefghijklm", i)
		}
	}
}

func TestRemoveEntry(t *testing.T) {
	for k, f := range dirSystems() {
		for dir := -1; dir <= 20; dir++ {
			for j, name := range oddNames() {
				if (j+k+dir)%40 == 0 {
					expectRemoved(t, f, dir, name)
				}
			}
			for _, e := range wantEntries(f, dir) {
				expectRemoved(t, f, dir, e.Name)
				expectRemoved(t, f, dir, e.Name+"x")
			}
		}
	}
}

// TestRemovalsAtAllPlaces removes each entry of directories of all lengths, so first, in the middle and last, and across the edges of blocks.
func TestRemovalsAtAllPlaces(t *testing.T) {
	for n := 1; n <= 16; n++ {
		l := entriesOf(n)
		for u := range 2 {
			f := dirWith(busyFS(), 3*u, u, recordsText(l), 0)
			for k, e := range l {
				g, code := impl.RemoveEntry(f, 3*u, e.Name)
				want := slices.Delete(slices.Clone(l), k, k+1)
				if got := impl.EntriesOf(g, 3*u); code != 0 || !slices.Equal(got, want) || impl.ReadBytes(g, 3*u, 0, 999) != recordsText(want) {
					t.Errorf("without %v, with the code %d, the entries are %v", e, code, got)
				}
				if _, ok := impl.FindEntry(g, 3*u, e.Name); ok || g.Inodes[3*u].Size != 16*(n-1) || len(g.Inodes[3*u].Blocks) != n/2 {
					t.Errorf("without %v, the directory is %v", e, g.Inodes[3*u])
				}
				for j, b := range f.Inodes[3*u].Blocks {
					if part := sector(recordsText(want)[min(32*j, 16*(n-1)):min(32*j+32, 16*(n-1))]); g.Data[b] != part {
						t.Errorf("without %v, block %d has %q and not %q", e, b, g.Data[b], part)
					}
				}
				expectRemoved(t, f, 3*u, e.Name)
			}
		}
	}
}

func TestParentOf(t *testing.T) {
	numbers := append(foreignNumbers(), -2, 255, 257, 65535, 65536, 65537)
	for i := range 20 {
		numbers = append(numbers, i)
	}
	for _, f := range dirSystems() {
		for _, i := range numbers {
			expectParent(t, f, i)
		}
	}
	f := treeFS()
	for _, c := range []struct {
		i, dir int
		name   string
		ok     bool
	}{
		{0, 5, "up", true}, {1, 0, "one", true}, {5, 0, "sub", true}, {18, 0, "gone", true}, {6, 5, "first", true}, {11, 5, "one", true}, {7, 5, "seven", true}, {8, 8, "self", true},
		{19, 8, "last", true}, {17, 0, "", false}, {2, 0, "", false}, {15, 0, "", false}, {20, 0, "", false}, {-1, 0, "", false}, {math.MinInt, 0, "", false}, {math.MaxInt, 0, "", false},
	} {
		if dir, name, ok := impl.ParentOf(f, c.i); dir != c.dir || name != c.name || ok != c.ok {
			t.Errorf("ParentOf of %d is %d, %q, %v", c.i, dir, name, ok)
		}
	}
}

// TestParentsOfTwo has an inode in two directories, of which the first is a directory, then a file, and then not in use.
func TestParentsOfTwo(t *testing.T) {
	for _, c := range [][2]int{{0, 1}, {1, 2}, {2, 9}, {8, 19}, {0, 19}} {
		first, last := c[0], c[1]
		f := dirWith(emptyFS(), last, 1, recordsText([]impl.DirEntry{{Name: "z", Inode: 0}, {Name: "b", Inode: 13}}), 0)
		f = dirWith(f, first, 0, recordsText([]impl.DirEntry{{Name: "a", Inode: 13}, {Name: "aa", Inode: 13}}), 0)
		if dir, name, ok := impl.ParentOf(f, 13); dir != first || name != "a" || !ok {
			t.Errorf("in %v, the parent is %d, %q, %v", c, dir, name, ok)
		}
		if first == 0 {
			continue
		}
		f.Inodes[first].Kind = 1
		if dir, name, ok := impl.ParentOf(f, 13); dir != last || name != "b" || !ok {
			t.Errorf("in %v, with a file, the parent is %d, %q, %v", c, dir, name, ok)
		}
		f.Data[f.Inodes[first].Blocks[0]] = sector("")
		f.Inodes[first] = impl.Inode{}
		if dir, name, ok := impl.ParentOf(f, 13); dir != last || name != "b" || !ok {
			t.Errorf("in %v, with a free inode, the parent is %d, %q, %v", c, dir, name, ok)
		}
		f, _ = impl.RemoveEntry(f, last, "b")
		if dir, name, ok := impl.ParentOf(f, 13); dir != 0 || name != "" || ok {
			t.Errorf("in %v, without an entry, the parent is %d, %q, %v", c, dir, name, ok)
		}
	}
	self := dirWith(emptyFS(), 4, 3, recordsText([]impl.DirEntry{{Name: "me", Inode: 4}}), 0)
	if dir, name, ok := impl.ParentOf(self, 4); dir != 4 || name != "me" || !ok {
		t.Errorf("the parent of a directory that names itself is %d, %q, %v", dir, name, ok)
	}
}

// dirCodes returns what the six functions say of dir, and the file systems that two of them return.
func dirCodes(f impl.FS, dir int, name string, i int) (string, []impl.FS) {
	added, addCode := impl.AddEntry(f, dir, name, i)
	removed, removeCode := impl.RemoveEntry(f, dir, name)
	found, ok := impl.FindEntry(f, dir, name)
	return fmt.Sprint(addCode, removeCode, found, ok, len(impl.EntriesOf(f, dir))), []impl.FS{added, removed}
}

func expectNoDir(t *testing.T, f impl.FS, dir int, name string, i int, code int) {
	t.Helper()
	got, systems := dirCodes(f, dir, name, i)
	changes := func(g impl.FS) bool { return !equalFS(g, f) }
	if want := fmt.Sprint(code, code, 0, false, 0); got != want || slices.ContainsFunc(systems, changes) {
		t.Errorf("with inode %d, %.20q and %d, the answers are %s, for %s", dir, name, i, got, briefFS(f))
	}
}

// TestDirsRefuse has inodes that are files or not in use, numbers of none, and file systems that are not valid.
func TestDirsRefuse(t *testing.T) {
	for _, name := range append([]string{"one", "file", "new"}, oddNames()...) {
		for _, i := range []int{3, -1, 20, math.MinInt, math.MaxInt} {
			for _, dir := range foreignNumbers() {
				if dir != 2 {
					expectNoDir(t, treeFS(), dir, name, i, impl.ErInvalid)
				}
			}
			for _, dir := range []int{1, 2, 6, 7, 11, 15, 17, 19} {
				expectNoDir(t, treeFS(), dir, name, i, impl.ErNotDir)
			}
		}
	}
	for _, f := range brokenFS() {
		for _, dir := range []int{-1, 0, 1, 5, 20} {
			expectNoDir(t, f, dir, "new", 3, impl.ErInvalid)
		}
		expectNoDir(t, f, 0, "", -1, impl.ErInvalid)
		expectNoParent(t, f, 0)
	}
	for _, c := range brokenChanges() {
		expectNoDir(t, c.of(busyFS()), 0, "a", 3, impl.ErInvalid)
	}
	for _, change := range []func(f *impl.FS){
		func(f *impl.FS) { f.Tick = -1 }, func(f *impl.FS) { f.Quotas[3].Blocks = 15 }, func(f *impl.FS) { f.Data[30] = sector("x") }, func(f *impl.FS) { f.Data = f.Data[:55] },
		func(f *impl.FS) { f.Inodes = f.Inodes[:19] }, func(f *impl.FS) { f.Inodes[0].Kind = 1 }, func(f *impl.FS) { f.Inodes[17].Links = -1 }, func(f *impl.FS) { f.Inodes[8].Uid = 1 },
		func(f *impl.FS) { f.Inodes[5].Blocks[0] = f.Inodes[5].Blocks[1] }, func(f *impl.FS) { f.Inodes[5].Blocks[0] = 999 }, func(f *impl.FS) { f.Inodes[5].Size = 257 },
	} {
		f := fsChange{"a change", change}.of(treeFS())
		for i := -1; i <= 20; i++ {
			expectNoDir(t, f, i, "one", 4, impl.ErInvalid)
			expectNoParent(t, f, i)
		}
	}
}

func expectNoParent(t *testing.T, f impl.FS, i int) {
	t.Helper()
	if dir, name, ok := impl.ParentOf(f, i); dir != 0 || name != "" || ok {
		t.Errorf("ParentOf of %d is %d, %q, %v, for %s", i, dir, name, ok, briefFS(f))
	}
}

// TestDirsOfChangedFS has valid file systems that may look wrong.
func TestDirsOfChangedFS(t *testing.T) {
	for _, c := range allowedChanges() {
		f := c.of(busyFS())
		for _, dir := range []int{0, 1, 5, 7} {
			expectEntries(t, f, dir)
			expectAdded(t, f, dir, "new", 3)
			expectRemoved(t, f, dir, "new")
		}
		expectParent(t, f, 3)
	}
}

// TestFirstDirConditions has calls for which two conditions fail or more.
func TestFirstDirConditions(t *testing.T) {
	full := dirWith(emptyFS(), 0, 0, recordsText(entriesOf(16)), 0)
	none := dirWith(fileFS(), 0, 0, recordsText(entriesOf(2)), 0)
	none.Quotas = quotas(0, 0)
	broken := cloneFS(none)
	broken.Tick = -1
	old := entriesOf(2)[1].Name
	for _, c := range []struct {
		f    impl.FS
		dir  int
		name string
		i    int
		want int
	}{
		{broken, 0, "", 20, impl.ErInvalid}, {broken, 1, "", 20, impl.ErInvalid}, {broken, 2, old, 3, impl.ErInvalid}, {broken, 0, "a/b", 3, impl.ErInvalid}, {broken, 1, old, 3, impl.ErInvalid}, {broken, 0, old, 3, impl.ErInvalid},
		{none, 1, "", 20, impl.ErNotDir}, {none, 1, "a", 20, impl.ErNotDir}, {none, 1, old, 3, impl.ErNotDir}, {none, 2, "", 3, impl.ErInvalid}, {none, 20, "", 3, impl.ErInvalid}, {none, -1, "", 3, impl.ErInvalid},
		{none, 0, "", 20, impl.ErName}, {none, 0, "a/b", -1, impl.ErName}, {none, 0, "", 3, impl.ErName}, {none, 0, old, 20, impl.ErInvalid}, {none, 0, old, -1, impl.ErInvalid}, {none, 0, "new", 20, impl.ErInvalid},
		{none, 0, old, 3, impl.ErExists}, {none, 0, "new", 3, impl.ErQuota}, {full, 0, "", 20, impl.ErName}, {full, 0, old, 20, impl.ErInvalid}, {full, 0, old, 3, impl.ErExists}, {full, 0, "new", 20, impl.ErInvalid}, {full, 0, "new", 3, impl.ErBig},
	} {
		if g, code := impl.AddEntry(c.f, c.dir, c.name, c.i); code != c.want || !equalFS(g, c.f) {
			t.Errorf("AddEntry of %q with %d to %d has the code %d and not %d", c.name, c.i, c.dir, code, c.want)
		}
	}
	hole := dirWith(fileFS(), 0, 0, strings.Repeat("\x00", 32)+recordsText(entriesOf(4)), 1)
	hole.Quotas = quotas(0, 0)
	for _, c := range []struct {
		f    impl.FS
		dir  int
		name string
		want int
	}{
		{broken, 0, "x", impl.ErInvalid}, {broken, 1, "x", impl.ErInvalid}, {broken, 0, old, impl.ErInvalid}, {broken, 0, "", impl.ErInvalid}, {none, 1, "x", impl.ErNotDir}, {none, 1, "", impl.ErNotDir}, {none, 2, "x", impl.ErInvalid}, {none, 20, "x", impl.ErInvalid},
		{none, 0, "", impl.ErMissing}, {none, 0, "a/b", impl.ErMissing}, {none, 0, "..", impl.ErMissing}, {hole, 0, "x", impl.ErMissing}, {hole, 0, old, impl.ErQuota}, {hole, 1, old, impl.ErNotDir}, {hole, -1, old, impl.ErInvalid},
	} {
		if g, code := impl.RemoveEntry(c.f, c.dir, c.name); code != c.want || !equalFS(g, c.f) {
			t.Errorf("RemoveEntry of %q from %d has the code %d and not %d", c.name, c.dir, code, c.want)
		}
	}
}
