package tests

import (
	"math"
	"slices"
	"strings"
	"testing"

	"loop.example/g00817/impl"
)

// wantSplitPath takes one name after the other off the front of p.
func wantSplitPath(p string) ([]string, bool) {
	var names []string
	if p == "/" {
		return nil, true
	}
	for rest := p; rest != "" || len(names) == 0; {
		if rest == "" || rest[0] != '/' || len(names) == 8 {
			return nil, false
		}
		end := 1
		for end < len(rest) && rest[end] != '/' {
			end++
		}
		if !wantEntryName(rest[1:end]) {
			return nil, false
		}
		names, rest = append(names, rest[1:end]), rest[end:]
	}
	return names, true
}

func wantJoinPath(names []string) string {
	p := ""
	for _, name := range names {
		p += "/" + name
	}
	if len(names) == 0 {
		return "/"
	}
	return p
}

func objectOf(n impl.Inode) object { return object{n.Uid, n.Gid, n.Mode, n.Acl} }

func wantMayAccess(f impl.FS, c impl.Cred, i int, want int) bool {
	return wantObject(f, i) && wantAnyAllowed(c, objectOf(f.Inodes[i]), want)
}

// tree is a file system with the entries of its directories, as the model reads them.
type tree struct {
	f       impl.FS
	isValid bool
	entries [][]impl.DirEntry
}

func treeOf(f impl.FS) tree {
	s := tree{f: f, isValid: impl.IsFS(f)}
	for dir := 0; s.isValid && dir < 20; dir++ {
		s.entries = append(s.entries, wantEntries(f, dir))
	}
	return s
}

// follow goes on from inode at.
func (s tree) follow(c impl.Cred, at int, names []string) (int, int) {
	n := s.f.Inodes[at]
	if len(names) == 0 && n.Kind == 0 {
		return 0, 3
	}
	if len(names) == 0 {
		return at, 0
	}
	if n.Kind != 2 {
		return 0, 5
	}
	if !wantAnyAllowed(c, objectOf(n), 1) {
		return 0, 2
	}
	k := placeOf(s.entries[at], names[0])
	if k < 0 {
		return 0, 3
	}
	return s.follow(c, s.entries[at][k].Inode, names[1:])
}

func (s tree) resolve(c impl.Cred, p string) (int, int) {
	if !s.isValid || !wantCred(c) {
		return 0, 1
	}
	names, ok := wantSplitPath(p)
	if !ok {
		return 0, 11
	}
	return s.follow(c, 0, names)
}

func (s tree) resolveParent(c impl.Cred, p string) (int, string, int) {
	if !s.isValid || !wantCred(c) {
		return 0, "", 1
	}
	names, ok := wantSplitPath(p)
	if !ok || len(names) == 0 {
		return 0, "", 11
	}
	dir, code := s.follow(c, 0, names[:len(names)-1])
	switch n := s.f.Inodes[dir]; {
	case code != 0:
		return 0, "", code
	case n.Kind != 2:
		return 0, "", 5
	case !wantAnyAllowed(c, objectOf(n), 1):
		return 0, "", 2
	}
	return dir, names[len(names)-1], 0
}

// namesOf returns the names from the root to inode i, if these are at most most.
func (s tree) namesOf(i int, most int) ([]string, bool) {
	if i == 0 {
		return nil, true
	}
	for dir, l := range s.entries {
		k := slices.IndexFunc(l, func(e impl.DirEntry) bool { return e.Inode == i })
		if k < 0 {
			continue
		}
		if most == 0 {
			return nil, false
		}
		names, ok := s.namesOf(dir, most-1)
		return append(names, l[k].Name), ok
	}
	return nil, false
}

func (s tree) pathOf(i int) (string, bool) {
	names, ok := s.namesOf(i, 8)
	if !s.isValid || !ok {
		return "", false
	}
	return wantJoinPath(names), true
}

func expectSplitPath(t *testing.T, p string) {
	t.Helper()
	names, ok := impl.SplitPath(p)
	want, wantOk := wantSplitPath(p)
	if !slices.Equal(names, want) || ok != wantOk {
		t.Errorf("SplitPath(%.150q) is %.150q, %v and not %.150q, %v", p, names, ok, want, wantOk)
	}
	if joined := impl.JoinPath(names); ok && joined != p {
		t.Errorf("the names of %.150q are joined to %.150q", p, joined)
	}
}

func expectMayAccess(t *testing.T, f impl.FS, c impl.Cred, i int, want int) {
	t.Helper()
	if got := impl.MayAccess(f, c, i, want); got != wantMayAccess(f, c, i, want) {
		t.Errorf("MayAccess of %v to %d with %d is %v, for %s", c, i, want, got, briefFS(f))
	}
}

// expectResolved checks both functions that resolve p.
func (s tree) expectResolved(t *testing.T, c impl.Cred, p string) {
	t.Helper()
	i, code := impl.ResolvePath(s.f, c, p)
	if want, wantCode := s.resolve(c, p); i != want || code != wantCode {
		t.Errorf("ResolvePath of %.150q for %v is %d, %d and not %d, %d, for %v", p, c, i, code, want, wantCode, s.entries)
	}
	dir, name, code := impl.ResolveParent(s.f, c, p)
	if want, wantName, wantCode := s.resolveParent(c, p); dir != want || name != wantName || code != wantCode {
		t.Errorf("ResolveParent of %.150q for %v is %d, %q, %d and not %d, %q, %d, for %v", p, c, dir, name, code, want, wantName, wantCode, s.entries)
	}
}

func (s tree) expectPath(t *testing.T, i int) {
	t.Helper()
	p, ok := impl.PathOf(s.f, i)
	if want, wantOk := s.pathOf(i); p != want || ok != wantOk {
		t.Errorf("PathOf(%d) is %q, %v and not %q, %v, for %v", i, p, ok, want, wantOk, s.entries)
	}
}

// privateFS returns a file system with the directory a of user 0, which has the file g.
func privateFS(t *testing.T) impl.FS {
	t.Helper()
	f := impl.NewFS(quotas(5, 14))
	f.Inodes[1], f.Inodes[2] = inodeOf(2, 448, 0, 0, 1, 0, 0), inodeOf(1, 420, 0, 0, 1, 0, 0)
	f, code := impl.AddEntry(f, 0, "a", 1)
	f, second := impl.AddEntry(f, 1, "g", 2)
	if code != 0 || second != 0 || !impl.IsFS(f) {
		t.Fatalf("the codes are %d and %d", code, second)
	}
	return f
}

func TestKnownPaths(t *testing.T) {
	f := privateFS(t)
	if names, ok := impl.SplitPath("/a/g"); !slices.Equal(names, []string{"a", "g"}) || !ok {
		t.Errorf("the names of /a/g are %q, %v", names, ok)
	}
	if names, ok := impl.SplitPath("/a/"); len(names) != 0 || ok {
		t.Errorf("the names of /a/ are %q, %v", names, ok)
	}
	if p, root := impl.JoinPath([]string{"a", "g"}), impl.JoinPath(nil); p != "/a/g" || root != "/" {
		t.Errorf("the names are joined to %q and %q", p, root)
	}
	for _, c := range []struct {
		uid     int
		p       string
		i, code int
	}{
		{0, "/a/g", 2, impl.ErOk}, {0, "/a", 1, impl.ErOk}, {0, "/", 0, impl.ErOk}, {0, "/a/x", 0, impl.ErMissing}, {0, "/a/g/x", 0, impl.ErNotDir}, {0, "/x", 0, impl.ErMissing},
		{2, "/a/g", 0, impl.ErAccess}, {2, "/a/x", 0, impl.ErAccess}, {2, "/a", 1, impl.ErOk}, {2, "/", 0, impl.ErOk}, {2, "/x", 0, impl.ErMissing}, {2, "/x/y", 0, impl.ErMissing},
		{0, "/a/", 0, impl.ErName}, {0, "", 0, impl.ErName}, {0, "/a/x/y", 0, impl.ErMissing}, {2, "/a/g/x", 0, impl.ErAccess}, {4, "/", 0, impl.ErInvalid}, {4, "", 0, impl.ErInvalid},
	} {
		if i, code := impl.ResolvePath(f, cred(c.uid, 2), c.p); i != c.i || code != c.code {
			t.Errorf("%q leads user %d to %d, with the code %d", c.p, c.uid, i, code)
		}
	}
	for _, c := range []struct {
		uid  int
		p    string
		dir  int
		name string
		code int
	}{
		{0, "/a/new", 1, "new", impl.ErOk}, {0, "/a/g", 1, "g", impl.ErOk}, {0, "/new", 0, "new", impl.ErOk}, {2, "/new", 0, "new", impl.ErOk}, {2, "/a", 0, "a", impl.ErOk},
		{2, "/a/new", 0, "", impl.ErAccess}, {0, "/a/g/x", 0, "", impl.ErNotDir}, {0, "/a/x/y", 0, "", impl.ErMissing}, {0, "/x/y", 0, "", impl.ErMissing}, {0, "/", 0, "", impl.ErName},
		{0, "", 0, "", impl.ErName}, {0, "new", 0, "", impl.ErName}, {0, "/a/new/", 0, "", impl.ErName}, {2, "/a/g/x", 0, "", impl.ErAccess}, {4, "/a/new", 0, "", impl.ErInvalid}, {4, "/", 0, "", impl.ErInvalid},
	} {
		if dir, name, code := impl.ResolveParent(f, cred(c.uid, 2), c.p); dir != c.dir || name != c.name || code != c.code {
			t.Errorf("the parent of %q for user %d is %d, %q, with the code %d", c.p, c.uid, dir, name, code)
		}
	}
	for i, want := range []string{"/", "/a", "/a/g", ""} {
		if p, ok := impl.PathOf(f, i); p != want || ok != (want != "") {
			t.Errorf("the path of %d is %q, %v", i, p, ok)
		}
	}
	if impl.MayAccess(f, cred(2, 2), 1, 1) || !impl.MayAccess(f, cred(0, 0), 1, 1) || !impl.MayAccess(f, cred(2, 2), 2, 4) || impl.MayAccess(f, cred(2, 2), 2, 2) || impl.MayAccess(f, cred(0, 0), 3, 1) {
		t.Error("the wrong users may access inode 1, 2 or 3")
	}
	if impl.MaxPathDepth != 8 {
		t.Errorf("MaxPathDepth is %d", impl.MaxPathDepth)
	}
}

// namesWithin returns lists of up to 10 names, among them one that is any of names, at each place.
func namesWithin(names []string) [][]string {
	var lists [][]string
	for n := range 11 {
		l := []string{}
		for k := range n {
			l = append(l, strings.Repeat(string(rune('a'+k)), 1+(k*5+n)%12))
		}
		lists = append(lists, l)
		for k := range n {
			for j, name := range names {
				if n < 4 || (j+k+n)%7 == 0 {
					changed := slices.Clone(l)
					changed[k] = name
					lists = append(lists, changed)
				}
			}
		}
	}
	return lists
}

func TestSplitPath(t *testing.T) {
	paths := append(allTexts("/a.", 8), allTexts("/a\x00\xff", 5)...)
	for n := range 16 {
		paths = append(paths, strings.Repeat("/a", n), strings.Repeat("/a", n)+"/", strings.Repeat("a/", n), strings.Repeat("/", n), "/"+marked(97, n), "/x/"+marked(200, n), strings.Repeat("/abcdefghijkl", n), strings.Repeat("/abcdefghijklm", n))
		paths = append(paths, strings.Repeat("/a", n)+"/.", strings.Repeat("/a", n)+"/..", strings.Repeat("/a", n)+"//b", "/."+strings.Repeat("/a", n), " "+strings.Repeat("/a", n), strings.Repeat("/a", n)+" ", strings.Repeat("/a", n)+"\x00")
	}
	for _, names := range namesWithin(oddNames()) {
		paths = append(paths, strings.Join(names, "/"), "/"+strings.Join(names, "/"), "//"+strings.Join(names, "/"), "/"+strings.Join(names, "/")+"/")
	}
	for _, long := range []int{100, 257, 70000, 100000} {
		paths = append(paths, strings.Repeat("/", long), strings.Repeat("/a", long), "/"+strings.Repeat("a", long), strings.Repeat("a", long), strings.Repeat("/..", long), strings.Repeat("\x00", long))
	}
	for _, p := range append(paths, oddTexts()...) {
		expectSplitPath(t, p)
	}
}

func TestKnownSplits(t *testing.T) {
	for p, want := range map[string]string{
		"/": "", "/a": "a", "/a/b": "a|b", "/abcdefghijkl": "abcdefghijkl", "/a/abcdefghijkl/b": "a|abcdefghijkl|b", "/1/2/3/4/5/6/7/8": "1|2|3|4|5|6|7|8", "/.../.a/a.": "...|.a|a.",
		"/ / ": " | ", "/\n": "\n", "/éééééé/日本語日": "éééééé|日本語日", "/\xff/\x01": "\xff|\x01", "/a/a/a": "a|a|a", "/\\/-": "\\|-",
	} {
		if names, ok := impl.SplitPath(p); strings.Join(names, "|") != want || !ok || p == "/" && len(names) != 0 {
			t.Errorf("the names of %q are %q, %v", p, names, ok)
		}
	}
	for _, p := range []string{
		"", "a", "a/b", "a/", "//", "/a/", "//a", "/a//b", "///", "/.", "/..", "/a/.", "/a/..", "/./a", "/../a", "/a/./b", "/abcdefghijklm", "/a/abcdefghijklm", "/ééééééé", "/\x00", "/a\x00", "/a/\x00b", "\x00/a",
		"/1/2/3/4/5/6/7/8/9", "/1/2/3/4/5/6/7/8/", "/1/2/3/4/5/6/7/8//", "/1/2/3/4/5/6/7/8/9/10", " /a", "\\a", "/a/b/c/", ".", "..", "./a", "1/2/3/4/5/6/7/8", "//2/3/4/5/6/7/8",
	} {
		if names, ok := impl.SplitPath(p); len(names) != 0 || ok {
			t.Errorf("the names of %q are %q, %v", p, names, ok)
		}
	}
}

// TestJoinPath takes any names, also those that are not valid.
func TestJoinPath(t *testing.T) {
	names := oddNames()
	for _, l := range append(namesWithin(names), names, slices.Repeat([]string{"a"}, 20), slices.Repeat([]string{""}, 5), slices.Repeat([]string{"/", ""}, 1000)) {
		if got, want := impl.JoinPath(l), wantJoinPath(l); got != want {
			t.Errorf("JoinPath(%.150q) is %.150q and not %.150q", l, got, want)
		}
	}
	for want, l := range map[string][]string{"/": {}, "/a": {"a"}, "//": {"", ""}, "/a/": {"a", ""}, "//a": {"", "a"}, "/a/b/c": {"a", "b/c"}, "///": {"/", ""}, "/../.": {"..", "."}, "/\x00": {"\x00"}, "/1/2/3/4/5/6/7/8/9": {"1", "2", "3", "4", "5", "6", "7", "8", "9"}} {
		if got := impl.JoinPath(l); got != want {
			t.Errorf("JoinPath(%q) is %q", l, got)
		}
	}
	if got := impl.JoinPath([]string{""}); got != "/" {
		t.Errorf("a name that is empty is joined to %q", got)
	}
}

// TestNamesAreRecovered joins names and splits them again: that fails exactly where one of them is not valid, or there are too many.
func TestNamesAreRecovered(t *testing.T) {
	depths := map[int]int{}
	for _, l := range namesWithin(oddNames()) {
		names, ok := impl.SplitPath(impl.JoinPath(l))
		isWrong := func(name string) bool { return !wantEntryName(name) }
		if ok && slices.Equal(names, l) {
			depths[len(l)]++
		}
		// A name with a separator is taken for two names, and an empty one beside no other for none.
		hasSeparator := slices.ContainsFunc(l, func(name string) bool { return strings.Contains(name, "/") })
		if want := len(l) <= 8 && !slices.ContainsFunc(l, isWrong); !hasSeparator && !slices.Equal(l, []string{""}) && ok != want || want && !slices.Equal(names, l) {
			t.Errorf("%q becomes %q, %v", l, names, ok)
		}
	}
	for n := range 9 {
		if depths[n] == 0 || depths[n+9] > 0 {
			t.Errorf("of the depths, there are %v", depths)
		}
	}
}

// objectsFS returns a file system whose inodes have many kinds, owners, groups, modes and lists.
func objectsFS() impl.FS {
	f := busyFS()
	lists := someAcls()
	for k, i := range []int{2, 3, 4, 8, 9, 10, 12, 13, 14, 16} {
		f.Inodes[i] = withLists(inodeOf(1+k%2, []int{0, 511, 73, 292, 146, 64, 8, 1, 438, 1384}[k], k%4, (k+1)%3+1, k%3, 0, 3), lists[k%len(lists)], nil)
	}
	return f
}

func TestMayAccess(t *testing.T) {
	f := objectsFS()
	if !impl.IsFS(f) {
		t.Fatalf("%s is not valid", nameFS(f))
	}
	counts := map[bool]int{}
	for k, c := range validCreds() {
		for i := range 20 {
			for want := range 8 {
				if (k+i+want)%5 == 0 || k%16 == 9 {
					expectMayAccess(t, f, c, i, want)
					counts[impl.MayAccess(f, c, i, want)]++
				}
			}
		}
	}
	if min(counts[true], counts[false]) < 1000 {
		t.Errorf("the answers are %v", counts)
	}
	for i := range 20 {
		// The superuser may do anything, but not with what is not in use.
		if got := impl.MayAccess(f, cred(0, 3), i, 7); got != (f.Inodes[i].Kind != 0) {
			t.Errorf("user 0 may access inode %d: %v", i, got)
		}
	}
}

// TestMayAccessParts takes each of the four parts of one inode that decide, and shows that nothing else does.
func TestMayAccessParts(t *testing.T) {
	for _, c := range []struct {
		name   string
		mode   int
		uid    int
		gid    int
		acl    []impl.AclEntry
		c      impl.Cred
		wanted []int
	}{
		{"the owner", 0741, 2, 3, nil, cred(2, 1), includedIn(7)}, {"the owner, who is in the group, too", 0471, 2, 3, nil, cred(2, 3), includedIn(4)}, {"the group", 0741, 2, 3, nil, cred(1, 3), includedIn(4)},
		{"a further group", 0741, 2, 3, nil, cred(1, 1, 3), includedIn(4)}, {"the others", 0741, 2, 3, nil, cred(1, 1), includedIn(1)}, {"a user of the list", 0000, 2, 3, acl([3]int{1, 1, 5}, [3]int{3, 0, 7}), cred(1, 1), includedIn(5)},
		{"a user and the mask", 0777, 2, 3, acl([3]int{1, 1, 5}, [3]int{3, 0, 4}), cred(1, 1), includedIn(4)}, {"a group of the list", 0000, 2, 3, acl([3]int{2, 1, 6}, [3]int{3, 0, 3}), cred(1, 1), includedIn(2)},
		{"another user than that of the list", 0745, 2, 3, acl([3]int{1, 1, 7}, [3]int{3, 0, 7}), cred(3, 1), includedIn(5)}, {"user 0", 0000, 2, 3, acl([3]int{1, 0, 0}, [3]int{3, 0, 0}), cred(0, 3), includedIn(7)},
		{"user 0 as the owner", 0000, 0, 0, nil, cred(0, 0), includedIn(7)}, {"nobody", 0000, 2, 3, nil, cred(1, 3), includedIn(0)},
	} {
		for i := range 20 {
			for kind := 1; kind <= 2; kind++ {
				f := emptyFS()
				for j := range f.Inodes {
					f.Inodes[j] = inodeOf(2, 511*(j%2), j%4, 1, 1, 0, 0)
				}
				f.Inodes[i] = withLists(inodeOf(max(kind, 2-i), c.mode, c.uid, c.gid, i%2, 0, i), c.acl, nil)
				if f.Inodes[i].Kind == 2 {
					f.Inodes[i].Default = someAcls()[i%9]
				}
				for want := -1; want <= 8; want++ {
					if got := impl.MayAccess(f, c.c, i, want); got != slices.Contains(c.wanted, want) {
						t.Errorf("%s may access inode %d, of the kind %d, with %d: %v", c.name, i, kind, want, got)
					}
				}
			}
		}
	}
}

func TestMayAccessRefuses(t *testing.T) {
	f := objectsFS()
	for _, i := range []int{0, 1, 3, 19, 11} {
		for _, want := range append(oddNumbers(), -8) {
			for _, c := range []impl.Cred{cred(0, 0), cred(1, 2, 3), cred(3, 3)} {
				if impl.MayAccess(f, c, i, want) {
					t.Errorf("%v may access %d with %d", c, i, want)
				}
			}
		}
		for _, c := range invalidCreds() {
			if impl.MayAccess(f, c, i, 0) || impl.MayAccess(f, c, i, 1) || impl.MayAccess(f, c, i, 7) {
				t.Errorf("%.60v may access %d", c, i)
			}
		}
	}
	for _, i := range []int{math.MinInt, math.MinInt + 1, -1 << 32, -20, -1, 18, 20, 21, 56, 256, 1 << 32, math.MaxInt - 1, math.MaxInt} {
		if impl.MayAccess(f, cred(0, 0), i, 0) || impl.MayAccess(f, cred(1, 1), i, 7) {
			t.Errorf("inode %d may be accessed", i)
		}
	}
	for _, broken := range brokenFS() {
		for _, i := range []int{-1, 0, 1, 20} {
			if impl.MayAccess(broken, cred(0, 0), i, 0) {
				t.Errorf("inode %d may be accessed, of %s", i, briefFS(broken))
			}
		}
	}
	for _, c := range brokenChanges() {
		if impl.MayAccess(c.of(busyFS()), cred(0, 0), 0, 1) {
			t.Errorf("after %s, the root may be accessed", c.name)
		}
	}
	for _, c := range allowedChanges() {
		g := c.of(busyFS())
		for _, i := range []int{0, 2, 7, 18} {
			expectMayAccess(t, g, cred(2, 2), i, 4)
			expectMayAccess(t, g, cred(3, 2), i, 1)
		}
	}
}
