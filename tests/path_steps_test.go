package tests

import (
	"math"
	"slices"
	"strings"
	"testing"

	"loop.example/g00817/impl"
)

// longChain has an inode for each name of the longest path, and one more.
var longChain = []int{0, 3, 7, 1, 19, 12, 5, 9, 14, 16}

// chainNames returns n names of different lengths.
func chainNames(n int) []string {
	var names []string
	for k := range n {
		names = append(names, strings.Repeat(string(rune('a'+k)), 1+k*5%12))
	}
	return names
}

// chainPath is the path of the first n names.
func chainPath(n int) string { return wantJoinPath(chainNames(n)) }

// chainOwner is not the superuser, who may pass everything.
func chainOwner(k int) int { return 1 + k%3 }

// chainOf returns a file system whose directories have an entry for the next inode each; the last inode is a directory, too, which names the first one.
func chainOf(inodes ...int) impl.FS {
	f := emptyFS()
	names := chainNames(len(inodes))
	for k, i := range inodes {
		next := inodes[(k+1)%len(inodes)]
		f = dirWith(f, i, chainOwner(k), recordsText([]impl.DirEntry{{Name: "free", Inode: 18}, {Name: names[k], Inode: next}, {Name: names[k] + "?", Inode: 0}}), 0)
		f.Inodes[i].Mode = 511
	}
	return f
}

func TestEachStep(t *testing.T) {
	for n := 1; n <= 10; n++ {
		f := chainOf(longChain[:n]...)
		s := treeOf(f)
		for _, c := range []impl.Cred{cred(0, 0), cred(1, 1), cred(2, 3, 0), cred(3, 0, 1, 2)} {
			for k := range 11 {
				i, code := impl.ResolvePath(f, c, chainPath(k))
				want, wantCode := 0, impl.ErOk
				switch {
				case k > 8:
					wantCode = impl.ErName
				case k > n:
					wantCode = impl.ErMissing
				default:
					want = longChain[k%n]
				}
				if i != want || code != wantCode {
					t.Errorf("in a chain of %d, %d names lead to %d, %d and not %d, %d", n, k, i, code, want, wantCode)
				}
				s.expectResolved(t, c, chainPath(k))
				expectWrongSteps(t, s, c, k)
			}
		}
	}
}

// expectWrongSteps has another name for one of n names, and a name more.
func expectWrongSteps(t *testing.T, s tree, c impl.Cred, n int) {
	t.Helper()
	for k := range n {
		for _, name := range []string{"x", "free", strings.ToUpper(chainNames(n)[k]), chainNames(n)[k] + "?", "", ".", "..", "abcdefghijklm"} {
			names := chainNames(n)
			names[k] = name
			s.expectResolved(t, c, wantJoinPath(names))
		}
	}
	s.expectResolved(t, c, chainPath(n)+"/free")
	s.expectResolved(t, c, chainPath(n)+"/free/x")
	s.expectResolved(t, c, chainPath(n)+"/")
}

func TestParentOfEachStep(t *testing.T) {
	f := chainOf(longChain...)
	for k := 1; k <= 8; k++ {
		names := chainNames(k)
		for _, name := range []string{names[k-1], "x", "free", "abcdefghijkl", "...", "\xff"} {
			names[k-1] = name
			dir, last, code := impl.ResolveParent(f, cred(2, 2), wantJoinPath(names))
			if dir != longChain[k-1] || last != name || code != impl.ErOk {
				t.Errorf("the parent of %q is %d, %q, with the code %d", names, dir, last, code)
			}
		}
	}
	for _, p := range []string{"/", chainPath(9), chainPath(8) + "/", chainPath(8) + "/x"} {
		if dir, name, code := impl.ResolveParent(f, cred(0, 0), p); dir != 0 || name != "" || code != impl.ErName {
			t.Errorf("the parent of %q is %d, %q, with the code %d", p, dir, name, code)
		}
	}
}

// obstacle changes an inode of a chain, so that a path may not lead on.
type obstacle struct {
	name   string
	apply  func(f *impl.FS, i int)
	within int // the code where the path leads on
	last   int // the code of ResolvePath where the inode is the last one
	parent int // the code of ResolveParent where it is the directory
}

// emptyInode frees the blocks of inode i.
func emptyInode(f *impl.FS, i int) {
	for _, b := range f.Inodes[i].Blocks {
		f.Data[b] = sector("")
	}
	f.Inodes[i].Size, f.Inodes[i].Blocks = 0, nil
}

func obstacles() []obstacle {
	free := func(f *impl.FS, i int) {
		emptyInode(f, i)
		f.Inodes[i] = impl.Inode{}
	}
	return []obstacle{
		{"a free inode", free, impl.ErNotDir, impl.ErMissing, impl.ErMissing},
		{"a file with the content of a directory", func(f *impl.FS, i int) { f.Inodes[i].Kind = 1 }, impl.ErNotDir, impl.ErOk, impl.ErNotDir},
		{"an empty file that nobody may use", func(f *impl.FS, i int) { emptyInode(f, i); f.Inodes[i].Kind, f.Inodes[i].Mode = 1, 0 }, impl.ErNotDir, impl.ErOk, impl.ErNotDir},
		{"a directory that nobody may pass", func(f *impl.FS, i int) { f.Inodes[i].Mode = 0666 }, impl.ErAccess, impl.ErOk, impl.ErAccess},
		{"an empty directory", emptyInode, impl.ErMissing, impl.ErOk, impl.ErOk},
		{"an empty directory that nobody may pass", func(f *impl.FS, i int) { emptyInode(f, i); f.Inodes[i].Mode = 0 }, impl.ErAccess, impl.ErOk, impl.ErAccess},
	}
}

// expectCodes checks the codes of both functions for the first n names of a chain, and what is returned beside them.
func expectCodes(t *testing.T, what string, f impl.FS, c impl.Cred, n int, code int, parentCode int) {
	t.Helper()
	i, got := impl.ResolvePath(f, c, chainPath(n))
	if got != code || code == 0 && i != longChain[n] || code != 0 && i != 0 {
		t.Errorf("with %s, %d names lead to %d, %d and not to the code %d", what, n, i, got, code)
	}
	dir, name, got := impl.ResolveParent(f, c, chainPath(n))
	wantName := ""
	wantDir := 0
	if parentCode == 0 {
		wantName, wantDir = chainNames(n)[n-1], longChain[n-1]
	}
	if dir != wantDir || name != wantName || got != parentCode {
		t.Errorf("with %s, the parent of %d names is %d, %q, %d and not with the code %d", what, n, dir, name, got, parentCode)
	}
}

func TestObstacles(t *testing.T) {
	for _, o := range obstacles() {
		for k := range 9 {
			f := chainOf(longChain...)
			if o.apply(&f, longChain[k]); !impl.IsFS(f) {
				// The root is always a directory.
				continue
			}
			for n := 1; n <= 8; n++ {
				code, parentCode := 0, 0
				switch {
				case k == n:
					code = o.last
				case k == n-1:
					code, parentCode = o.within, o.parent
				case k < n:
					code, parentCode = o.within, o.within
				}
				expectCodes(t, o.name, f, cred(chainOwner(k), 1), n, code, parentCode)
				treeOf(f).expectResolved(t, cred(0, 0), chainPath(n))
			}
			if i, code := impl.ResolvePath(f, cred(1, 1), "/"); i != 0 || code != 0 {
				t.Errorf("with %s, / leads to %d, %d", o.name, i, code)
			}
		}
	}
}

// TestFirstObstacle has two of them, and the first one on the way decides.
func TestFirstObstacle(t *testing.T) {
	for _, a := range obstacles() {
		for _, b := range obstacles() {
			for k := 1; k < 8; k++ {
				for j := k + 1; j <= 8; j++ {
					f := chainOf(longChain...)
					a.apply(&f, longChain[k])
					b.apply(&f, longChain[j])
					parentCode := a.within
					if k == 7 {
						parentCode = a.parent
					}
					expectCodes(t, a.name+" and "+b.name, f, cred(2, 2), 8, a.within, parentCode)
				}
			}
		}
	}
}

// passCase is a directory of the user that owner is, and a Cred that may pass it or not.
type passCase struct {
	name string
	mode int
	gid  int
	acl  []impl.AclEntry
	c    impl.Cred
	may  bool
}

func passCases(owner int) []passCase {
	other := owner%3 + 1
	both := func(perm int, mask int) []impl.AclEntry { return acl([3]int{1, other, perm}, [3]int{3, 0, mask}) }
	group := func(perm int, mask int) []impl.AclEntry { return acl([3]int{2, 2, perm}, [3]int{3, 0, mask}) }
	return []passCase{
		{"the owner may not", 0677, 1, nil, cred(owner, 0), false}, {"only the owner may", 0100, 1, nil, cred(owner, 0), true}, {"the owner is in the group", 0677, 1, nil, cred(owner, 1), false},
		{"the owner is in the list", 0677, 1, acl([3]int{1, owner, 7}, [3]int{3, 0, 7}), cred(owner, 1), false}, {"the list is not for the owner", 0100, 1, acl([3]int{1, owner, 0}, [3]int{3, 0, 0}), cred(owner, 1), true},
		{"the group may not", 0767, 1, nil, cred(other, 1), false}, {"only the group may", 0010, 1, nil, cred(other, 1), true}, {"only a further group may", 0010, 1, nil, cred(other, 0, 1, 3), true},
		{"a further group may not", 0767, 3, nil, cred(other, 0, 1, 3), false}, {"another group may", 0010, 1, nil, cred(other, 0, 2, 3), false}, {"the mask is for the group", 0777, 1, acl([3]int{3, 0, 6}), cred(other, 1), false},
		{"the others may not", 0776, 1, nil, cred(other, 2), false}, {"only the others may", 0001, 1, nil, cred(other, 2), true}, {"the mask is not for the others", 0001, 1, acl([3]int{3, 0, 0}), cred(other, 2), true},
		{"the user of the list may not", 0777, 1, both(6, 7), cred(other, 1), false}, {"only the user of the list may", 0000, 1, both(1, 1), cred(other, 1), true}, {"the mask is for the user", 0777, 1, both(7, 6), cred(other, 1), false},
		{"the group of the list may not", 0777, 1, group(6, 7), cred(other, 2), false}, {"only the group of the list may", 0000, 1, group(1, 1), cred(other, 2), true}, {"one of two groups may", 0010, 1, group(6, 7), cred(other, 2, 1), true},
		{"the mask is for the groups of the list", 0777, 1, group(7, 6), cred(other, 2), false}, {"only the default list may", 0000, 1, nil, cred(other, 3), false},
		{"user 0 without any bit", 0000, 1, nil, cred(0, 3), true}, {"user 0 in the list", 0000, 1, acl([3]int{1, 0, 0}, [3]int{3, 0, 0}), cred(0, 1), true}, {"the bits beyond the classes", 03776, 1, nil, cred(other, 2), false},
	}
}

// TestWhoMayPass has each case at each place of the longest path.
func TestWhoMayPass(t *testing.T) {
	for k := range 9 {
		owner := chainOwner(k)
		for _, p := range passCases(owner) {
			f := chainOf(longChain...)
			n := &f.Inodes[longChain[k]]
			n.Mode, n.Gid, n.Acl = p.mode, p.gid, p.acl
			n.Default = acl([3]int{2, 0, 7}, [3]int{2, 1, 7}, [3]int{2, 2, 7}, [3]int{2, 3, 7}, [3]int{3, 0, 7})
			if !impl.IsFS(f) {
				t.Fatalf("%s is not valid", nameFS(f))
			}
			for n := 1; n <= 8; n++ {
				code := 0
				if k < n && !p.may {
					code = impl.ErAccess
				}
				expectCodes(t, p.name, f, p.c, n, code, code)
				treeOf(f).expectResolved(t, p.c, chainPath(n)+"?")
			}
			if got := impl.MayAccess(f, p.c, longChain[k], 1); got != p.may {
				t.Errorf("with %s, MayAccess is %v", p.name, got)
			}
		}
	}
}

// TestOtherBitsDoNotCount shows that only the bit for passing counts, and on the last inode none.
func TestOtherBitsDoNotCount(t *testing.T) {
	for mode := range 2048 {
		f := chainOf(longChain[:3]...)
		f.Inodes[3].Mode, f.Inodes[7].Mode, f.Inodes[3].Gid = mode, mode*3%2048, 3
		for _, c := range []impl.Cred{cred(chainOwner(1), 0), cred(3, 3), cred(1, 0, 3), cred(1, 1)} {
			may := mode&1 == 1
			switch {
			case c.Uid == chainOwner(1):
				may = mode&64 == 64
			case c.Gid == 3 || len(c.Groups) == 1:
				may = mode&8 == 8
			}
			code := 0
			if !may {
				code = impl.ErAccess
			}
			expectCodes(t, "one mode", f, c, 2, code, code)
		}
	}
}

// TestRoot has the path without names: nobody has to pass anything, but a root must be there.
func TestRoot(t *testing.T) {
	for mode := range 512 {
		f := chainOf(0, 5)
		f.Inodes[0].Mode = mode
		for _, c := range []impl.Cred{cred(0, 0), cred(1, 1), cred(2, 0), cred(2, 3)} {
			if i, code := impl.ResolvePath(f, c, "/"); i != 0 || code != 0 {
				t.Errorf("with the mode %o, / leads to %d, %d", mode, i, code)
			}
			if dir, name, code := impl.ResolveParent(f, c, "/"); dir != 0 || name != "" || code != impl.ErName {
				t.Errorf("with the mode %o, the parent of / is %d, %q, %d", mode, dir, name, code)
			}
			treeOf(f).expectResolved(t, c, "/a")
			treeOf(f).expectResolved(t, c, "/x")
		}
	}
	for kind := range 2 {
		f := emptyFS()
		f.Inodes[0] = impl.Inode{Kind: kind}
		if i, code := impl.ResolvePath(f, cred(0, 0), "/"); i != 0 || code != impl.ErInvalid {
			t.Errorf("with a root of the kind %d, / leads to %d, %d", kind, i, code)
		}
		if p, ok := impl.PathOf(f, 0); p != "" || ok {
			t.Errorf("with a root of the kind %d, its path is %q, %v", kind, p, ok)
		}
	}
}

// expectUnresolved checks a code for both functions.
func expectUnresolved(t *testing.T, f impl.FS, c impl.Cred, p string, code int) {
	t.Helper()
	if i, got := impl.ResolvePath(f, c, p); i != 0 || got != code {
		t.Errorf("ResolvePath of %.100q for %.60v is %d, %d and not with the code %d, for %s", p, c, i, got, code, briefFS(f))
	}
	if dir, name, got := impl.ResolveParent(f, c, p); dir != 0 || name != "" || got != code {
		t.Errorf("ResolveParent of %.100q for %.60v is %d, %q, %d and not with the code %d, for %s", p, c, dir, name, got, code, briefFS(f))
	}
}

// wrongPaths returns texts that are no paths.
func wrongPaths() []string {
	return []string{
		"", "a", "a/b", "//", "/a/", "//a", "/a//b", "/.", "/..", "/a/..", "/./a", "/abcdefghijklm", "/a/abcdefghijklm/b", "/a\x00", "/\x00", "\x00", " /a", ".", "..",
		strings.Repeat("/a", 9), strings.Repeat("/a", 9) + "/", strings.Repeat("/", 70000), strings.Repeat("/a", 70000), "/" + strings.Repeat("a", 70000),
	}
}

// TestResolveRefuses has systems and users that are not valid, also for texts that are no paths, and such texts for those that are.
func TestResolveRefuses(t *testing.T) {
	f := chainOf(longChain...)
	paths := append([]string{"/", "/a", "/x", chainPath(8)}, wrongPaths()...)
	for k, broken := range brokenFS() {
		for j, p := range paths {
			if j < 2 || (k+j)%9 == 0 {
				expectUnresolved(t, broken, cred(0, 0), p, impl.ErInvalid)
			}
		}
		expectUnresolved(t, broken, cred(4, 0), "/a", impl.ErInvalid)
	}
	for _, c := range brokenChanges() {
		expectUnresolved(t, c.of(busyFS()), cred(1, 1), "/", impl.ErInvalid)
	}
	for k, c := range invalidCreds() {
		expectUnresolved(t, f, c, "/", impl.ErInvalid)
		expectUnresolved(t, f, c, "/a", impl.ErInvalid)
		expectUnresolved(t, f, c, paths[k%len(paths)], impl.ErInvalid)
	}
	for _, c := range []impl.Cred{cred(0, 0), cred(1, 2), cred(3, 0, 1, 3)} {
		for _, p := range append(wrongPaths(), oddTexts()...) {
			expectUnresolved(t, f, c, p, impl.ErName)
		}
		// The text is looked at as a whole, before any name leads somewhere.
		for _, p := range []string{"/x/", "/free/x/..", "/x//a", chainPath(8) + "/x", "/free/free/free/free/free/free/free/free/free", "/a/."} {
			expectUnresolved(t, f, c, p, impl.ErName)
		}
	}
}

// TestOddNamesAreResolved lays entries with all kinds of names: those that are valid are found, and the others are no paths.
func TestOddNamesAreResolved(t *testing.T) {
	for k, name := range oddNames() {
		i := 1 + k%19
		f := emptyFS()
		f.Inodes[i] = inodeOf(2, 511, 0, 0, 1, 0, 0)
		g, code := impl.AddEntry(f, 0, name, i)
		want := impl.ErOk
		if !wantEntryName(name) {
			want = impl.ErName
		}
		if code != want {
			t.Errorf("AddEntry of %.40q has the code %d", name, code)
		}
		if name == "" {
			continue
		}
		if j, code := impl.ResolvePath(g, cred(3, 3), "/"+name); !strings.Contains(name, "/") && (code != want || code == 0 && j != i) {
			t.Errorf("the path of %.40q leads to %d, %d", name, j, code)
		}
		if p, ok := impl.PathOf(g, i); ok != (want == 0) || ok && p != "/"+name {
			t.Errorf("with %.40q, the path is %q, %v", name, p, ok)
		}
	}
}

// TestFirstEntryLeadsOn has two entries with one name.
func TestFirstEntryLeadsOn(t *testing.T) {
	f := dirWith(emptyFS(), 0, 0, recordsText([]impl.DirEntry{{Name: "a", Inode: 4}, {Name: "b", Inode: 9}, {Name: "a", Inode: 9}}), 0)
	for k, c := range [][2]int{{0, impl.ErMissing}, {4, impl.ErOk}} {
		if i, code := impl.ResolvePath(f, cred(1, 1), "/a"); i != c[0] || code != c[1] {
			t.Errorf("in step %d, /a leads to %d, %d", k, i, code)
		}
		if i, code := impl.ResolvePath(f, cred(1, 1), "/b"); i != 0 && i != 9 || code != c[1] {
			t.Errorf("in step %d, /b leads to %d, %d", k, i, code)
		}
		f.Inodes[4], f.Inodes[9] = inodeOf(1, 0, 3, 3, 1, 0, 0), inodeOf(2, 0, 2, 2, 1, 0, 0)
	}
	if p, ok := impl.PathOf(f, 9); p != "/b" || !ok {
		t.Errorf("the path of 9 is %q, %v", p, ok)
	}
}

// TestPathOfSteps takes the chain back, up to the greatest depth.
func TestPathOfSteps(t *testing.T) {
	for n := 1; n <= 10; n++ {
		inodes := longChain[:n]
		f := dirWith(chainOf(inodes...), inodes[n-1], 0, "", 0)
		for i := -1; i <= 20; i++ {
			k := slices.Index(inodes, i)
			want, wantOk := "", k >= 0 && k <= 8
			if wantOk {
				want = chainPath(k)
			}
			if n > 1 && i == 18 {
				// Every directory but the last one names this inode, the first time inode 0.
				want, wantOk = "/free", true
			}
			if p, ok := impl.PathOf(f, i); p != want || ok != wantOk {
				t.Errorf("in a chain of %d, the path of %d is %q, %v and not %q", n, i, p, ok, want)
			}
		}
	}
}

// TestPathsWithoutRoot has inodes from which no way leads up to the root, or too long a one.
func TestPathsWithoutRoot(t *testing.T) {
	dir := func(f impl.FS, i int, names string, inodes ...int) impl.FS {
		var l []impl.DirEntry
		for k, j := range inodes {
			l = append(l, impl.DirEntry{Name: names[k : k+1], Inode: j})
		}
		return dirWith(f, i, i%4, recordsText(l), 0)
	}
	lost := dir(dir(dir(emptyFS(), 0, "a", 1), 1, "b", 2), 9, "cd", 10, 11)
	self := dir(dir(emptyFS(), 4, "mx", 4, 5), 0, "m", 6)
	pair := dir(dir(dir(emptyFS(), 3, "pq", 8, 12), 8, "q", 3), 0, "n", 19)
	ring := dir(dir(dir(dir(emptyFS(), 2, "r", 5), 5, "r", 11), 11, "r", 2), 13, "r", 14)
	root := dir(dir(emptyFS(), 0, "ab", 0, 7), 7, "ud", 0, 7)
	first := dir(dir(dir(emptyFS(), 0, "x", 6), 2, "y", 6), 6, "z", 15)
	later := dir(dir(dir(emptyFS(), 2, "y", 6), 6, "z", 2), 0, "x", 6)
	for _, c := range []struct {
		name string
		f    impl.FS
		i    int
		want string
	}{
		{"a lost directory", lost, 9, ""}, {"a lost directory", lost, 10, ""}, {"a lost directory", lost, 11, ""}, {"a lost directory", lost, 2, "/a/b"}, {"a lost directory", lost, 1, "/a"}, {"a lost directory", lost, 0, "/"}, {"a lost directory", lost, 3, ""},
		{"a directory that names itself", self, 4, ""}, {"a directory that names itself", self, 5, ""}, {"a directory that names itself", self, 6, "/m"}, {"a directory that names itself", self, 0, "/"},
		{"two directories that name each other", pair, 3, ""}, {"two directories that name each other", pair, 8, ""}, {"two directories that name each other", pair, 12, ""}, {"two directories that name each other", pair, 19, "/n"},
		{"a circle of three", ring, 2, ""}, {"a circle of three", ring, 5, ""}, {"a circle of three", ring, 11, ""}, {"a circle of three", ring, 14, ""}, {"a circle of three", ring, 13, ""}, {"a circle of three", ring, 0, "/"},
		{"a root that is named", root, 0, "/"}, {"a root that is named", root, 7, "/b"}, {"two parents", first, 6, "/x"}, {"two parents", first, 15, "/x/z"}, {"two parents", first, 2, ""},
		{"a circle with another way to the root", later, 6, "/x"}, {"a circle with another way to the root", later, 2, "/x/z"}, {"no entries", emptyFS(), 0, "/"}, {"no entries", emptyFS(), 1, ""},
	} {
		if p, ok := impl.PathOf(c.f, c.i); p != c.want || ok != (c.want != "") {
			t.Errorf("with %s, the path of %d is %q, %v", c.name, c.i, p, ok)
		}
	}
	for _, f := range []impl.FS{lost, self, pair, ring, root, first, later, treeFS(), emptyFS()} {
		s := treeOf(f)
		for i := -1; i <= 20; i++ {
			s.expectPath(t, i)
		}
	}
}

// TestPathsOfNothing has numbers of no inodes, and systems that are not valid.
func TestPathsOfNothing(t *testing.T) {
	expectNone := func(f impl.FS, i int) {
		t.Helper()
		if p, ok := impl.PathOf(f, i); p != "" || ok {
			t.Errorf("the path of %d is %q, %v, for %s", i, p, ok, briefFS(f))
		}
	}
	for _, f := range []impl.FS{treeFS(), emptyFS(), chainOf(longChain...), fullFS()} {
		for _, i := range []int{math.MinInt, math.MinInt + 1, -1 << 32, -256, -20, -2, -1, 20, 21, 56, 255, 256, 65535, 65536, 1 << 32, math.MaxInt - 1, math.MaxInt} {
			expectNone(f, i)
		}
	}
	for _, f := range brokenFS() {
		for _, i := range []int{-1, 0, 1, 20, math.MaxInt} {
			expectNone(f, i)
		}
	}
	for _, c := range brokenChanges() {
		expectNone(c.of(busyFS()), 0)
	}
	broken := chainOf(longChain...)
	broken.Tick = -1
	for i := -1; i <= 20; i++ {
		expectNone(broken, i)
	}
	for _, c := range allowedChanges() {
		if p, ok := impl.PathOf(c.of(busyFS()), 0); p != "/" || !ok {
			t.Errorf("after %s, the path of the root is %q, %v", c.name, p, ok)
		}
	}
}
