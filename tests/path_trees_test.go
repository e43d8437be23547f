package tests

import (
	"math/rand"
	"slices"
	"strings"
	"testing"

	"loop.example/g00817/impl"
)

// grownTree is a file system that grew entry by entry, its directories in the order in which they came, and the path of each inode that is reached.
type grownTree struct {
	f     impl.FS
	dirs  []int
	paths map[int]string
	slope int // how often the last directory grows
}

// pathIn is the path of an entry of directory dir.
func (g *grownTree) pathIn(dir int, name string) string {
	return strings.TrimSuffix(g.paths[dir], "/") + "/" + name
}

// grow lays inode i by hand, and adds an entry for it to some directory.
func (g *grownTree) grow(t *testing.T, random *rand.Rand, i int) {
	t.Helper()
	dir := g.dirs[random.Intn(len(g.dirs))]
	if random.Intn(20) < g.slope {
		dir = g.dirs[len(g.dirs)-1]
	}
	name := oddNames()[random.Intn(20)]
	if random.Intn(3) > 0 {
		name = chainNames(19)[random.Intn(19)]
	}
	g.f.Inodes[i] = inodeOf(min(2, 1+random.Intn(6)), 511, random.Intn(4), random.Intn(4), 1, 0, 3)
	f, code := impl.AddEntry(g.f, dir, name, i)
	if code != 0 {
		g.f.Inodes[i] = impl.Inode{}
		if wantEntryName(name) && code != impl.ErExists {
			t.Fatalf("AddEntry of %q has the code %d", name, code)
		}
		return
	}
	g.f, g.paths[i] = f, g.pathIn(dir, name)
	if f.Inodes[i].Kind == 2 {
		g.dirs = append(g.dirs, i)
	}
}

// someTree returns a tree with at most n inodes, all of which everybody may use.
func someTree(t *testing.T, random *rand.Rand, n int) *grownTree {
	t.Helper()
	g := &grownTree{emptyFS(), []int{0}, map[int]string{0: "/"}, random.Intn(20)}
	g.f.Inodes[0].Mode = 511
	for _, i := range random.Perm(20) {
		if i != 0 && len(g.paths) < n {
			g.grow(t, random, i)
		}
	}
	return g
}

func depthOf(p string) int { return strings.Count(strings.TrimSuffix(p, "/"), "/") }

// expectTree checks that path and inode lead to each other, for all inodes of the tree.
func (g *grownTree) expectTree(t *testing.T, c impl.Cred) {
	t.Helper()
	for i := -1; i <= 20; i++ {
		want, isReached := g.paths[i]
		isPath := isReached && depthOf(want) <= 8
		if p, ok := impl.PathOf(g.f, i); ok != isPath || ok && p != want {
			t.Errorf("the path of %d is %q, %v and not %q", i, p, ok, want)
		}
		if !isReached {
			continue
		}
		code := impl.ErOk
		if !isPath {
			code = impl.ErName
		}
		if j, got := impl.ResolvePath(g.f, c, want); got != code || code == 0 && j != i {
			t.Errorf("%q leads to %d, %d and not to %d, %d", want, j, got, i, code)
		}
		dir, name, got := impl.ResolveParent(g.f, c, want)
		if i == 0 {
			code = impl.ErName
		}
		parent, parentName, _ := impl.ParentOf(g.f, i)
		if got != code || code == 0 && (dir != parent || name != parentName || g.pathIn(dir, name) != want) {
			t.Errorf("the parent of %q is %d, %q, %d and not %d, %q, %d", want, dir, name, got, parent, parentName, code)
		}
	}
}

func TestPathsLeadBack(t *testing.T) {
	random := rand.New(rand.NewSource(21))
	depths := map[int]int{}
	for k := range 150 {
		g := someTree(t, random, 1+k%20)
		for _, p := range g.paths {
			depths[depthOf(p)]++
		}
		g.expectTree(t, []impl.Cred{cred(0, 0), cred(1, 2), cred(2, 2, 0, 1), cred(3, 0, 3)}[k%4])
	}
	for depth := range 10 {
		if depths[depth] == 0 {
			t.Errorf("the depths are %v", depths)
		}
	}
}

// TestEntriesAreResolved adds an entry to each directory of a tree, and removes it again.
func TestEntriesAreResolved(t *testing.T) {
	random := rand.New(rand.NewSource(22))
	count := 0
	for k := range 40 {
		g := someTree(t, random, 2+k%14)
		i := slices.IndexFunc(g.f.Inodes, func(n impl.Inode) bool { return n.Kind == 0 })
		for _, dir := range g.dirs {
			p := g.pathIn(dir, "new")
			if depthOf(p) > 8 {
				continue
			}
			f := cloneFS(g.f)
			f.Inodes[i] = inodeOf(1+k%2, k%512, k%4, 0, 1, 0, 0)
			expectUnfound(t, f, i, p)
			added, code := impl.AddEntry(f, dir, "new", i)
			j, found := impl.ResolvePath(added, cred(1, 1), p)
			back, ok := impl.PathOf(added, i)
			if code != 0 || found != 0 || j != i || back != p || !ok {
				t.Errorf("%q, for %d, leads to %d, %d, and back to %q, %v", p, i, j, found, back, ok)
			}
			removed, code := impl.RemoveEntry(added, dir, "new")
			if code != 0 || !equalFS(removed, f) {
				t.Errorf("RemoveEntry of %q, with the code %d, leads to %s", p, code, briefFS(removed))
			}
			expectUnfound(t, removed, i, p)
			count++
		}
		g.expectTree(t, cred(3, 3))
	}
	if count < 100 {
		t.Errorf("only %d entries were added", count)
	}
}

// expectUnfound checks that p could be made, but does not lead to i.
func expectUnfound(t *testing.T, f impl.FS, i int, p string) {
	t.Helper()
	if j, code := impl.ResolvePath(f, cred(2, 2), p); j != 0 || code != impl.ErMissing {
		t.Errorf("%q leads to %d, %d", p, j, code)
	}
	if _, name, code := impl.ResolveParent(f, cred(2, 2), p); name != "new" || code != impl.ErOk {
		t.Errorf("the parent of %q is found with %q, %d", p, name, code)
	}
	if back, ok := impl.PathOf(f, i); back != "" || ok {
		t.Errorf("the path of %d is %q", i, back)
	}
}

// TestPrivateDirectories closes one directory of a tree: all paths below it are closed with it, and no others.
func TestPrivateDirectories(t *testing.T) {
	random := rand.New(rand.NewSource(23))
	closed, open := 0, 0
	for k := range 40 {
		g := someTree(t, random, 12+k%8)
		for _, dir := range g.dirs {
			f := cloneFS(g.f)
			f.Inodes[dir].Mode = 0700
			f.Inodes[dir].Gid = k % 4
			for _, c := range []impl.Cred{cred(0, 0), cred(f.Inodes[dir].Uid, 0), cred(1+f.Inodes[dir].Uid%3, k%4)} {
				isClosed := c.Uid != 0 && c.Uid != f.Inodes[dir].Uid
				for i, p := range g.paths {
					code := 0
					if isClosed && i != dir && strings.HasPrefix(p, strings.TrimSuffix(g.paths[dir], "/")+"/") {
						code = impl.ErAccess
						closed++
					}
					if depthOf(p) > 8 {
						continue
					}
					if j, got := impl.ResolvePath(f, c, p); got != code || got == 0 && j != i {
						t.Errorf("with %q closed, %q leads %v to %d, %d and not %d", g.paths[dir], p, c, j, got, code)
					}
					if path, ok := impl.PathOf(f, i); path != p || !ok {
						t.Errorf("with %q closed, the path of %d is %q, %v", g.paths[dir], i, path, ok)
					}
					if code == 0 {
						open++
					}
				}
			}
		}
	}
	if min(closed, open) < 500 {
		t.Errorf("%d paths are closed, %d open", closed, open)
	}
}

// wildFS returns a file system whose directories name anything, some names twice, with random modes and lists.
func wildFS(random *rand.Rand) impl.FS {
	f := emptyFS()
	lists := append(someAcls(), nil, nil, nil, nil)
	modes := []int{511, 511, 511, 73, 64, 8, 1, 0, 438, 509, 503, 447, 1023, 2047, 1}
	for dir := range 20 {
		if dir > 0 && random.Intn(5) > 2 {
			f.Inodes[dir] = inodeOf(random.Intn(2), 0, 0, 0, 0, 0, 0)
			continue
		}
		var l []impl.DirEntry
		for range random.Intn(5) {
			l = append(l, impl.DirEntry{Name: []string{"a", "b", "c"}[random.Intn(3)], Inode: random.Intn(20)})
		}
		f = dirWith(f, dir, dir%4, recordsText(l), 0)
		f.Inodes[dir].Mode, f.Inodes[dir].Gid, f.Inodes[dir].Acl = modes[random.Intn(len(modes))], random.Intn(4), lists[random.Intn(len(lists))]
	}
	f.Inodes[0].Mode |= random.Intn(2) * 511
	return f
}

// TestWildSystems compares all answers with those of the model.
func TestWildSystems(t *testing.T) {
	random := rand.New(rand.NewSource(24))
	creds := validCreds()
	codes := [2]map[int]int{{}, {}}
	paths := allTexts("abc", 9)[:1500]
	for range 60 {
		f := wildFS(random)
		if !impl.IsFS(f) {
			t.Fatalf("%s is not valid", nameFS(f))
		}
		s := treeOf(f)
		for range 150 {
			names := strings.Split(paths[int(float64(len(paths))*random.Float64()*random.Float64())], "")
			if random.Intn(20) == 0 {
				names = append(names, []string{"", "..", "x", "abcdefghijklm"}[random.Intn(4)])
			}
			p, c := wantJoinPath(names), creds[random.Intn(len(creds))]
			s.expectResolved(t, c, p)
			_, code := impl.ResolvePath(f, c, p)
			_, _, parentCode := impl.ResolveParent(f, c, p)
			codes[0][code]++
			codes[1][parentCode]++
		}
		for i := -1; i <= 20; i++ {
			s.expectPath(t, i)
		}
		s.expectConsistent(t, creds[random.Intn(len(creds))])
	}
	for _, code := range []int{0, impl.ErAccess, impl.ErMissing, impl.ErNotDir, impl.ErName} {
		if min(codes[0][code], codes[1][code]) < 50 {
			t.Errorf("the codes are %v", codes)
		}
	}
}

// expectConsistent checks, for short paths, that the parent and its entry give what the path gives.
func (s tree) expectConsistent(t *testing.T, c impl.Cred) {
	t.Helper()
	for _, text := range allTexts("abcx", 3)[1:] {
		p := wantJoinPath(strings.Split(text, ""))
		dir, name, code := impl.ResolveParent(s.f, c, p)
		i, pathCode := impl.ResolvePath(s.f, c, p)
		if code != 0 {
			// That the directory is not in use is a missing directory for one, and no directory for the other.
			if i != 0 || pathCode != code && (code != impl.ErMissing || pathCode != impl.ErNotDir) {
				t.Errorf("the parent of %q has the code %d, the path %d, for %v", p, code, pathCode, s.entries)
			}
			continue
		}
		want, found := impl.FindEntry(s.f, dir, name)
		if wantCode := pathCode; found && s.f.Inodes[want].Kind != 0 && (i != want || wantCode != 0) || (!found || s.f.Inodes[want].Kind == 0) && (i != 0 || wantCode != impl.ErMissing) {
			t.Errorf("the entry %q of %d is %d, %v, but %q leads to %d, %d", name, dir, want, found, p, i, pathCode)
		}
	}
}

// TestPathsOfOtherSystems has the systems of the chapters before, also with what is no entry.
func TestPathsOfOtherSystems(t *testing.T) {
	for _, f := range dirSystems() {
		s := treeOf(f)
		paths := []string{"/", "/one", "/sub", "/sub/first", "/sub/up/sub/own/own/up/one", "/gone", "/sub/one/x", "/x"}
		for _, e := range s.entries[0] {
			paths = append(paths, "/"+e.Name, "/"+e.Name+"/"+e.Name)
		}
		for _, p := range paths {
			s.expectResolved(t, cred(0, 0), p)
			s.expectResolved(t, cred(3, 1, 2), p)
		}
		for i := -1; i <= 20; i++ {
			s.expectPath(t, i)
		}
	}
	// Wrong records lead nowhere, whatever the name is that they seem to have.
	for _, wrong := range wrongRecords() {
		s := treeOf(dirWith(emptyFS(), 0, 0, recordText(6, 1, "z")+wrong+recordText(1, 2, "up"), 0))
		for _, name := range []string{"z", "up", "a", "w", "ab", strings.TrimRight(wrong[3:], "\x00")} {
			s.expectResolved(t, cred(1, 1), "/"+name)
			s.expectResolved(t, cred(1, 1), "/up/"+name)
		}
		for i := -1; i <= 20; i++ {
			s.expectPath(t, i)
		}
	}
}
