package tests

import (
	"fmt"
	"math/rand"
	"slices"
	"strings"
	"testing"

	"loop.example/g00817/impl"
)

// expectOnlyDir checks that f and g differ at most in the size and the blocks of directory dir, and in the data of these.
func expectOnlyDir(t *testing.T, call string, f impl.FS, g impl.FS, dir int) {
	t.Helper()
	changed := map[int]bool{}
	for _, b := range append(impl.UsedBlocks(f.Inodes[dir]), impl.UsedBlocks(g.Inodes[dir])...) {
		changed[b] = true
	}
	same := cloneFS(g)
	same.Inodes[dir].Size, same.Inodes[dir].Blocks = f.Inodes[dir].Size, f.Inodes[dir].Blocks
	for b := range same.Data {
		if changed[b] {
			same.Data[b] = f.Data[b]
		}
	}
	if !equalFS(same, f) {
		t.Errorf("%s of inode %d changes %s to %s", call, dir, briefFS(f), briefFS(g))
	}
}

// expectUndone adds an entry and removes it again; if the directory has nothing but records of entries, that leaves all as it was.
func expectUndone(t *testing.T, f impl.FS, dir int, name string, i int) {
	t.Helper()
	old := impl.EntriesOf(f, dir)
	g, code := impl.AddEntry(f, dir, name, i)
	if code != 0 {
		if !equalFS(g, f) {
			t.Errorf("AddEntry of %q, with the code %d, leads to %s", name, code, briefFS(g))
		}
		return
	}
	expectOnlyDir(t, "AddEntry", f, g, dir)
	if got, want := impl.EntriesOf(g, dir), append(slices.Clone(old), impl.DirEntry{Name: name, Inode: i}); f.Inodes[dir].Size%16 == 0 && !slices.Equal(got, want) {
		t.Errorf("after AddEntry of %q, the entries are %v and not %v", name, got, want)
	}
	if f.Inodes[dir].Size%16 != 0 {
		return
	}
	if inode, ok := impl.FindEntry(g, dir, name); inode != i || !ok {
		t.Errorf("after AddEntry of %q with %d, %d, %v is found", name, i, inode, ok)
	}
	if g.Inodes[dir].Size != f.Inodes[dir].Size+16 || impl.ReadBytes(g, dir, 0, f.Inodes[dir].Size) != impl.ReadBytes(f, dir, 0, 256) {
		t.Errorf("AddEntry of %q changes what was there", name)
	}
	if again, code := impl.AddEntry(g, dir, name, i); code != impl.ErExists || !equalFS(again, g) {
		t.Errorf("the second AddEntry of %q has the code %d", name, code)
	}
	h, code := impl.RemoveEntry(g, dir, name)
	if code == impl.ErQuota {
		return
	}
	if got := impl.EntriesOf(h, dir); code != 0 || !slices.Equal(got, old) {
		t.Errorf("after AddEntry and RemoveEntry of %q, with the code %d, the entries are %v and not %v", name, code, got, old)
	}
	expectOnlyDir(t, "RemoveEntry", g, h, dir)
	if 16*len(old) == f.Inodes[dir].Size && !equalFS(h, f) {
		t.Errorf("after AddEntry and RemoveEntry of %q, %s is %s", name, briefFS(f), briefFS(h))
	}
}

func TestEntriesAreUndone(t *testing.T) {
	for _, f := range dirSystems() {
		for dir := range 20 {
			if !isDirOf(f, dir) {
				continue
			}
			for k, name := range []string{"new", "n", "abcdefghijkl", "...", "\xff\x01", "é", "one", "up", ".", "", "abcdefghijklm"} {
				expectUndone(t, f, dir, name, k*3%22)
				expectUndone(t, f, dir, name, dir)
			}
		}
	}
}

// TestAnyOrderOfRemovals builds directories of each length and removes the entries in several orders.
func TestAnyOrderOfRemovals(t *testing.T) {
	random := rand.New(rand.NewSource(11))
	for n := range 17 {
		for range 12 {
			f, l := emptyFS(), entriesOf(n)
			for k, e := range l {
				g, code := impl.AddEntry(f, 0, e.Name, e.Inode)
				if got := impl.EntriesOf(g, 0); code != 0 || !slices.Equal(got, l[:k+1]) || g.Inodes[0].Size != 16*(k+1) || impl.BlocksOf(g, 0) != k/2+1 {
					t.Fatalf("after AddEntry of %v, with the code %d, the entries are %v", e, code, got)
				}
				f = g
			}
			for len(l) > 0 {
				k := random.Intn(len(l))
				g, code := impl.RemoveEntry(f, 0, l[k].Name)
				l = slices.Delete(l, k, k+1)
				if got := impl.EntriesOf(g, 0); code != 0 || !slices.Equal(got, l) || g.Inodes[0].Size != 16*len(l) || impl.BlocksOf(g, 0) != (len(l)+1)/2 || !impl.IsFS(g) {
					t.Fatalf("after removal %d of %d, with the code %d, the entries are %v and not %v", k, n, code, got, l)
				}
				f = g
			}
			if !equalFS(f, emptyFS()) {
				t.Errorf("after %d entries, the file system is %s", n, briefFS(f))
			}
		}
	}
}

// TestParentsAreFound checks that what ParentOf tells is an entry that FindEntry finds, if no name occurs twice.
func TestParentsAreFound(t *testing.T) {
	for _, f := range append(dirSystems(), treeFS()) {
		for i := range 20 {
			dir, name, ok := impl.ParentOf(f, i)
			if !ok {
				continue
			}
			l := impl.EntriesOf(f, dir)
			if !slices.Contains(l, impl.DirEntry{Name: name, Inode: i}) {
				t.Errorf("the parent of %d is %d, %q, but the entries are %v", i, dir, name, l)
			}
			if j, found := impl.FindEntry(f, dir, name); !found || j != l[placeOf(l, name)].Inode {
				t.Errorf("the parent of %d is %d, %q, but %d, %v is found", i, dir, name, j, found)
			}
		}
	}
}

// TestFullDirectories has no room for another record, whatever the pools have.
func TestFullDirectories(t *testing.T) {
	l := entriesOf(16)
	for _, u := range []int{0, 3} {
		for _, holes := range []int{0, 1, 0x80, 0xff} {
			f := dirWith(emptyFS(), 9, u, recordsText(l), holes)
			g, code := impl.AddEntry(f, 9, "new", 3)
			if code != impl.ErBig || !equalFS(g, f) {
				t.Errorf("with the holes %b, AddEntry has the code %d", holes, code)
			}
			f = dirWith(emptyFS(), 9, u, recordsText(l)[:240], holes)
			g, code = impl.AddEntry(f, 9, "new", 3)
			if code != 0 || g.Inodes[9].Size != 256 || !equalFS(dropTail(f, 9), dropTail(g, 9)) {
				t.Errorf("with the holes %b, the last AddEntry has the code %d", holes, code)
			}
			for size := 241; size < 256; size++ {
				f = dirWith(emptyFS(), 9, u, recordsText(l)[:size], holes)
				if g, code := impl.AddEntry(f, 9, "new", 3); code != impl.ErBig || !equalFS(g, f) {
					t.Errorf("of %d bytes, AddEntry has the code %d", size, code)
				}
			}
		}
	}
	f := fullFS()
	for dir := 0; dir < 20; dir += 5 {
		if g, code := impl.AddEntry(f, dir, "new", 3); code != impl.ErBig || !equalFS(g, f) {
			t.Errorf("with full pools, AddEntry has the code %d", code)
		}
		if g, code := impl.AddEntry(f, dir+3, "new", 3); code != impl.ErQuota || !equalFS(g, f) {
			t.Errorf("with full pools, AddEntry to an empty directory has the code %d", code)
		}
	}
}

// dropTail cuts the last record off a directory of 15 records or 16.
func dropTail(f impl.FS, dir int) impl.FS {
	g, _ := wantResizeFile(f, dir, 224)
	return g
}

// TestDirQuotas has all quotas and many choices of blocks in use: a record needs a block only where the directory has none.
func TestDirQuotas(t *testing.T) {
	for u := range 4 {
		for _, mask := range poolShapes(14) {
			for quota := range 15 {
				f := poolFS(u, mask, quota)
				dir := 5*((u+2)%4) + 2
				f.Inodes[dir] = inodeOf(2, 493, u, 3-u, 1, 0, 3)
				asked, last := 1, f
				for k, e := range entriesOf(4) {
					g, code := impl.AddEntry(last, dir, e.Name, e.Inode)
					what := fmt.Sprintf("AddEntry of record %d", k)
					expectCode(t, what, code, mask, asked, quota)
					added := expectAllocated(t, last, g, dir, u)
					if code != 0 {
						if !equalFS(g, last) {
							t.Errorf("%s, with the code %d, leads to %s", what, code, briefFS(g))
						}
						break
					}
					if want := (k + 1) % 2; len(added) != want || !slices.Equal(impl.UsedBlocks(g.Inodes[dir]), leastFree(u, mask, k/2+1)) {
						t.Errorf("%s allocates %v", what, added)
					}
					last, asked = g, (k+3)/2
				}
			}
		}
	}
}

// holeDir returns a file system of u whose directory 7 has holes where its first records are written when an entry is removed.
func holeDir(u int, mask int, quota int, holes int) impl.FS {
	text := recordsText(entriesOf(8))
	f := poolFS(u, mask, quota)
	f.Inodes[7] = inodeOf(2, 493, u, 0, 1, 128, 3, -1, -1, -1, -1)
	free := leastFree(u, mask, 14)
	for k := range 4 {
		if holes>>k&1 == 0 {
			b := free[len(free)-1-k]
			f.Inodes[7].Blocks[k], f.Data[b] = b, text[32*k:32*k+32]
		}
	}
	return f
}

// holesAtFirst returns how many of the first n blocks are holes.
func holesAtFirst(blocks []int, n int) int {
	count := 0
	for _, b := range blocks[:n] {
		if b == -1 {
			count++
		}
	}
	return count
}

// TestRemovalsAllocate has holes that are written to: they need blocks before the others are freed, so that a removal may fail.
func TestRemovalsAllocate(t *testing.T) {
	codes := map[int]int{}
	for u := range 4 {
		for _, mask := range []int{0, 0x21, 0x3ff, 0x1e7} {
			for quota := range 15 {
				for holes := range 15 {
					f := holeDir(u, mask, quota, holes)
					l := impl.EntriesOf(f, 7)
					// Without one of the entries, which are two in a block, the others need the first blocks.
					touched := holesAtFirst(f.Inodes[7].Blocks, len(l)/2)
					want := 0
					if touched > 0 && impl.BlocksOf(f, u)+touched > quota {
						want = impl.ErQuota
					}
					g, code := impl.RemoveEntry(f, 7, l[0].Name)
					codes[code]++
					if got := impl.EntriesOf(g, 7); code != want || code == 0 && !slices.Equal(got, l[1:]) || code != 0 && !equalFS(g, f) {
						t.Errorf("with the holes %b, the quota %d and %d blocks in use, RemoveEntry has the code %d and leaves %v", holes, quota, impl.BlocksOf(f, u), code, got)
					}
					for k, b := range g.Inodes[7].Blocks {
						if code == 0 && (impl.BlockOwner(b) != u || f.Inodes[7].Blocks[k] != -1 && f.Inodes[7].Blocks[k] != b) {
							t.Errorf("with the holes %b, the blocks %v become %v", holes, f.Inodes[7].Blocks, g.Inodes[7].Blocks)
						}
					}
					expectRemoved(t, f, 7, l[len(l)-1].Name)
				}
			}
		}
	}
	if min(codes[0], codes[impl.ErQuota]) < 300 {
		t.Errorf("the codes are %v", codes)
	}
}

// TestRemovalsWriteEntriesAlone drops the records that are none, and what is behind the last whole one.
func TestRemovalsWriteEntriesAlone(t *testing.T) {
	l := entriesOf(5)
	wrong := wrongRecords()
	for k := range wrong {
		a, b, c := wrong[k], wrong[(k+7)%len(wrong)], wrong[(k+20)%len(wrong)]
		text := a + recordsText(l[:2]) + b + a + recordsText(l[2:4]) + c + recordsText(l[4:]) + a + b + "tail"
		for dir, u := range []int{2, 0, 1} {
			f := dirWith(emptyFS(), dir, u, text, 0)
			for j, e := range l {
				g, code := impl.RemoveEntry(f, dir, e.Name)
				want := recordsText(slices.Delete(slices.Clone(l), j, j+1))
				data := strings.Trim(strings.Join(g.Data, ""), "\x00")
				if got := impl.ReadBytes(g, dir, 0, 999); code != 0 || got != want || strings.Contains(data, "tail") || impl.BlocksOf(g, u) != 2 {
					t.Errorf("without %v, with the code %d, the content is %q and not %q", e, code, got, want)
				}
				expectOnlyDir(t, "RemoveEntry", f, g, dir)
			}
			if g, code := impl.RemoveEntry(f, dir, "tail"); code != impl.ErMissing || !equalFS(g, f) {
				t.Errorf("RemoveEntry of what is not there has the code %d", code)
			}
		}
	}
	only := dirWith(emptyFS(), 0, 0, wrong[3]+wrong[4]+recordsText(l[:1])+wrong[5]+wrong[6]+"tail", 0)
	if g, code := impl.RemoveEntry(only, 0, l[0].Name); code != 0 || !equalFS(dirWith(emptyFS(), 0, 0, "", 0), g) {
		t.Errorf("RemoveEntry of the only entry has the code %d and leaves %v", code, g.Inodes[0])
	}
}

// dirHistory is a file system, and the entries that its directories should have.
type dirHistory struct {
	f       impl.FS
	entries map[int][]impl.DirEntry
}

// change adds or removes a random entry, which a map of directories does, too; it returns the code.
func (h *dirHistory) change(t *testing.T, random *rand.Rand) int {
	t.Helper()
	dir, i, name := random.Intn(20), random.Intn(21), []string{"a", "bb", "ccc", "abcdefghijkl", "...", "\xff", "x/", "f", "gg", "h i", "jay", "k", "l", "m", "n", "o", "p", "q", "r", "s"}[random.Intn(20)]
	before, old := h.f, h.entries[dir]
	place, code := placeOf(old, name), 0
	if random.Intn(5) > 1 {
		h.f, code = impl.AddEntry(before, dir, name, i)
		if code == 0 {
			h.entries[dir] = append(slices.Clone(old), impl.DirEntry{Name: name, Inode: i})
		}
		if code == 0 && (place >= 0 || name == "x/" || i > 19) || code == impl.ErExists && place < 0 {
			t.Errorf("AddEntry of %q with %d has the code %d, where the entries were %v", name, i, code, old)
		}
	} else {
		h.f, code = impl.RemoveEntry(before, dir, name)
		if code == 0 && place >= 0 {
			h.entries[dir] = slices.Delete(slices.Clone(old), place, place+1)
		}
		if code == 0 && place < 0 || code == impl.ErMissing && place >= 0 {
			t.Errorf("RemoveEntry of %q has the code %d, where the entries were %v", name, code, old)
		}
	}
	if kind := before.Inodes[dir].Kind; code != 0 && !equalFS(h.f, before) || code == 0 && kind != 2 || code == impl.ErNotDir && kind != 1 {
		t.Errorf("with the code %d, %s becomes %s", code, briefFS(before), briefFS(h.f))
	}
	return code
}

// expectHistory compares what the functions tell with the entries that the history should have.
func (h *dirHistory) expectHistory(t *testing.T) {
	t.Helper()
	parents := map[int][]any{}
	for dir := range 20 {
		l := h.entries[dir]
		if got := impl.EntriesOf(h.f, dir); !slices.Equal(got, l) {
			t.Fatalf("the entries of %d are %v and not %v", dir, got, l)
		}
		for _, e := range l {
			if i, ok := impl.FindEntry(h.f, dir, e.Name); i != e.Inode || !ok {
				t.Fatalf("%v is found as %d, %v", e, i, ok)
			}
			if parents[e.Inode] == nil {
				parents[e.Inode] = []any{dir, e.Name, true}
			}
		}
	}
	for i := range 20 {
		dir, name, ok := impl.ParentOf(h.f, i)
		if want := parents[i]; ok != (want != nil) || ok && !slices.Equal(want, []any{dir, name, ok}) {
			t.Fatalf("the parent of %d is %d, %q, %v and not %v", i, dir, name, ok, want)
		}
	}
}

// TestHistoriesOfDirectories looks at all directories after each change, so that none of them may change with another.
func TestHistoriesOfDirectories(t *testing.T) {
	random := rand.New(rand.NewSource(12))
	codes := map[int]int{}
	for range 25 {
		h := dirHistory{emptyFS(), map[int][]impl.DirEntry{}}
		h.f.Quotas = []impl.Quota{{Blocks: 14}, {Blocks: 9}, {Blocks: 2}, {Blocks: 12}}
		for _, dir := range []int{3, 5, 8, 12, 19} {
			h.f.Inodes[dir] = inodeOf(2, 493, random.Intn(4), random.Intn(4), 1, 0, random.Intn(9))
		}
		h.f.Inodes[7] = inodeOf(1, 420, 2, 2, 1, 0, 5)
		for range 300 {
			codes[h.change(t, random)]++
			if !impl.IsFS(h.f) {
				t.Fatalf("%s is not valid", nameFS(h.f))
			}
			h.expectHistory(t)
		}
	}
	for _, code := range []int{0, impl.ErInvalid, impl.ErMissing, impl.ErExists, impl.ErNotDir, impl.ErQuota, impl.ErName} {
		if codes[code] < 20 {
			t.Errorf("the codes are %v", codes)
		}
	}
}
