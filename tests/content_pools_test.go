package tests

import (
	"fmt"
	"math/bits"
	"math/rand"
	"slices"
	"strings"
	"testing"

	"loop.example/g00817/impl"
)

// usedIn returns the blocks of f that are in use.
func usedIn(f impl.FS) map[int]bool {
	used := map[int]bool{}
	for _, n := range f.Inodes {
		for _, b := range n.Blocks {
			if b != -1 {
				used[b] = true
			}
		}
	}
	return used
}

// expectAllocated checks the promise: what is in use only in g belongs to the pool of u, within its quota; it returns these blocks in the order of inode i.
func expectAllocated(t *testing.T, f impl.FS, g impl.FS, i int, u int) []int {
	t.Helper()
	before, after := usedIn(f), usedIn(g)
	var added []int
	for _, b := range g.Inodes[i].Blocks {
		if b != -1 && !before[b] {
			added = append(added, b)
			delete(after, b)
		}
	}
	for b := range after {
		if !before[b] {
			t.Errorf("block %d is allocated, but not for inode %d", b, i)
		}
	}
	for _, b := range added {
		if impl.BlockOwner(b) != u {
			t.Errorf("block %d is allocated for user %d", b, u)
		}
	}
	if count := impl.BlocksOf(g, u); len(added) > 0 && (count > f.Quotas[u].Blocks || count != impl.BlocksOf(f, u)+len(added)) {
		t.Errorf("user %d has %d blocks after %d, with the quota %v", u, count, impl.BlocksOf(f, u), f.Quotas[u])
	}
	return added
}

// leastFree returns the n least blocks of the pool of u that mask does not choose; there may be fewer.
func leastFree(u int, mask int, n int) []int {
	var free []int
	for k := range 14 {
		if mask>>k&1 == 0 && len(free) < n {
			free = append(free, 14*u+k)
		}
	}
	return free
}

// expectCode expects a code that depends on the quota only: how many blocks are in use, and how many are asked for.
func expectCode(t *testing.T, what string, code int, mask int, asked int, quota int) {
	t.Helper()
	want := 0
	if asked > 0 && bits.OnesCount(uint(mask))+asked > quota {
		want = impl.ErQuota
	}
	if code != want {
		t.Errorf("%s has the code %d and not %d: of the quota %d, %d are in use", what, code, want, quota, bits.OnesCount(uint(mask)))
	}
}

// poolFS returns a file system in which user u has the blocks that mask chooses, and the others have some of theirs.
func poolFS(u int, mask int, quota int) impl.FS {
	f := withBlocks(emptyFS(), u, mask)
	f.Quotas[u].Blocks = quota
	for v := range 4 {
		if v != u {
			f.Inodes[5*v+1] = inodeOf(1, 420, v, v, 1, 70, 3, 14*v+9, -1, 14*v)
			f.Data[14*v+9], f.Data[14*v] = sector(marked(v, 32)), sector("end")
		}
	}
	return f
}

// TestWritesAllocate touches holes of a file, with each quota and many choices of what is in use: all of the holes get a block, or none does.
func TestWritesAllocate(t *testing.T) {
	for u := range 4 {
		i := 5*((u+3)%4) + 2
		for _, mask := range poolShapes(14) {
			for quota := range 15 {
				f := poolFS(u, mask, quota)
				f.Inodes[i] = inodeOf(1, 420, u, 3-u, 1, 100, 3, -1, -1, -1, -1)
				for _, c := range [][3]int{{0, 1, 1}, {99, 1, 1}, {31, 2, 2}, {40, 64, 3}, {0, 256, 8}, {130, 126, 4}, {50, 0, 0}} {
					g, code := impl.WriteBytes(f, i, c[0], marked(u, c[1]))
					what := fmt.Sprintf("a write of %d bytes at %d", c[1], c[0])
					expectCode(t, what, code, mask, c[2], quota)
					added := expectAllocated(t, f, g, i, u)
					if want := leastFree(u, mask, c[2]); code == 0 && !slices.Equal(added, want) || code != 0 && !equalFS(g, f) {
						t.Errorf("%s, with the code %d, allocates %v and not %v", what, code, added, want)
					}
				}
			}
		}
	}
}

// inPool returns n with the blocks of its owner that have these numbers within the pool.
func inPool(n impl.Inode) impl.Inode {
	n = cloneInode(n)
	for k, b := range n.Blocks {
		if b != -1 {
			n.Blocks[k] = 14*n.Uid + b
		}
	}
	return n
}

// TestMovesAllocate does the same for the blocks of a file that has another owner.
func TestMovesAllocate(t *testing.T) {
	shapes := [][]int{{}, {-1}, {0}, {0, -1}, {-1, 0}, {5, -1, 1}, {1, 2, 3, 4, 5, 6, 7, 8}, {8, -1, 6, 5, -1, 3, 2, 1}, {-1, -1, -1, 12, -1}}
	for u := range 4 {
		v := (u + 1) % 4
		for _, mask := range poolShapes(14) {
			for quota := range 15 {
				f := poolFS(u, mask, quota)
				f.Inodes[5*v+1], f.Data[14*v+9], f.Data[14*v] = impl.Inode{}, sector(""), sector("")
				for _, shape := range shapes {
					n := inodeOf(1, 420, v, 3-u, 1, 32*len(shape), 3, shape...)
					expectMoveTo(t, withObject(f, 5*v+1, inPool(n)), 5*v+1, u, mask)
				}
			}
		}
	}
}

// expectMoveTo moves inode i to user u, who has the blocks that mask chooses: they stay, and those of inode i are given back.
func expectMoveTo(t *testing.T, f impl.FS, i int, u int, mask int) {
	t.Helper()
	old := f.Inodes[i]
	used := impl.UsedBlocks(old)
	g, code := impl.MoveOwner(f, i, u)
	what := fmt.Sprintf("a move of %v", old.Blocks)
	expectCode(t, what, code, mask, len(used), f.Quotas[u].Blocks)
	if code != 0 {
		if !equalFS(g, f) {
			t.Errorf("%s, with the code %d, leads to %s", what, code, briefFS(g))
		}
		return
	}
	added := expectAllocated(t, f, g, i, u)
	if want := leastFree(u, mask, len(used)); !slices.Equal(added, want) || !slices.Equal(impl.UsedBlocks(g.Inodes[i]), want) {
		t.Errorf("%s allocates %v and not %v", what, added, want)
	}
	for k, b := range old.Blocks {
		isHole := g.Inodes[i].Blocks[k] == -1
		if isHole != (b == -1) || b != -1 && (g.Data[b] != sector("") || g.Data[g.Inodes[i].Blocks[k]] != f.Data[b]) {
			t.Errorf("%s leads to %v, and leaves %q in block %d", what, g.Inodes[i].Blocks, g.Data, b)
		}
	}
	if impl.BlocksOf(g, old.Uid) != impl.BlocksOf(f, old.Uid)-len(used) || g.Inodes[i].Gid != old.Gid || !impl.IsFS(g) {
		t.Errorf("after %s, the file system is %s", what, briefFS(g))
	}
}

// TestKnownAllocations has quotas that suffice for the first blocks only.
func TestKnownAllocations(t *testing.T) {
	f := busyFS()
	for _, c := range []struct {
		i, at, length, want int
		blocks              []int
	}{
		{0, 32, 1, 0, []int{0, 3}}, {1, 32, 40, 0, []int{2, 3, 1}}, {1, 32, 90, 0, []int{2, 3, 1, 4}}, {0, 0, 256, 0, []int{0, 3, 4, 5, 6, 7, 8, 9}},
		{5, 17, 16, 0, []int{14, 15}}, {5, 17, 48, impl.ErQuota, []int{14}}, {6, 32, 1, 0, []int{27, 15}}, {6, 32, 33, impl.ErQuota, []int{27, -1}}, {6, 100, 1, 0, []int{27, -1, -1, 15}},
		{7, 31, 97, 0, []int{41, 28, 29, 30}}, {7, 31, 129, 0, []int{41, 28, 29, 30, 39}}, {7, 31, 130, impl.ErQuota, []int{41}}, {15, 0, 1, impl.ErQuota, []int{-1}}, {19, 0, 64, 0, []int{55, 42}}, {19, 0, 65, impl.ErQuota, []int{55, 42}},
		{17, 0, 33, 0, []int{3, 4}},
	} {
		g, code := impl.WriteBytes(f, c.i, c.at, marked(9, c.length))
		if code != c.want || !slices.Equal(g.Inodes[c.i].Blocks, c.blocks) || code != 0 && !equalFS(g, f) {
			t.Errorf("after a write of %d bytes at %d, with the code %d, inode %d has the blocks %v", c.length, c.at, code, c.i, g.Inodes[c.i].Blocks)
		}
	}
	for _, c := range []struct {
		i, u, want int
		blocks     []int
	}{
		{0, 1, 0, []int{15}}, {1, 1, impl.ErQuota, []int{2, -1, 1}}, {0, 2, 0, []int{28}}, {1, 2, 0, []int{28, -1, 29}}, {0, 3, impl.ErQuota, []int{0}}, {15, 0, 0, []int{-1}}, {15, 1, 0, []int{-1}},
		{17, 3, 0, nil}, {19, 0, 0, []int{3, 4}}, {19, 1, impl.ErQuota, []int{55, 42}}, {19, 2, 0, []int{28, 29}}, {11, 0, 0, []int{3, 4, 5, 6, 7, 8, 9, 10}}, {11, 1, impl.ErQuota, []int{38, 37, 36, 35, 34, 33, 32, 31}},
		{6, 0, 0, []int{3, -1}}, {7, 1, 0, []int{15}},
	} {
		g, code := impl.MoveOwner(f, c.i, c.u)
		if code != c.want || !slices.Equal(g.Inodes[c.i].Blocks, c.blocks) || code != 0 && !equalFS(g, f) {
			t.Errorf("after a move to %d, with the code %d, inode %d has the blocks %v", c.u, code, c.i, g.Inodes[c.i].Blocks)
		}
	}
}

// TestFullPools has no block left, although the quotas are the greatest; what has its block can be written.
func TestFullPools(t *testing.T) {
	f := fullFS()
	for i, n := range f.Inodes {
		for _, c := range [][3]int{{0, n.Size, 0}, {0, 256, 7}, {255, 1, 7}, {n.Size, 0, 0}} {
			want := c[2]
			if n.Size == 256 {
				want = 0
			}
			if g, code := impl.WriteBytes(f, i, c[0], strings.Repeat("w", c[1])); code != want || code != 0 && !equalFS(g, f) || !impl.IsFS(g) {
				t.Errorf("a write of %d bytes at %d into inode %d has the code %d", c[1], c[0], i, code)
			}
		}
		for u := range 4 {
			want := 0
			if n.Uid != u && len(n.Blocks) > 0 {
				want = impl.ErQuota
			}
			if g, code := impl.MoveOwner(f, i, u); code != want || code != 0 && !equalFS(g, f) {
				t.Errorf("a move of inode %d to %d has the code %d", i, u, code)
			}
		}
	}
}

// TestFreedBlocksAreAllocatedAgain frees in three ways, and checks that new content finds zeros in these blocks.
func TestFreedBlocksAreAllocatedAgain(t *testing.T) {
	for k, free := range []func(f impl.FS) (impl.FS, int){
		func(f impl.FS) (impl.FS, int) { return impl.FreeObject(f, 1) },
		func(f impl.FS) (impl.FS, int) { return impl.ResizeFile(f, 1, 0) },
		func(f impl.FS) (impl.FS, int) { return impl.MoveOwner(f, 1, 2) },
	} {
		f := fileFS()
		f.Quotas[0].Blocks = 8
		f, _ = impl.WriteBytes(f, 1, 0, strings.Repeat("x", 256))
		f.Inodes[2] = inodeOf(1, 420, 0, 0, 1, 0, 0)
		if g, code := impl.WriteBytes(f, 2, 5, "y"); code != impl.ErQuota || !equalFS(g, f) {
			t.Errorf("a write without a free block has the code %d", code)
		}
		f, code := free(f)
		if code != 0 || impl.BlocksOf(f, 0) != 0 {
			t.Errorf("after way %d with the code %d, user 0 has %d blocks", k, code, impl.BlocksOf(f, 0))
		}
		f, code = impl.WriteBytes(f, 2, 5, "y")
		f, next := impl.WriteBytes(f, 2, 250, "z")
		want := "\x00\x00\x00\x00\x00y" + strings.Repeat("\x00", 244) + "z"
		if got := impl.ReadBytes(f, 2, 0, 300); code != 0 || next != 0 || got != want || !slices.Equal(f.Inodes[2].Blocks, []int{0, -1, -1, -1, -1, -1, -1, 1}) {
			t.Errorf("after way %d, with the codes %d and %d, %v with %q is read", k, code, next, f.Inodes[2], got)
		}
	}
}

// TestWritesInParts checks that a write has the code of the first of its blocks for which NextBlock fails, and allocates what its parts would.
func TestWritesInParts(t *testing.T) {
	random := rand.New(rand.NewSource(11))
	codes := map[int]int{}
	for range 3000 {
		u := random.Intn(4)
		f := poolFS(u, random.Intn(1<<14), random.Intn(15))
		i := 5*((u+3)%4) + 2
		f.Inodes[i] = inodeOf(2, 420, u, u, 1, 200, 3, slices.Repeat([]int{-1}, 7)...)
		at := random.Intn(256)
		s := marked(random.Intn(250), 1+random.Intn(256-at))
		parts, wantCode := f, 0
		for k := at / 32; 32*k < at+len(s) && wantCode == 0; k++ {
			from, to := max(at, 32*k), min(at+len(s), 32*k+32)
			_, next := impl.NextBlock(parts, u)
			parts, wantCode = impl.WriteBytes(parts, i, from, s[from-at:to-at])
			if wantCode != next {
				t.Errorf("a write into a hole has the code %d and not %d", wantCode, next)
			}
		}
		if wantCode != 0 {
			parts = f
		}
		got, code := impl.WriteBytes(f, i, at, s)
		expectResult(t, fmt.Sprintf("a write of %d bytes at %d", len(s), at), f, got, code, parts, wantCode)
		codes[code]++
	}
	if min(codes[0], codes[7]) < 500 || len(codes) != 2 {
		t.Errorf("the codes are %v", codes)
	}
}

// TestHistoriesOfAllocations checks the promise for each call of a history in which the quotas change.
func TestHistoriesOfAllocations(t *testing.T) {
	random := rand.New(rand.NewSource(12))
	codes := map[int]int{}
	f := emptyFS()
	for range 8000 {
		i, u := random.Intn(20), random.Intn(4)
		if f.Inodes[i].Kind == 0 {
			f.Inodes[i] = inodeOf(1, 420, u, u, 1, 0, 0)
		}
		var g impl.FS
		code, owner := 0, f.Inodes[i].Uid
		switch random.Intn(7) {
		case 0:
			f.Quotas[u].Blocks = 14 - random.Intn(15)*random.Intn(2)
			g = f
		case 1:
			g, code = impl.ResizeFile(f, i, random.Intn(257))
		case 2:
			g, code = impl.FreeObject(f, i)
		case 3, 4:
			g, code = impl.MoveOwner(f, i, u)
			owner = u
		default:
			at := random.Intn(257)
			g, code = impl.WriteBytes(f, i, at, marked(i, random.Intn(257-at)))
		}
		expectAllocated(t, f, g, i, owner)
		if code != 0 && !equalFS(f, g) || !impl.IsFS(g) {
			t.Fatalf("with the code %d, %s is changed to %s", code, briefFS(f), briefFS(g))
		}
		codes[code]++
		f = g
	}
	if min(codes[0], codes[7]) < 1000 {
		t.Errorf("the codes are %v", codes)
	}
}
