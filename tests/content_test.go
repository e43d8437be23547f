package tests

import (
	"fmt"
	"math"
	"math/rand"
	"slices"
	"strings"
	"testing"

	"loop.example/g00817/impl"
)

// equalFS compares all parts of two file systems, where nil and empty slices are equal.
func equalFS(a impl.FS, b impl.FS) bool {
	equalInodes := func(n impl.Inode, m impl.Inode) bool {
		lists := slices.Equal(n.Blocks, m.Blocks) && slices.Equal(n.Acl, m.Acl) && slices.Equal(n.Default, m.Default)
		numbers := n.Kind == m.Kind && n.Mode == m.Mode && n.Uid == m.Uid && n.Gid == m.Gid && n.Links == m.Links && n.Size == m.Size && n.Tick == m.Tick
		return lists && numbers
	}
	return a.Tick == b.Tick && slices.Equal(a.Quotas, b.Quotas) && slices.EqualFunc(a.Inodes, b.Inodes, equalInodes) && slices.Equal(a.Data, b.Data)
}

// wantObject reports whether chapter 10 has anything to do with inode i. IsFS has tests of its own.
func wantObject(f impl.FS, i int) bool {
	return impl.IsFS(f) && i >= 0 && i < 20 && f.Inodes[i].Kind != 0
}

// wantBlock returns the next block of user u, where f need not be valid: blocks may be on their way from one owner to another.
func wantBlock(f impl.FS, u int) (int, int) {
	used := map[int]bool{}
	for _, n := range f.Inodes {
		for _, b := range n.Blocks {
			used[b] = true
		}
	}
	_, b, code := wantNext(used, 14*u, 14, f.Quotas[u].Blocks)
	return b, code
}

// wantReadBytes reads byte by byte.
func wantReadBytes(f impl.FS, i int, at int, n int) string {
	if !wantObject(f, i) || at < 0 || n < 0 {
		return ""
	}
	var read []byte
	for j := at; j < f.Inodes[i].Size && j-at < n; j++ {
		x := byte(0)
		if b := f.Inodes[i].Blocks[j/32]; b != -1 {
			x = f.Data[b][j%32]
		}
		read = append(read, x)
	}
	return string(read)
}

// growByOne adds a byte to a content: a new block is a hole.
func growByOne(n *impl.Inode) {
	if n.Size%32 == 0 {
		n.Blocks = append(n.Blocks, -1)
	}
	n.Size++
}

// wantWriteBytes writes byte by byte.
func wantWriteBytes(f impl.FS, i int, at int, s string) (impl.FS, int) {
	switch {
	case !wantObject(f, i) || at < 0:
		return f, 1
	case at > 256-len(s):
		return f, 9
	}
	g := cloneFS(f)
	n := &g.Inodes[i]
	for j := range len(s) {
		for n.Size <= at+j {
			growByOne(n)
		}
		k := (at + j) / 32
		if n.Blocks[k] == -1 {
			b, code := wantBlock(g, n.Uid)
			if code != 0 {
				return f, code
			}
			n.Blocks[k] = b
		}
		g.Data[n.Blocks[k]] = setByte(g.Data[n.Blocks[k]], (at+j)%32, s[j])
	}
	return g, 0
}

// wantResizeFile takes away or adds one byte after the other.
func wantResizeFile(f impl.FS, i int, size int) (impl.FS, int) {
	switch {
	case !wantObject(f, i) || size < 0:
		return f, 1
	case size > 256:
		return f, 9
	}
	g := cloneFS(f)
	n := &g.Inodes[i]
	for n.Size < size {
		growByOne(n)
	}
	for n.Size > size {
		n.Size--
		if b := n.Blocks[n.Size/32]; b != -1 {
			g.Data[b] = setByte(g.Data[b], n.Size%32, 0)
		}
		n.Blocks = n.Blocks[:(n.Size+31)/32]
	}
	return g, 0
}

func wantFreeObject(f impl.FS, i int) (impl.FS, int) {
	if !wantObject(f, i) || i == 0 {
		return f, 1
	}
	g := cloneFS(f)
	for _, b := range f.Inodes[i].Blocks {
		if b != -1 {
			g.Data[b] = sector("")
		}
	}
	g.Inodes[i] = impl.Inode{}
	return g, 0
}

func wantMoveOwner(f impl.FS, i int, u int) (impl.FS, int) {
	switch {
	case !wantObject(f, i) || u < 0 || u > 3:
		return f, 1
	case f.Inodes[i].Uid == u:
		return f, 0
	}
	g := cloneFS(f)
	for k, b := range f.Inodes[i].Blocks {
		if b == -1 {
			continue
		}
		next, code := wantBlock(g, u)
		if code != 0 {
			return f, code
		}
		g.Inodes[i].Blocks[k], g.Data[next], g.Data[b] = next, g.Data[b], sector("")
	}
	g.Inodes[i].Uid = u
	return g, 0
}

// expectResult also checks that the result is valid, if it should be.
func expectResult(t *testing.T, call string, f impl.FS, got impl.FS, code int, want impl.FS, wantCode int) {
	t.Helper()
	if code != wantCode || !equalFS(got, want) {
		t.Errorf("%s returns %s, %d and not %s, %d, for %s", call, briefFS(got), code, briefFS(want), wantCode, briefFS(f))
	}
	if code == 0 && (!impl.IsFS(got) || !wantFS(got)) {
		t.Errorf("after %s, %s is not valid", call, briefFS(got))
	}
	if code != 0 && !equalFS(got, f) {
		t.Errorf("%s with the code %d changes %s to %s", call, code, briefFS(f), briefFS(got))
	}
}

func expectRead(t *testing.T, f impl.FS, i int, at int, n int) {
	t.Helper()
	if got, want := impl.ReadBytes(f, i, at, n), wantReadBytes(f, i, at, n); got != want {
		t.Errorf("ReadBytes of inode %d at %d, %d, is %q and not %q, for %s", i, at, n, got, want, briefFS(f))
	}
}

func expectWritten(t *testing.T, f impl.FS, i int, at int, s string) {
	t.Helper()
	got, code := impl.WriteBytes(f, i, at, s)
	want, wantCode := wantWriteBytes(f, i, at, s)
	expectResult(t, fmt.Sprintf("WriteBytes of inode %d at %d, %.40q (%d bytes)", i, at, s, len(s)), f, got, code, want, wantCode)
}

func expectResized(t *testing.T, f impl.FS, i int, size int) {
	t.Helper()
	got, code := impl.ResizeFile(f, i, size)
	want, wantCode := wantResizeFile(f, i, size)
	expectResult(t, fmt.Sprintf("ResizeFile of inode %d to %d", i, size), f, got, code, want, wantCode)
}

func expectFreed(t *testing.T, f impl.FS, i int) {
	t.Helper()
	got, code := impl.FreeObject(f, i)
	want, wantCode := wantFreeObject(f, i)
	expectResult(t, fmt.Sprintf("FreeObject of inode %d", i), f, got, code, want, wantCode)
}

func expectMoved(t *testing.T, f impl.FS, i int, u int) {
	t.Helper()
	got, code := impl.MoveOwner(f, i, u)
	want, wantCode := wantMoveOwner(f, i, u)
	expectResult(t, fmt.Sprintf("MoveOwner of inode %d to %d", i, u), f, got, code, want, wantCode)
}

// fileFS returns a file system whose inode 1 is an empty file of user 0.
func fileFS() impl.FS {
	f := emptyFS()
	f.Inodes[1] = inodeOf(1, 420, 0, 0, 1, 0, 0)
	return f
}

// marked returns n bytes that differ from their neighbours, and from those of another first one; none is 0.
func marked(first int, n int) string {
	s := make([]byte, n)
	for k := range s {
		s[k] = byte(1 + (first+k*7)%255)
	}
	return string(s)
}

// fileOf returns f with a file of user u as inode i, that has a block wherever shape has a bit, and bytes other than 0 in all of them.
func fileOf(f impl.FS, i int, u int, size int, shape int) impl.FS {
	f = cloneFS(f)
	n := inodeOf(1, 420, u, 0, 1, size, 4)
	for k := range (size + 31) / 32 {
		b := -1
		if shape>>k&1 == 1 {
			// From the end of the pool, so that the blocks that are allocated next are not beside them.
			b = 14*u + 13 - k
			f.Data[b] = sector(marked(40*k, min(32, size-32*k)))
		}
		n.Blocks = append(n.Blocks, b)
	}
	f.Inodes[i] = n
	return f
}

// shapedFiles returns file systems whose inode 1 has holes first, in the middle, last, everywhere and nowhere.
func shapedFiles() []impl.FS {
	systems := []impl.FS{fileFS()}
	for _, size := range []int{1, 20, 31, 32, 33, 64, 70, 96, 129, 250, 256} {
		all := 1<<((size+31)/32) - 1
		shapes := []int{all, 0, all - 1, all - all&2, all / 2, all & 0x55, all & 0xaa, all & 0x81}
		slices.Sort(shapes)
		for _, shape := range slices.Compact(shapes) {
			systems = append(systems, fileOf(emptyFS(), 1, 0, size, shape))
		}
	}
	return systems
}

// edgesOf returns the positions beside the edges of the blocks.
func edgesOf() []int {
	l := []int{0, 1, 2, 15, 20, 21}
	for k := 1; k <= 8; k++ {
		l = append(l, 32*k-1, 32*k, 32*k+1)
	}
	return l
}

// farNumbers are no index of a content, or one that leads behind its end; sums of them overflow.
func farNumbers() []int {
	return []int{math.MinInt, math.MinInt + 1, math.MinInt + 256, -1 << 32, -257, -256, -33, -32, -1, 256, 257, 288, 1 << 32, 1<<62 + 1, math.MaxInt - 256, math.MaxInt - 4, math.MaxInt - 1, math.MaxInt}
}

// foreignNumbers are no numbers of inodes in use of busyFS.
func foreignNumbers() []int {
	return []int{math.MinInt, math.MinInt + 1, -1 << 32, -20, -1, 2, 18, 20, 21, 56, 256, 1 << 32, math.MaxInt - 1, math.MaxInt}
}

func TestKnownContents(t *testing.T) {
	f := fileFS()
	a, code := impl.WriteBytes(f, 1, 30, "abcd")
	if n := a.Inodes[1]; code != 0 || n.Size != 34 || !slices.Equal(n.Blocks, []int{0, 1}) || a.Data[0] != strings.Repeat("\x00", 30)+"ab" || a.Data[1] != sector("cd") {
		t.Errorf("after the first write, the code is %d, and the file is %v with %q", code, n, a.Data[:2])
	}
	if got := impl.ReadBytes(a, 1, 29, 4); got != "\x00abc" {
		t.Errorf("%q is read at 29", got)
	}
	b, code := impl.WriteBytes(a, 1, 100, "z")
	if n := b.Inodes[1]; code != 0 || n.Size != 101 || !slices.Equal(n.Blocks, []int{0, 1, impl.NoBlock, 2}) || impl.BlocksOf(b, 0) != 3 {
		t.Errorf("after the second write, the code is %d, and the file is %v", code, n)
	}
	if got := impl.ReadBytes(b, 1, 30, 1000); got != "abcd"+strings.Repeat("\x00", 66)+"z" {
		t.Errorf("%q is read at 30", got)
	}
	c, code := impl.ResizeFile(a, 1, 31)
	if got := impl.ReadBytes(c, 1, 30, 9); code != 0 || got != "a" || impl.BlocksOf(c, 0) != 1 || c.Data[1] != sector("") || c.Inodes[1].Size != 31 {
		t.Errorf("after the resize, the code is %d, and %q is read", code, got)
	}
	if same, code := impl.ResizeFile(a, 1, 257); code != impl.ErBig || !equalFS(same, a) {
		t.Errorf("a resize to 257 has the code %d", code)
	}
	d, code := impl.MoveOwner(a, 1, 3)
	if got := impl.ReadBytes(d, 1, 30, 4); code != 0 || got != "abcd" || impl.BlocksOf(d, 3) != 2 || impl.BlocksOf(d, 0) != 0 || d.Inodes[1].Uid != 3 {
		t.Errorf("after the move, the code is %d, and %q is read", code, got)
	}
	for k, moved := range []impl.FS{a, b, c, d} {
		e, code := impl.FreeObject(moved, 1)
		if want := emptyFS(); code != 0 || !equalFS(e, want) || !impl.IsFS(e) || !impl.IsFS(moved) {
			t.Errorf("after %d and FreeObject, the code is %d, and the file system %s", k, code, briefFS(e))
		}
	}
}

func TestReadBytes(t *testing.T) {
	positions := append(edgesOf(), farNumbers()...)
	for _, f := range append(someFS(), shapedFiles()...) {
		for i := range 20 {
			if f.Inodes[i].Kind == 0 && i > 3 {
				continue
			}
			size := f.Inodes[i].Size
			for _, at := range append([]int{size - 1, size, size + 1}, positions...) {
				for _, n := range append([]int{0, 1, 2, 31, 32, 33, 64, 65, size - at - 1, size - at, size - at + 1}, farNumbers()...) {
					expectRead(t, f, i, at, n)
				}
			}
		}
	}
}

func TestKnownReads(t *testing.T) {
	f := busyFS()
	content := strings.Repeat("a", 32) + strings.Repeat("\x00", 32) + strings.Repeat("c", 6)
	for _, c := range []struct {
		i, at, n int
		want     string
	}{
		{1, 0, 70, content}, {1, 0, 69, content[:69]}, {1, 0, 71, content}, {1, 0, math.MaxInt, content}, {1, 0, 0, ""}, {1, 0, -1, ""}, {1, -1, 5, ""}, {1, -1, -1, ""},
		{1, 31, 2, "a\x00"}, {1, 32, 32, content[32:64]}, {1, 63, 2, "\x00c"}, {1, 69, 1, "c"}, {1, 69, 2, "c"}, {1, 70, 1, ""}, {1, 71, 1, ""}, {1, 64, math.MaxInt, "cccccc"},
		{1, math.MaxInt, math.MaxInt, ""}, {1, math.MaxInt, 1, ""}, {1, math.MinInt, math.MaxInt, ""}, {1, math.MinInt, math.MinInt, ""}, {1, 3, math.MinInt, ""},
		{0, 0, 40, strings.Repeat("a", 32)}, {5, 10, 40, "aaaaaaa"}, {15, 3, 40, strings.Repeat("\x00", 17)}, {17, 0, 40, ""}, {6, 31, 40, "a\x00"}, {2, 0, 40, ""}, {20, 0, 40, ""},
		{11, 95, 66, "c" + strings.Repeat("d", 32) + strings.Repeat("e", 32) + "f"}, {11, 255, 66, "h"}, {11, 256, 66, ""},
	} {
		if got := impl.ReadBytes(f, c.i, c.at, c.n); got != c.want || wantReadBytes(f, c.i, c.at, c.n) != c.want {
			t.Errorf("ReadBytes(%d, %d, %d) is %q", c.i, c.at, c.n, got)
		}
	}
}

// TestWritesAreRead lays s into the content as a string, at all edges of blocks: over bytes, over holes, and behind the end.
func TestWritesAreRead(t *testing.T) {
	for k, f := range shapedFiles() {
		old := wantReadBytes(f, 1, 0, 256)
		for _, at := range edgesOf() {
			for _, length := range []int{1, 2, 31, 32, 33, 63, 64, 65, 66, 97, 256} {
				if at+length > 256 {
					continue
				}
				s := marked(k+at, length)
				want := old + strings.Repeat("\x00", max(0, at-len(old)))
				want = want[:at] + s + want[min(at+length, len(want)):]
				g, code := impl.WriteBytes(f, 1, at, s)
				if got := impl.ReadBytes(g, 1, 0, 256); code != 0 || got != want || impl.ReadBytes(g, 1, at, length) != s || g.Inodes[1].Size != len(want) {
					t.Errorf("after a write of %d bytes at %d, with the code %d, %q is read and not %q", length, at, code, got, want)
				}
				expectWritten(t, f, 1, at, s)
			}
		}
	}
}

// TestWrittenBlocks checks that a block stays where it is, and that only the holes that are touched become blocks.
func TestWrittenBlocks(t *testing.T) {
	f := fileOf(emptyFS(), 1, 2, 250, 0x2d)
	for _, c := range []struct {
		at, length int
		want       []int
	}{
		{0, 32, []int{41, -1, 39, 38, -1, 36, -1, -1}}, {31, 1, []int{41, -1, 39, 38, -1, 36, -1, -1}}, {31, 2, []int{41, 28, 39, 38, -1, 36, -1, -1}},
		{32, 1, []int{41, 28, 39, 38, -1, 36, -1, -1}}, {63, 1, []int{41, 28, 39, 38, -1, 36, -1, -1}}, {63, 2, []int{41, 28, 39, 38, -1, 36, -1, -1}},
		{64, 64, []int{41, -1, 39, 38, -1, 36, -1, -1}}, {64, 65, []int{41, -1, 39, 38, 28, 36, -1, -1}}, {63, 66, []int{41, 28, 39, 38, 29, 36, -1, -1}},
		{160, 96, []int{41, -1, 39, 38, -1, 36, 28, 29}}, {224, 1, []int{41, -1, 39, 38, -1, 36, -1, 28}}, {255, 1, []int{41, -1, 39, 38, -1, 36, -1, 28}},
		{0, 256, []int{41, 28, 39, 38, 29, 36, 30, 31}}, {0, 0, []int{41, -1, 39, 38, -1, 36, -1, -1}}, {40, 0, []int{41, -1, 39, 38, -1, 36, -1, -1}},
	} {
		g, code := impl.WriteBytes(f, 1, c.at, strings.Repeat("\x00", c.length))
		if got := g.Inodes[1].Blocks; code != 0 || !slices.Equal(got, c.want) {
			t.Errorf("after a write of %d bytes at %d, with the code %d, the blocks are %v", c.length, c.at, code, got)
		}
	}
	for _, c := range []struct {
		at   int
		size int
		want []int
	}{
		{20, 24, []int{0}}, {32, 36, []int{-1, 0}}, {28, 32, []int{0}}, {29, 33, []int{0, 1}}, {100, 104, []int{-1, -1, -1, 0}}, {252, 256, []int{-1, -1, -1, -1, -1, -1, -1, 0}},
	} {
		g, code := impl.WriteBytes(fileFS(), 1, c.at, "wxyz")
		if n := g.Inodes[1]; code != 0 || n.Size != c.size || !slices.Equal(n.Blocks, c.want) {
			t.Errorf("after a write at %d, with the code %d, the file is %v", c.at, code, n)
		}
	}
}

// TestEmptyWrites checks that they change nothing, also behind the end, and over holes.
func TestEmptyWrites(t *testing.T) {
	for _, f := range append(someFS(), shapedFiles()[:9]...) {
		for i := range 20 {
			for _, at := range append([]int{f.Inodes[i].Size, f.Inodes[i].Size + 1}, append(edgesOf(), farNumbers()...)...) {
				expectWritten(t, f, i, at, "")
			}
		}
		for at := -1; at <= 257; at++ {
			got, code := impl.WriteBytes(f, 0, at, "")
			if want := map[int]int{-1: impl.ErInvalid, 257: impl.ErBig}[at]; code != want || !equalFS(got, f) {
				t.Errorf("an empty write at %d has the code %d", at, code)
			}
		}
	}
}

// TestWritesOfAnyObject has directories, objects with lists, and owners whose quotas are reached or exceeded.
func TestWritesOfAnyObject(t *testing.T) {
	for _, f := range someFS() {
		for i := range 20 {
			for _, at := range edgesOf() {
				for _, length := range []int{1, 32, 34, 70, 200, 256, 257} {
					expectWritten(t, f, i, at, marked(i+at, length))
				}
			}
		}
	}
}

func TestWriteLimits(t *testing.T) {
	texts := []string{"", "x", "wxyz", marked(1, 255), marked(2, 256), marked(3, 257), marked(4, 5000)}
	for _, f := range append(someFS(), shapedFiles()[:12]...) {
		for _, i := range []int{0, 1, 2, 11, 19} {
			for _, s := range texts {
				for _, at := range append([]int{256 - len(s) - 1, 256 - len(s), 256 - len(s) + 1, math.MaxInt - len(s), math.MaxInt - len(s) + 1}, farNumbers()...) {
					expectWritten(t, f, i, at, s)
				}
			}
		}
	}
	for _, c := range []struct {
		at, length, want int
	}{
		{255, 1, 0}, {256, 1, impl.ErBig}, {256, 0, 0}, {257, 0, impl.ErBig}, {0, 256, 0}, {0, 257, impl.ErBig}, {1, 255, 0}, {1, 256, impl.ErBig}, {-1, 0, impl.ErInvalid}, {-1, 257, impl.ErInvalid},
		{math.MinInt, 1, impl.ErInvalid}, {math.MinInt, 257, impl.ErInvalid}, {math.MaxInt, 0, impl.ErBig}, {math.MaxInt, 1, impl.ErBig}, {math.MaxInt - 5, 100, impl.ErBig},
	} {
		if g, code := impl.WriteBytes(fileFS(), 1, c.at, marked(0, c.length)); code != c.want || code != 0 && !equalFS(g, fileFS()) {
			t.Errorf("a write of %d bytes at %d has the code %d", c.length, c.at, code)
		}
	}
}

// TestResizeFile has all new sizes for files of all shapes.
func TestResizeFile(t *testing.T) {
	for _, f := range shapedFiles() {
		old := wantReadBytes(f, 1, 0, 256)
		for size := range 257 {
			g, code := impl.ResizeFile(f, 1, size)
			want := (old + strings.Repeat("\x00", 256))[:size]
			if got := impl.ReadBytes(g, 1, 0, 1000); code != 0 || got != want {
				t.Errorf("after a resize from %d to %d, with the code %d, %q is read", len(old), size, code, got)
			}
			expectResized(t, f, 1, size)
		}
	}
	for _, f := range someFS() {
		for i := range 20 {
			for _, size := range append(edgesOf(), farNumbers()...) {
				expectResized(t, f, i, size)
			}
		}
	}
}

// TestCutBytesAreZeros cuts off and grows again; the bytes that were cut off must be zeros in Data at once.
func TestCutBytesAreZeros(t *testing.T) {
	for _, f := range shapedFiles() {
		old := wantReadBytes(f, 1, 0, 256)
		for _, size := range edgesOf() {
			if size >= len(old) {
				continue
			}
			cut, code := impl.ResizeFile(f, 1, size)
			if code != 0 || strings.Trim(strings.Join(cut.Data, ""), "\x00") != "" && size == 0 {
				t.Errorf("after a resize from %d to %d, with the code %d, the data is %q", len(old), size, code, cut.Data)
			}
			for k, b := range f.Inodes[1].Blocks {
				if b != -1 && cut.Data[b] != sector(f.Data[b][:min(32, max(0, size-32*k))]) {
					t.Errorf("after a resize from %d to %d, block %d has %q", len(old), size, b, cut.Data[b])
				}
			}
			for _, again := range []int{size + 1, len(old), 256} {
				grown, code := impl.ResizeFile(cut, 1, again)
				want := old[:size] + strings.Repeat("\x00", again-size)
				if got := impl.ReadBytes(grown, 1, 0, 256); code != 0 || got != want || !slices.Equal(grown.Data, cut.Data) {
					t.Errorf("after a resize from %d to %d and %d, with the code %d, %q is read", len(old), size, again, code, got)
				}
				blocks := slices.Repeat([]int{-1}, (again+31)/32)
				copy(blocks, cut.Inodes[1].Blocks)
				if !slices.Equal(grown.Inodes[1].Blocks, blocks) {
					t.Errorf("after a resize from %d to %d and %d, the blocks are %v", len(old), size, again, grown.Inodes[1].Blocks)
				}
			}
		}
	}
}

func TestResizeLimits(t *testing.T) {
	for _, c := range [][2]int{{0, 0}, {256, 0}, {257, impl.ErBig}, {math.MaxInt, impl.ErBig}, {1 << 32, impl.ErBig}, {-1, impl.ErInvalid}, {math.MinInt, impl.ErInvalid}, {-256, impl.ErInvalid}} {
		for _, f := range shapedFiles() {
			if g, code := impl.ResizeFile(f, 1, c[0]); code != c[1] || code != 0 && !equalFS(g, f) || code == 0 && g.Inodes[1].Size != c[0] {
				t.Errorf("a resize to %d has the code %d", c[0], code)
			}
		}
	}
}

func TestFreeObject(t *testing.T) {
	for _, f := range append(someFS(), shapedFiles()...) {
		for i := -1; i <= 20; i++ {
			expectFreed(t, f, i)
		}
		for i := 1; i < 20; i++ {
			g, code := impl.FreeObject(f, i)
			if f.Inodes[i].Kind == 0 {
				if code != impl.ErInvalid {
					t.Errorf("FreeObject of inode %d, which is free, has the code %d", i, code)
				}
				continue
			}
			if code != 0 || nameInode(g.Inodes[i]) != nameInode(impl.Inode{}) {
				t.Errorf("FreeObject of inode %d has the code %d, and leaves %v", i, code, g.Inodes[i])
			}
			for _, b := range f.Inodes[i].Blocks {
				if b != -1 && g.Data[b] != sector("") {
					t.Errorf("FreeObject of inode %d leaves %q in block %d", i, g.Data[b], b)
				}
			}
			if again, code := impl.FreeObject(g, i); code != impl.ErInvalid || !equalFS(again, g) {
				t.Errorf("the second FreeObject of inode %d has the code %d", i, code)
			}
		}
		if g, code := impl.FreeObject(f, 0); code != impl.ErInvalid || !equalFS(g, f) {
			t.Errorf("FreeObject of the root has the code %d", code)
		}
	}
}

func TestMoveOwner(t *testing.T) {
	for _, f := range append(someFS(), shapedFiles()...) {
		for i := -1; i <= 20; i++ {
			for u := -1; u <= 4; u++ {
				expectMoved(t, f, i, u)
			}
		}
	}
	for _, f := range shapedFiles() {
		for u := range 4 {
			g, code := impl.MoveOwner(f, 1, u)
			if got := impl.ReadBytes(g, 1, 0, 256); code != 0 || got != wantReadBytes(f, 1, 0, 256) || g.Inodes[1].Uid != u || impl.BlocksOf(g, u) != len(impl.UsedBlocks(f.Inodes[1])) {
				t.Errorf("after a move to user %d, with the code %d, the file is %v with %q", u, code, g.Inodes[1], got)
			}
			back, code := impl.MoveOwner(g, 1, 0)
			if got := impl.ReadBytes(back, 1, 0, 256); code != 0 || got != wantReadBytes(f, 1, 0, 256) || back.Inodes[1].Uid != 0 {
				t.Errorf("after a move to user %d and back, with the code %d, %q is read", u, code, got)
			}
		}
	}
}

// TestMovesToTheOwner checks that nothing changes, also where no block could be allocated.
func TestMovesToTheOwner(t *testing.T) {
	for _, f := range someFS() {
		f.Quotas = quotas(0, 0)
		for i, n := range f.Inodes {
			want := 0
			if n.Kind == 0 {
				want = impl.ErInvalid
			}
			if g, code := impl.MoveOwner(f, i, n.Uid); code != want || !equalFS(g, f) {
				t.Errorf("MoveOwner of inode %d to its owner has the code %d", i, code)
			}
		}
	}
}

// contentCodes returns the codes of the four functions that change contents, and what they return as the file system.
func contentCodes(f impl.FS, i int, at int, s string, size int, u int) ([]int, []impl.FS) {
	written, writeCode := impl.WriteBytes(f, i, at, s)
	resized, resizeCode := impl.ResizeFile(f, i, size)
	freed, freeCode := impl.FreeObject(f, i)
	moved, moveCode := impl.MoveOwner(f, i, u)
	return []int{writeCode, resizeCode, freeCode, moveCode}, []impl.FS{written, resized, freed, moved}
}

func expectAllRefused(t *testing.T, f impl.FS, i int, at int, s string) {
	t.Helper()
	codes, systems := contentCodes(f, i, at, s, at, at)
	changes := func(g impl.FS) bool { return !equalFS(g, f) }
	if !slices.Equal(codes, []int{1, 1, 1, 1}) || slices.ContainsFunc(systems, changes) {
		t.Errorf("with inode %d, %d and %.20q, the codes are %v, for %s", i, at, s, codes, briefFS(f))
	}
	if got := impl.ReadBytes(f, i, at, 5); got != "" {
		t.Errorf("ReadBytes of inode %d at %d is %q, for %s", i, at, got, briefFS(f))
	}
}

// TestContentsRefuse has inodes that are not in use, and file systems that are not valid.
func TestContentsRefuse(t *testing.T) {
	for _, s := range []string{"", "x", marked(0, 300)} {
		for _, at := range []int{0, 3, -1, 300, math.MaxInt} {
			for _, i := range foreignNumbers() {
				expectAllRefused(t, busyFS(), i, at, s)
			}
		}
	}
	for _, f := range brokenFS() {
		for i := -1; i <= 20; i += 7 {
			expectAllRefused(t, f, i, 1, "x")
		}
		expectAllRefused(t, f, 1, 300, marked(0, 300))
		expectAllRefused(t, f, 1, 0, "")
	}
	for _, c := range brokenChanges() {
		expectAllRefused(t, c.of(busyFS()), 1, 0, "x")
	}
}

// TestContentsOfChangedFS has valid file systems that may look wrong.
func TestContentsOfChangedFS(t *testing.T) {
	for _, c := range allowedChanges() {
		f := c.of(busyFS())
		for _, i := range []int{0, 1, 6, 11, 16} {
			expectRead(t, f, i, 0, 300)
			expectWritten(t, f, i, 30, "four")
			expectResized(t, f, i, 33)
			expectFreed(t, f, i)
			expectMoved(t, f, i, 1)
		}
	}
}

// TestFirstConditions has calls for which two conditions fail.
func TestFirstConditions(t *testing.T) {
	none := fileOf(emptyFS(), 1, 0, 70, 5)
	none.Quotas = quotas(0, 0)
	broken := cloneFS(none)
	broken.Tick = -1
	long, most := marked(0, 257), marked(0, 256)
	for _, c := range []struct {
		f     impl.FS
		i, at int
		s     string
		want  int
	}{
		{none, 1, -1, long, impl.ErInvalid}, {none, 1, -1, most, impl.ErInvalid}, {none, 1, -1, "", impl.ErInvalid}, {none, 1, 0, long, impl.ErBig}, {none, 1, 256, "x", impl.ErBig},
		{none, 1, 40, marked(0, 217), impl.ErBig}, {none, 1, 40, marked(0, 216), impl.ErQuota}, {none, 1, 0, most, impl.ErQuota}, {none, 1, 256, "", impl.ErOk}, {none, 1, 257, "", impl.ErBig},
		{none, 2, 0, long, impl.ErInvalid}, {none, 2, 257, "", impl.ErInvalid}, {none, 2, 0, "x", impl.ErInvalid}, {none, 20, 0, long, impl.ErInvalid}, {none, -1, 0, long, impl.ErInvalid},
		{broken, 1, 0, long, impl.ErInvalid}, {broken, 1, 0, most, impl.ErInvalid}, {broken, 1, 0, "", impl.ErInvalid}, {none, 1, 40, "", impl.ErOk}, {none, 1, 0, "x", impl.ErOk}, {none, 1, 40, "x", impl.ErQuota},
	} {
		if g, code := impl.WriteBytes(c.f, c.i, c.at, c.s); code != c.want || code != 0 && !equalFS(g, c.f) {
			t.Errorf("WriteBytes of inode %d at %d, %d bytes, has the code %d and not %d", c.i, c.at, len(c.s), code, c.want)
		}
	}
	for _, c := range []struct {
		f          impl.FS
		i, u, want int
	}{
		{none, 1, -1, impl.ErInvalid}, {none, 1, 4, impl.ErInvalid}, {none, 1, 3, impl.ErQuota}, {none, 1, 0, impl.ErOk}, {none, 2, 0, impl.ErInvalid}, {none, 2, 3, impl.ErInvalid},
		{broken, 1, 0, impl.ErInvalid}, {broken, 1, 3, impl.ErInvalid}, {none, 20, 3, impl.ErInvalid}, {none, -1, 0, impl.ErInvalid}, {none, 0, 3, impl.ErOk},
	} {
		if g, code := impl.MoveOwner(c.f, c.i, c.u); code != c.want || code != 0 && !equalFS(g, c.f) {
			t.Errorf("MoveOwner of inode %d to %d has the code %d and not %d", c.i, c.u, code, c.want)
		}
	}
	for _, c := range []struct {
		f             impl.FS
		i, size, want int
	}{
		{none, 2, 257, impl.ErInvalid}, {none, 20, 257, impl.ErInvalid}, {broken, 1, 257, impl.ErInvalid}, {none, 1, 257, impl.ErBig}, {none, 1, -1, impl.ErInvalid}, {none, 1, 256, impl.ErOk},
	} {
		if g, code := impl.ResizeFile(c.f, c.i, c.size); code != c.want || code != 0 && !equalFS(g, c.f) {
			t.Errorf("ResizeFile of inode %d to %d has the code %d and not %d", c.i, c.size, code, c.want)
		}
	}
}

// contentHistory is a file system, and the contents that its objects should have.
type contentHistory struct {
	f        impl.FS
	contents map[int]string
}

// step makes one random call, of which it returns the code; the contents change only if that is ErOk.
func (h *contentHistory) step(t *testing.T, random *rand.Rand) int {
	t.Helper()
	i, at, u := random.Intn(20), random.Intn(270)-4, random.Intn(4)
	old, code, next := h.contents[i], 0, ""
	isUsed := h.f.Inodes[i].Kind != 0
	before, name := h.f, ""
	switch random.Intn(6) {
	case 0, 1:
		s := marked(random.Intn(250), random.Intn(80)*random.Intn(2))
		name = fmt.Sprintf("a write of %d bytes at %d", len(s), at)
		h.f, code = impl.WriteBytes(before, i, at, s)
		if next = old; s != "" && code == 0 {
			next += strings.Repeat("\x00", max(0, at-len(old)))
			next = next[:at] + s + next[min(at+len(s), len(next)):]
		}
	case 2, 3:
		name = fmt.Sprint("a resize to ", at)
		h.f, code = impl.ResizeFile(before, i, at)
		next = (old + strings.Repeat("\x00", 300))[:max(0, at)]
	case 4:
		name = fmt.Sprint("a move to ", u)
		h.f, code = impl.MoveOwner(before, i, u)
		next = old
	default:
		h.f, code = impl.FreeObject(before, i)
	}
	if code != 0 && !equalFS(h.f, before) || code == 0 && !isUsed {
		t.Errorf("%s of inode %d, with the code %d, leads to %s", name, i, code, briefFS(h.f))
	}
	if code == 0 {
		h.contents[i] = next
	}
	return code
}

// TestHistoriesOfContents reads all contents after each call, so that none of them may change with another.
func TestHistoriesOfContents(t *testing.T) {
	random := rand.New(rand.NewSource(10))
	codes := map[int]int{}
	for range 60 {
		h := contentHistory{emptyFS(), map[int]string{}}
		h.f.Quotas = []impl.Quota{{Blocks: 14}, {Blocks: 9}, {Blocks: 3}, {Blocks: 12}}
		for range 200 {
			if i := random.Intn(20); h.f.Inodes[i].Kind == 0 {
				h.f.Inodes[i] = inodeOf(1+random.Intn(2), 420, random.Intn(4), random.Intn(4), 1, 0, random.Intn(9))
			}
			codes[h.step(t, random)]++
			if !impl.IsFS(h.f) || !wantFS(h.f) {
				t.Fatalf("%s is not valid", nameFS(h.f))
			}
			for i := range 20 {
				if got := impl.ReadBytes(h.f, i, 0, 256); got != h.contents[i] {
					t.Fatalf("inode %d has the content %q and not %q", i, got, h.contents[i])
				}
			}
		}
	}
	if min(codes[0], codes[1], codes[7], codes[9]) < 100 || len(codes) != 4 {
		t.Errorf("the codes are %v", codes)
	}
}
