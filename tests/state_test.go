package tests

import (
	"fmt"
	"math"
	"math/rand"
	"slices"
	"strings"
	"testing"

	"loop.example/g00817/impl"
)

// quotas returns four quotas with these Inodes and Blocks.
func quotas(inodes int, blocks int) []impl.Quota {
	return slices.Repeat([]impl.Quota{{Inodes: inodes, Blocks: blocks}}, 4)
}

// emptyFS returns a file system that has only a root directory, not by NewFS.
func emptyFS() impl.FS {
	f := impl.FS{Quotas: quotas(5, 14), Inodes: make([]impl.Inode, 20), Data: slices.Repeat([]string{sector("")}, 56)}
	f.Inodes[0] = inodeOf(2, 493, 0, 0, 1, 0, 0)
	return f
}

func cloneFS(f impl.FS) impl.FS {
	f.Quotas, f.Inodes, f.Data = slices.Clone(f.Quotas), slices.Clone(f.Inodes), slices.Clone(f.Data)
	for i := range f.Inodes {
		f.Inodes[i] = cloneInode(f.Inodes[i])
	}
	return f
}

// nameFS returns a text that is the same exactly for equal file systems: nil and empty slices are printed alike.
func nameFS(f impl.FS) string { return fmt.Sprintf("%d %v %v %q", f.Tick, f.Quotas, f.Inodes, f.Data) }

func briefFS(f impl.FS) string { return brief(nameFS(f)) }

// withObject returns f with another inode i, whose blocks are filled with content that has no zeros.
func withObject(f impl.FS, i int, n impl.Inode) impl.FS {
	f = cloneFS(f)
	f.Inodes[i] = n
	for k, b := range n.Blocks {
		if b != -1 {
			f.Data[b] = sector(strings.Repeat(string(rune('a'+k)), min(n.Size-32*k, 32)))
		}
	}
	return f
}

// busyFS returns a file system in which all users have blocks, and no pool is full.
func busyFS() impl.FS {
	lists := someAcls()
	f := emptyFS()
	f.Tick = 7
	f.Quotas = []impl.Quota{{Inodes: 5, Blocks: 14}, {Inodes: 4, Blocks: 3}, {Inodes: 1, Blocks: 13}, {Inodes: 0, Blocks: 0}}
	f = withObject(f, 0, inodeOf(2, 493, 0, 0, 1, 32, 5, 0))
	f = withObject(f, 1, inodeOf(1, 420, 0, 1, 1, 70, 5, 2, -1, 1))
	f = withObject(f, 5, withLists(inodeOf(2, 1023, 1, 1, 1, 17, 6, 14), lists[3], lists[4]))
	f = withObject(f, 6, withLists(inodeOf(1, 384, 1, 2, 2, 33, 9, 27, -1), lists[5], nil))
	f = withObject(f, 7, inodeOf(1, 420, 2, 2, 1, 31, 6, 41))
	f = withObject(f, 11, inodeOf(1, 420, 2, 2, 1, 256, 6, 38, 37, 36, 35, 34, 33, 32, 31))
	f = withObject(f, 15, inodeOf(1, 420, 3, 3, 1, 20, 6, -1))
	f = withObject(f, 17, inodeOf(1, 0, 0, 0, 0, 0, 0))
	return withObject(f, 19, inodeOf(1, 420, 3, 3, 0, 64, 6, 55, 42))
}

// fullFS returns a file system in which all inodes and all blocks are in use.
func fullFS() impl.FS {
	f := emptyFS()
	f.Tick = 1000000000
	for u := range 4 {
		blocks := make([]int, 14)
		for k := range blocks {
			blocks[k] = 14*u + 13 - k
		}
		f = withObject(f, 5*u, inodeOf(2, 493, u, u, 1, 256, 3, blocks[:8]...))
		f = withObject(f, 5*u+1, inodeOf(1, 420, u, u, 1, 161+u, 3, blocks[8:]...))
		for k := 2; k < 5; k++ {
			f = withObject(f, 5*u+k, inodeOf(1+k%2, 420, (u+k)%4, u, k, 0, 3))
		}
	}
	return f
}

// someFS returns a few valid file systems.
func someFS() []impl.FS {
	none, few := emptyFS(), busyFS()
	none.Quotas = quotas(0, 0)
	few.Quotas = quotas(2, 4)
	return []impl.FS{emptyFS(), none, busyFS(), few, fullFS()}
}

// setByte returns data with another byte at the index at.
func setByte(data string, at int, x byte) string {
	changed := []byte(data)
	changed[at] = x
	return string(changed)
}

// fsChange is a change of a file system, and what it is called.
type fsChange struct {
	name  string
	apply func(f *impl.FS)
}

func (c fsChange) of(f impl.FS) impl.FS {
	f = cloneFS(f)
	c.apply(&f)
	return f
}

// brokenLimits returns changes of a number, of the length of a list, or of an element, after which no file system is valid.
func brokenLimits() []fsChange {
	var changes []fsChange
	add := func(name string, x int, apply func(f *impl.FS)) {
		changes = append(changes, fsChange{fmt.Sprint(name, " ", x), apply})
	}
	for _, x := range []int{math.MinInt, -1000000000, -1, 1000000001, 1 << 32, math.MaxInt} {
		add("Tick", x, func(f *impl.FS) { f.Tick = x })
	}
	for u := range 4 {
		for _, x := range []int{math.MinInt, -1, 6, 15, 256, 1 << 32, math.MaxInt} {
			add(fmt.Sprintf("Inodes of quota %d are", u), x, func(f *impl.FS) { f.Quotas[u].Inodes = x })
			if x != 6 {
				add(fmt.Sprintf("Blocks of quota %d are", u), x, func(f *impl.FS) { f.Quotas[u].Blocks = x })
			}
		}
	}
	for _, x := range []int{0, 1, 3, 5, 8, 100000} {
		add("number of Quotas", x, func(f *impl.FS) { f.Quotas = resized(f.Quotas, x) })
	}
	for _, x := range []int{0, 1, 19, 21, 40, 100000} {
		add("number of Inodes", x, func(f *impl.FS) { f.Inodes = resized(f.Inodes, x) })
	}
	for _, x := range []int{0, 1, 55, 57, 112, 100000} {
		add("number of Data", x, func(f *impl.FS) {
			f.Data = resized(f.Data, x)
			for b := 56; b < x; b++ {
				f.Data[b] = sector("")
			}
		})
	}
	for b := range 56 {
		for _, x := range []int{0, 1, 31, 33, 64} {
			add(fmt.Sprintf("Data %d has the length", b), x, func(f *impl.FS) { f.Data[b] = (f.Data[b] + sector(""))[:x] })
		}
	}
	return changes
}

// resized returns n elements: those of l, and zero values for what is missing.
func resized[T any](l []T, n int) []T {
	if n <= len(l) {
		return slices.Clone(l[:n])
	}
	return append(slices.Clone(l), make([]T, n-len(l))...)
}

// wrongInodes returns inodes that are not valid, each by one number.
func wrongInodes() []impl.Inode {
	return []impl.Inode{
		{Links: 1}, {Kind: -1}, {Kind: 3}, {Kind: 1, Links: 1001}, {Kind: 2, Links: -1}, {Kind: 2, Mode: 2048}, {Kind: 1, Mode: 512}, {Kind: 2, Uid: 4},
		{Kind: 2, Uid: -1}, {Kind: 1, Gid: 4}, {Kind: 2, Tick: 1000000001}, {Kind: 2, Size: 1}, {Kind: 2, Size: 257, Blocks: slices.Repeat([]int{-1}, 9)},
		{Kind: 2, Size: 0, Blocks: []int{-1}}, {Kind: 2, Size: 32, Blocks: []int{-2}}, {Blocks: []int{-1}}, {Kind: 1, Acl: acl([3]int{1, 1, 1})},
		{Kind: 1, Default: acl([3]int{3, 0, 7})}, {Kind: 2, Default: longAcls()[1]}, {Kind: 2, Size: math.MaxInt}, {Kind: 2, Size: math.MinInt},
	}
}

// brokenInodes returns changes of the inodes of busyFS after which it is not valid.
func brokenInodes() []fsChange {
	changes := []fsChange{
		{"no root", func(f *impl.FS) { f.Inodes[0], f.Data[0] = impl.Inode{}, sector("") }},
		{"the root is a file", func(f *impl.FS) { f.Inodes[0].Kind = 1 }},
		{"the root is an empty file", func(f *impl.FS) { f.Inodes[0], f.Data[0] = inodeOf(1, 493, 0, 0, 1, 0, 0), sector("") }},
		{"the root is of user 1", func(f *impl.FS) { f.Inodes[0].Uid = 1 }},
		{"the file of user 0 is of user 3", func(f *impl.FS) { f.Inodes[1].Uid = 3 }},
		{"the directory of user 1 is of user 0", func(f *impl.FS) { f.Inodes[5].Uid = 0 }},
		{"the file with the pool of its inode", func(f *impl.FS) { f.Inodes[7].Uid = 1 }},
		{"the large file is of user 1", func(f *impl.FS) { f.Inodes[11].Uid = 1 }},
		{"a free inode whose block is not empty", func(f *impl.FS) { f.Inodes[7] = impl.Inode{} }},
		{"a file without its first block", func(f *impl.FS) { f.Inodes[1].Blocks[0] = -1 }},
		{"a file without its last block", func(f *impl.FS) { f.Inodes[1].Blocks[2] = -1 }},
		{"a directory without its block", func(f *impl.FS) { f.Inodes[0].Size, f.Inodes[0].Blocks = 0, nil }},
	}
	for i := range 20 {
		for k, n := range wrongInodes() {
			name := fmt.Sprintf("inode %d is wrong inode %d", i, k)
			changes = append(changes, fsChange{name, func(f *impl.FS) { f.Inodes[i] = n }})
		}
	}
	return changes
}

// brokenBlocks returns changes after which an inode of busyFS has a block that is not its own.
func brokenBlocks() []fsChange {
	var changes []fsChange
	add := func(i int, n impl.Inode) {
		name := fmt.Sprintf("inode %d is %v", i, n)
		changes = append(changes, fsChange{name, func(f *impl.FS) { f.Inodes[i] = n }})
	}
	for u := range 4 {
		for _, b := range []int{3, 12, 13, 15, 20, 25, 26, 28, 29, 40, 43, 53, 54, 56, 57, 69, 70, 255, 256, 998, 999} {
			if b/14 != u {
				add(2, inodeOf(1, 420, u, 0, 1, 32, 0, b))
				add(18, inodeOf(2, 493, u, u, 1, 96, 0, -1, b, 14*u+12))
				add(18, inodeOf(2, 493, u, u, 1, 96, 0, 14*u+12, -1, b))
			}
		}
	}
	for b, data := range busyFS().Data {
		if data != sector("") {
			add(2, inodeOf(1, 420, b/14, 0, 1, 32, 0, b))
			add(18, inodeOf(1, 420, b/14, 0, 1, 64, 0, b, -1))
		}
	}
	changes = append(changes,
		fsChange{"two new files share an empty block", func(f *impl.FS) {
			f.Inodes[2], f.Inodes[3] = inodeOf(1, 420, 1, 0, 1, 32, 0, 20), inodeOf(1, 420, 1, 0, 1, 32, 0, 20)
		}},
		fsChange{"three files share an empty block", func(f *impl.FS) {
			f.Inodes[2], f.Inodes[3], f.Inodes[4] = inodeOf(1, 420, 1, 0, 1, 32, 0, 20), inodeOf(1, 420, 1, 0, 1, 64, 0, -1, 20), inodeOf(2, 420, 1, 0, 1, 33, 0, 20, -1)
		}},
		fsChange{"the last of two blocks is shared", func(f *impl.FS) {
			f.Inodes[18], f.Inodes[9] = inodeOf(1, 420, 0, 0, 1, 64, 0, 12, 13), inodeOf(2, 420, 0, 0, 1, 64, 0, 11, 13)
		}},
	)
	return changes
}

// brokenBytes returns changes of busyFS after which a byte is not 0 that must be.
func brokenBytes() []fsChange {
	var changes []fsChange
	add := func(b int, at int, x byte) {
		name := fmt.Sprintf("byte %d of block %d is %d", at, b, x)
		changes = append(changes, fsChange{name, func(f *impl.FS) { f.Data[b] = setByte(f.Data[b], at, x) }})
	}
	for b, data := range busyFS().Data {
		if data == sector("") {
			for _, at := range []int{0, 1, 15, 30, 31} {
				add(b, at, 1)
				add(b, at, 128)
				add(b, at, 255)
			}
		}
	}
	// The last blocks of the files of 70, 17 and 31 bytes: the other files end with a block, or with a hole.
	for b, first := range map[int]int{1: 6, 14: 17, 41: 31} {
		for at := first; at < 32; at++ {
			add(b, at, 1)
			add(b, at, '0')
			add(b, at, 255)
		}
	}
	return changes
}

// brokenChanges returns the changes after which busyFS is not valid, each by one rule.
func brokenChanges() []fsChange {
	return slices.Concat(brokenLimits(), brokenInodes(), brokenBlocks(), brokenBytes())
}

// brokenFS returns file systems that are not valid, a few of them by all rules.
func brokenFS() []impl.FS {
	least := slices.Repeat([]impl.Inode{inodeOf(math.MinInt, math.MinInt, math.MinInt, math.MinInt, math.MinInt, math.MinInt, math.MinInt, math.MinInt)}, 20)
	systems := []impl.FS{
		{}, {Tick: 1}, {Quotas: quotas(5, 14)}, {Inodes: emptyFS().Inodes}, {Data: emptyFS().Data}, {Quotas: []impl.Quota{}, Inodes: []impl.Inode{}, Data: []string{}},
		{Quotas: quotas(5, 14), Inodes: make([]impl.Inode, 20), Data: make([]string, 56)}, {Quotas: quotas(5, 14), Inodes: least, Data: emptyFS().Data},
		{Tick: math.MaxInt, Quotas: quotas(math.MaxInt, math.MaxInt), Inodes: least, Data: oddTexts()},
		{Quotas: make([]impl.Quota, 100000), Inodes: make([]impl.Inode, 100000), Data: make([]string, 100000)},
		{Quotas: quotas(5, 14), Inodes: slices.Repeat([]impl.Inode{{Kind: 2, Blocks: make([]int, 1000)}}, 20), Data: emptyFS().Data},
	}
	for k, c := range brokenChanges() {
		if k%3 == 0 {
			systems = append(systems, c.of(busyFS()))
		}
	}
	return systems
}

// allowedChanges returns changes after which busyFS is valid, although they may look wrong.
func allowedChanges() []fsChange {
	changes := []fsChange{
		{"no change", func(f *impl.FS) {}},
		{"Tick 0, before that of the inodes", func(f *impl.FS) { f.Tick = 0 }},
		{"Tick 1000000000", func(f *impl.FS) { f.Tick = 1000000000 }},
		{"no quotas for what is in use", func(f *impl.FS) { f.Quotas = quotas(0, 0) }},
		{"the greatest quotas", func(f *impl.FS) { f.Quotas = quotas(5, 14) }},
		{"an empty root", func(f *impl.FS) { f.Inodes[0], f.Data[0] = inodeOf(2, 0, 0, 0, 0, 0, 0), sector("") }},
		{"a root of holes", func(f *impl.FS) { f.Inodes[0].Blocks[0], f.Data[0] = -1, sector("") }},
		{"a root of another user", func(f *impl.FS) {
			f.Inodes[0].Uid, f.Inodes[0].Blocks[0], f.Data[0], f.Data[20] = 1, 20, sector(""), sector("x")
		}},
		{"a root of all numbers", func(f *impl.FS) {
			f.Inodes[0] = withLists(inodeOf(2, 2047, 0, 3, 1000, 32, 1000000000, 0), someAcls()[8], someAcls()[7])
		}},
		{"a free inode whose block is empty", func(f *impl.FS) { f.Inodes[7], f.Data[41] = impl.Inode{}, sector("") }},
		{"a hole for an empty block", func(f *impl.FS) { f.Inodes[1].Blocks[0], f.Data[2] = -1, sector("") }},
		{"an owner of holes", func(f *impl.FS) { f.Inodes[15].Uid = 0 }},
		{"an owner of nothing", func(f *impl.FS) { f.Inodes[17].Uid = 3 }},
		{"a group of another user", func(f *impl.FS) { f.Inodes[11].Gid = 0 }},
		{"an inode in another pool", func(f *impl.FS) { f.Inodes[2], f.Inodes[11] = f.Inodes[11], impl.Inode{} }},
		{"the last block first", func(f *impl.FS) { f.Inodes[11].Blocks[0], f.Inodes[11].Blocks[7] = 31, 38 }},
		{"the edges of a pool", func(f *impl.FS) { f.Inodes[16] = inodeOf(1, 420, 2, 2, 1, 100, 0, 40, -1, 28, -1) }},
		{"all blocks are zeros", func(f *impl.FS) { f.Data = emptyFS().Data }},
		{"a size with a smaller end", func(f *impl.FS) { f.Inodes[5].Size = 32 }},
		{"a size that ends with its block", func(f *impl.FS) { f.Inodes[1].Size, f.Data[1] = 96, strings.Repeat("\xff", 32) }},
		{"holes up to the end", func(f *impl.FS) { f.Inodes[3] = inodeOf(1, 0, 0, 0, 0, 225, 0, slices.Repeat([]int{-1}, 8)...) }},
		{"a block before a hole at the end", func(f *impl.FS) { f.Inodes[6].Size, f.Data[27] = 64, strings.Repeat("\xff", 32) }},
	}
	for u := range 4 {
		for _, x := range []int{0, 1, 4, 5} {
			changes = append(changes, fsChange{fmt.Sprintf("Inodes %d of quota %d", x, u), func(f *impl.FS) { f.Quotas[u].Inodes = x }})
		}
		for _, x := range []int{0, 1, 5, 6, 13, 14} {
			changes = append(changes, fsChange{fmt.Sprintf("Blocks %d of quota %d", x, u), func(f *impl.FS) { f.Quotas[u].Blocks = x }})
		}
	}
	// All bytes of content: up to Size in the last block, and the whole of each other block.
	for b, length := range map[int]int{0: 32, 2: 32, 1: 6, 14: 17, 27: 32, 41: 31, 38: 32, 31: 32, 42: 32, 55: 32} {
		for at := range length {
			changes = append(changes, fsChange{fmt.Sprintf("byte %d of block %d", at, b), func(f *impl.FS) { f.Data[b] = setByte(f.Data[b], at, byte(7*at)) }})
		}
	}
	return changes
}

// wantFS follows the definition of a valid file system.
func wantFS(f impl.FS) bool {
	if f.Tick < 0 || f.Tick > 1000000000 || len(f.Quotas) != 4 || len(f.Inodes) != 20 || len(f.Data) != 56 {
		return false
	}
	isWrongQuota := func(q impl.Quota) bool { return q.Inodes < 0 || q.Inodes > 5 || q.Blocks < 0 || q.Blocks > 14 }
	isWrongInode := func(n impl.Inode) bool { return !wantInode(n) }
	isWrongData := func(data string) bool { return len(data) != 32 }
	if slices.ContainsFunc(f.Quotas, isWrongQuota) || slices.ContainsFunc(f.Inodes, isWrongInode) || slices.ContainsFunc(f.Data, isWrongData) {
		return false
	}
	// What remains of the data when all content is taken away must be zeros.
	rest, taken := slices.Clone(f.Data), map[int]bool{-1: true}
	for _, n := range f.Inodes {
		for k, b := range n.Blocks {
			if b != -1 && (taken[b] || b/14 != n.Uid) {
				return false
			}
			if b != -1 {
				taken[b], rest[b] = true, rest[b][min(32, n.Size-32*k):]
			}
		}
	}
	return f.Inodes[0].Kind == 2 && strings.Trim(strings.Join(rest, ""), "\x00") == ""
}

func TestStateConstants(t *testing.T) {
	got := []int{impl.InodesPerUser, impl.BlocksPerUser, impl.MaxInodes, impl.MaxBlocks}
	if !slices.Equal(got, []int{5, 14, 20, 56}) {
		t.Errorf("the constants are %v", got)
	}
}

func TestErrorName(t *testing.T) {
	names := map[int]string{
		impl.ErOk: "ok", impl.ErInvalid: "invalid", impl.ErAccess: "access", impl.ErMissing: "missing", impl.ErExists: "exists", impl.ErNotDir: "notdir",
		impl.ErIsDir: "isdir", impl.ErQuota: "quota", impl.ErSpace: "space", impl.ErBig: "big", impl.ErNotEmpty: "notempty", impl.ErName: "name",
		impl.ErPerm: "perm", impl.ErBadFd: "badfd", impl.ErBusy: "busy", impl.ErLinks: "links",
	}
	for n, want := range strings.Fields("ok invalid access missing exists notdir isdir quota space big notempty name perm badfd busy links") {
		if got := impl.ErrorName(n); got != want || names[n] != want {
			t.Errorf("ErrorName(%d) is %q", n, got)
		}
	}
	for _, n := range []int{math.MinInt, math.MinInt + 1, -1 << 32, -256, -16, -15, -2, -1, 16, 17, 31, 32, 255, 256, 1 << 32, math.MaxInt - 1, math.MaxInt} {
		if got := impl.ErrorName(n); got != "?" {
			t.Errorf("ErrorName(%d) is %q", n, got)
		}
	}
}

func TestBlockOwner(t *testing.T) {
	for _, c := range [][2]int{
		{math.MinInt, -1}, {math.MinInt + 1, -1}, {-57, -1}, {-56, -1}, {-15, -1}, {-14, -1}, {-13, -1}, {-2, -1}, {-1, -1}, {0, 0}, {1, 0}, {13, 0}, {14, 1}, {27, 1},
		{28, 2}, {41, 2}, {42, 3}, {54, 3}, {55, 3}, {56, -1}, {57, -1}, {69, -1}, {70, -1}, {999, -1}, {1000, -1}, {1 << 32, -1}, {math.MaxInt - 1, -1}, {math.MaxInt, -1},
	} {
		if got := impl.BlockOwner(c[0]); got != c[1] {
			t.Errorf("BlockOwner(%d) is %d", c[0], got)
		}
	}
	owned := map[int]int{}
	for b := -1000; b < 1000; b++ {
		owned[impl.BlockOwner(b)]++
	}
	for u := range 4 {
		if owned[u] != 14 {
			t.Errorf("%d blocks belong to user %d", owned[u], u)
		}
	}
}

func TestIsFS(t *testing.T) {
	for _, f := range someFS() {
		if !impl.IsFS(f) || !wantFS(f) {
			t.Errorf("%s is not valid", nameFS(f))
		}
	}
	for _, f := range brokenFS() {
		if impl.IsFS(f) || wantFS(f) {
			t.Errorf("%s is valid", briefFS(f))
		}
	}
}

// TestEachConditionOfFS breaks the conditions one by one.
func TestEachConditionOfFS(t *testing.T) {
	for _, c := range brokenChanges() {
		if f := c.of(busyFS()); impl.IsFS(f) || wantFS(f) {
			t.Errorf("with the change %q, %s is valid", c.name, briefFS(f))
		}
	}
	for _, c := range allowedChanges() {
		if f := c.of(busyFS()); !impl.IsFS(f) || !wantFS(f) {
			t.Errorf("with the change %q, %s is not valid", c.name, nameFS(f))
		}
	}
}

// TestBrokenLimitsOfAnyFS breaks the conditions that are the same for all file systems.
func TestBrokenLimitsOfAnyFS(t *testing.T) {
	for _, f := range someFS() {
		for _, c := range brokenLimits() {
			if impl.IsFS(c.of(f)) {
				t.Errorf("with the change %q, %s is valid", c.name, briefFS(f))
			}
		}
	}
}

// TestEndsOfContents has objects of every size, with a last block that has bytes up to each index, or with a hole.
func TestEndsOfContents(t *testing.T) {
	for size := range 257 {
		blocks := []int{30, 41, 28, 33, 29, 32, 31, 40}[:(size+31)/32]
		for kind := 1; kind <= 2; kind++ {
			f := withObject(busyFS(), 11, inodeOf(kind, 420, 2, 2, 1, size, 6, blocks...))
			f.Inodes[7] = impl.Inode{}
			for b := 28; b < 42; b++ {
				if !slices.Contains(blocks, b) {
					f.Data[b] = sector("")
				}
			}
			if !impl.IsFS(f) {
				t.Errorf("with an object of %d bytes, %s is not valid", size, nameFS(f))
			}
			if size > 0 {
				expectEnd(t, f, size, blocks[len(blocks)-1])
			}
		}
	}
}

// expectEnd changes each byte of the last block, and then makes a hole of it.
func expectEnd(t *testing.T, f impl.FS, size int, last int) {
	t.Helper()
	data := f.Data[last]
	for at := range 32 {
		f.Data[last] = setByte(data, at, 200)
		if got := impl.IsFS(f); got != (at < (size+31)%32+1) {
			t.Errorf("with another byte %d in the last block of %d bytes, valid is %v", at, size, got)
		}
	}
	holes := cloneFS(f)
	holes.Data[last] = sector("")
	holes.Inodes[11].Blocks[(size-1)/32] = -1
	if !impl.IsFS(holes) {
		t.Errorf("with a hole at the end of %d bytes, %s is not valid", size, nameFS(holes))
	}
	holes.Data[last] = data
	if impl.IsFS(holes) {
		t.Errorf("with a hole for the last block of %d bytes, its data may stay", size)
	}
}

// TestOwnersOfBlocks gives every block to an inode of each user.
func TestOwnersOfBlocks(t *testing.T) {
	for b := range 1000 {
		for u := range 4 {
			for _, i := range []int{1, 9, 19} {
				f := emptyFS()
				f.Inodes[i] = inodeOf(1, 420, u, 3-u, 1, 32, 0, b)
				if got := impl.IsFS(f); got != (b/14 == u) {
					t.Errorf("with block %d in inode %d of user %d, valid is %v", b, i, u, got)
				}
			}
		}
	}
}

// TestBlocksOfTwoInodes has all pairs of inodes, which share one of their blocks or none.
func TestBlocksOfTwoInodes(t *testing.T) {
	for i := range 20 {
		for j := range i {
			f := emptyFS()
			f.Inodes[i] = inodeOf(2, 420, 1, 0, 1, 96, 0, 14, -1, 27)
			for k, blocks := range [][]int{{15, -1, 26}, {-1, -1, -1}, {26, 15, 16}, {14, 15, 16}, {15, 14, -1}, {-1, 16, 14}, {27, 15, 16}, {15, -1, 27}, {27, 16, 14}} {
				f.Inodes[j] = inodeOf(2, 420, 1, 0, 1, 96, 0, blocks...)
				if got := impl.IsFS(f); got != (k < 3) {
					t.Errorf("with %v in inode %d and %v in inode %d, valid is %v", f.Inodes[i].Blocks, i, blocks, j, got)
				}
			}
		}
	}
}

// damaged returns f after a few random changes, most of which leave it valid only if f is lucky.
func damaged(f impl.FS, random *rand.Rand) impl.FS {
	f = cloneFS(f)
	for range random.Intn(3) {
		n, b := &f.Inodes[random.Intn(20)], random.Intn(56)
		switch random.Intn(8) {
		case 0:
			f.Data[b] = setByte(f.Data[b], random.Intn(32), byte(random.Intn(2)))
		case 1:
			f.Data[b] = sector("")
		case 2:
			n.Uid = random.Intn(4)
		case 3:
			n.Size = max(0, n.Size+random.Intn(9)-4)
		case 4:
			*n = impl.Inode{}
		case 5:
			*n = inodeOf(1+random.Intn(2), 420, b/14, 0, 1, 1+random.Intn(32), 0, b)
		case 6:
			if len(n.Blocks) > 0 {
				n.Blocks[random.Intn(len(n.Blocks))] = random.Intn(57) - 1
			}
		case 7:
			f.Quotas[random.Intn(4)].Inodes = random.Intn(8) - 1
		}
	}
	return f
}

func TestDamagedFS(t *testing.T) {
	random := rand.New(rand.NewSource(9))
	systems := someFS()
	found := 0
	for range 20000 {
		f := damaged(systems[random.Intn(len(systems))], random)
		if got := impl.IsFS(f); got != wantFS(f) {
			t.Errorf("%s: valid is %v", nameFS(f), got)
		}
		if wantFS(f) {
			found++
		}
	}
	if found < 4000 || found > 16000 {
		t.Errorf("%d of the file systems are valid", found)
	}
}

func TestNewFS(t *testing.T) {
	lists := [][]impl.Quota{quotas(5, 14), quotas(0, 0), quotas(1, 1), {{Inodes: 0, Blocks: 14}, {Inodes: 5, Blocks: 0}, {Inodes: 2, Blocks: 3}, {Inodes: 4, Blocks: 13}}}
	for u := range 4 {
		for n := range 15 {
			l := quotas(3, 7)
			l[u] = impl.Quota{Inodes: n % 6, Blocks: n}
			lists = append(lists, l)
		}
	}
	for _, l := range lists {
		want := emptyFS()
		want.Quotas = l
		if got := impl.NewFS(l); nameFS(got) != nameFS(want) || !impl.IsFS(got) || !impl.SameFS(got, want) {
			t.Errorf("NewFS(%v) is %s", l, nameFS(got))
		}
	}
}

func TestNewFSRefuses(t *testing.T) {
	lists := [][]impl.Quota{nil, {}}
	for _, n := range []int{1, 2, 3, 5, 6, 8, 20, 100000} {
		lists = append(lists, resized(quotas(5, 14), n), make([]impl.Quota, n))
	}
	for u := range 4 {
		for _, x := range []int{math.MinInt, -256, -1, 15, 16, 256, 1 << 32, math.MaxInt} {
			for _, q := range []impl.Quota{{Inodes: x}, {Blocks: x}, {Inodes: x, Blocks: x}, {Inodes: 6}, {Inodes: 5, Blocks: x}, {Inodes: x, Blocks: 14}} {
				l := quotas(5, 14)
				l[u] = q
				lists = append(lists, l)
			}
		}
	}
	for _, l := range lists {
		if got := impl.NewFS(l); nameFS(got) != nameFS(impl.FS{}) || impl.IsFS(got) {
			t.Errorf("NewFS(%s) is %s", brief(l), briefFS(got))
		}
	}
}
