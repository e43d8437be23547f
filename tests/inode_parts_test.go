package tests

import (
	"fmt"
	"math"
	"slices"
	"sync"
	"testing"

	"loop.example/g00817/impl"
)

func TestBlocksNeeded(t *testing.T) {
	for _, c := range []struct{ size, want int }{
		{-1, 0}, {0, 0}, {1, 1}, {2, 1}, {31, 1}, {32, 1}, {33, 2}, {63, 2}, {64, 2}, {65, 3}, {224, 7}, {225, 8}, {255, 8}, {256, 8}, {257, 9},
		{288, 9}, {289, 10}, {1000, 32}, {3200, 100}, {3201, 101}, {1000000000, 31250000}, {1 << 32, 1 << 27}, {1<<32 + 1, 1<<27 + 1},
		{-31, 0}, {-32, 0}, {-33, 0}, {-1000000000, 0}, {math.MinInt, 0}, {math.MinInt + 1, 0}, {math.MinInt + 31, 0}, {math.MinInt + 32, 0},
		{math.MaxInt, 1 << 58}, {math.MaxInt - 1, 1 << 58}, {math.MaxInt - 30, 1 << 58}, {math.MaxInt - 31, 1<<58 - 1}, {math.MaxInt - 32, 1<<58 - 1},
		{1 << 62, 1 << 57}, {1<<62 - 1, 1 << 57}, {1<<62 + 1, 1<<57 + 1},
	} {
		if got := impl.BlocksNeeded(c.size); got != c.want {
			t.Errorf("BlocksNeeded(%d) is %d", c.size, got)
		}
	}
	want := 0
	for size := range 5000 {
		if size > 32*want {
			want++
		}
		if got := impl.BlocksNeeded(size); got != want {
			t.Errorf("BlocksNeeded(%d) is %d", size, got)
		}
		if got := impl.BlocksNeeded(-size); got != 0 {
			t.Errorf("BlocksNeeded(%d) is %d", -size, got)
		}
	}
}

func TestUsedBlocks(t *testing.T) {
	for _, c := range []struct{ blocks, want []int }{
		{nil, nil}, {[]int{}, nil}, {[]int{-1}, nil}, {[]int{-1, -1, -1}, nil}, {[]int{0}, []int{0}}, {[]int{999}, []int{999}}, {[]int{14, -1}, []int{14}},
		{[]int{-1, 14}, []int{14}}, {[]int{5, -1, 3, -1, -1, 4}, []int{5, 3, 4}}, {[]int{3, 2, 1}, []int{3, 2, 1}}, {[]int{7, 7, -1, 7}, []int{7, 7, 7}},
		{[]int{-2, -1, 1000}, []int{-2, 1000}}, {[]int{math.MinInt, -1, math.MaxInt}, []int{math.MinInt, math.MaxInt}},
		{[]int{1<<32 - 1, 65535, 255, -1, -256, -257}, []int{1<<32 - 1, 65535, 255, -256, -257}},
		{slices.Repeat([]int{-1, 4}, 50000), slices.Repeat([]int{4}, 50000)}, {slices.Repeat([]int{-1}, 100000), nil},
	} {
		for _, n := range []impl.Inode{{Blocks: c.blocks}, inodeOf(1, 420, 0, 0, 1, 64, 0, c.blocks...), inodeOf(9, -1, 9, 9, -1, -1, -1, c.blocks...)} {
			if got := impl.UsedBlocks(n); !slices.Equal(got, c.want) {
				t.Errorf("UsedBlocks(%s) is %s", brief(n), brief(got))
			}
		}
	}
	for _, n := range append(oddInodes(), validInodes()...) {
		want := slices.DeleteFunc(slices.Clone(n.Blocks), func(b int) bool { return b == -1 })
		if got := impl.UsedBlocks(n); !slices.Equal(got, want) {
			t.Errorf("UsedBlocks(%s) is %s", brief(n), brief(got))
		}
	}
}

func expectSame(t *testing.T, a impl.Inode, b impl.Inode, want bool) {
	t.Helper()
	if impl.SameInode(a, b) != want || impl.SameInode(b, a) != want {
		t.Errorf("SameInode(%s, %s) is %v, and %v the other way round", brief(a), brief(b), impl.SameInode(a, b), impl.SameInode(b, a))
	}
}

// differentInodes returns what n becomes by one change, that leaves no two of the inodes equal.
func differentInodes(n impl.Inode) []impl.Inode {
	inodes := []impl.Inode{n}
	add := func(change func(c *impl.Inode)) {
		c := cloneInode(n)
		change(&c)
		inodes = append(inodes, c)
	}
	for k := range numberPlaces(&n) {
		for _, x := range []int{1, -1, 256, 65536, 1 << 32, math.MinInt} {
			add(func(c *impl.Inode) { *numberPlaces(c)[k] += x })
		}
	}
	for k := range n.Blocks {
		for _, x := range []int{1001, -1001, 65536, 1 << 32, math.MinInt} {
			add(func(c *impl.Inode) { c.Blocks[k] += x })
		}
	}
	for _, blocks := range [][]int{{-1}, {0}, {-1, -1}, {0, 0}, {math.MaxInt}, {math.MinInt}, {-2, -1}, {-1, -2}} {
		add(func(c *impl.Inode) { c.Blocks = append(c.Blocks, blocks...) })
	}
	for _, l := range [][]impl.AclEntry{acl([3]int{0, 0, 0}), acl([3]int{9, 9, 9}), acl([3]int{9, 9, 9}, [3]int{9, 9, 9}), make([]impl.AclEntry, 100)} {
		add(func(c *impl.Inode) { c.Acl = append(c.Acl, l...) })
		add(func(c *impl.Inode) { c.Default = append(c.Default, l...) })
	}
	for k := range n.Acl {
		add(func(c *impl.Inode) { c.Acl[k].Tag += 10 })
		add(func(c *impl.Inode) { c.Acl[k].Id += 10 })
		add(func(c *impl.Inode) { c.Acl[k].Perm += 10 })
	}
	for k := range n.Default {
		add(func(c *impl.Inode) { c.Default[k].Tag += 10 })
		add(func(c *impl.Inode) { c.Default[k].Id += 10 })
		add(func(c *impl.Inode) { c.Default[k].Perm += 10 })
	}
	return inodes
}

// manyBlocks returns an inode that is not valid, with n blocks.
func manyBlocks(n int) impl.Inode {
	c := inodeOf(-3, 5000, 7, -7, 2000, 300, -1)
	for k := range n {
		c.Blocks = append(c.Blocks, k*k-k)
	}
	return withLists(c, longAcls()[0], acl([3]int{3, 3, 3}, [3]int{1, -1, 8}))
}

func TestSameInode(t *testing.T) {
	inodes := someInodes()
	for _, length := range []int{1, 7, 8, 9, 15, 16, 17, 24, 25} {
		inodes = append(inodes, manyBlocks(length))
	}
	for _, n := range inodes {
		different := differentInodes(n)
		for k, a := range different {
			for j, b := range different {
				expectSame(t, a, b, j == k)
			}
			expectSame(t, a, cloneInode(a), true)
		}
	}
}

func TestSameInodeOfPairs(t *testing.T) {
	inodes := oddInodes()
	var names []string
	for _, n := range inodes {
		names = append(names, nameInode(n))
	}
	for k, a := range inodes {
		for j := 0; j < len(inodes); j += 1 + (k*7+j*13)%61 {
			expectSame(t, a, inodes[j], names[k] == names[j])
		}
	}
}

// TestSameInodeOfExchangedParts has inodes whose parts are the same, but in other places.
func TestSameInodeOfExchangedParts(t *testing.T) {
	a, b := acl([3]int{1, 2, 6}, [3]int{3, 0, 4}), acl([3]int{3, 0, 4}, [3]int{1, 2, 6})
	n := withLists(inodeOf(1, 2, 3, 4, 5, 6, 7, 8, 9), a, b)
	expectSame(t, n, withLists(n, b, a), false)
	expectSame(t, n, withLists(n, a, a), false)
	expectSame(t, n, withLists(n, a, nil), false)
	expectSame(t, withLists(n, a, nil), withLists(n, nil, a), false)
	expectSame(t, withLists(n, a, nil), withLists(n, a[:1], nil), false)
	for k := range 7 {
		for j := range k {
			c := cloneInode(n)
			places := numberPlaces(&c)
			*places[j], *places[k] = *places[k], *places[j]
			expectSame(t, n, c, false)
		}
	}
	for _, c := range [][2][]int{
		{{1, 2}, {2, 1}}, {{1, 1}, {1}}, {{1, -1}, {1}}, {{1, -1}, {-1, 1}}, {{-1}, nil}, {{0}, nil}, {{0}, {-1}}, {{-1, -1}, {-1}}, {{math.MaxInt}, {math.MinInt}},
		{{0, 1, 2, 3, 4, 5, 6, 7, 8}, {0, 1, 2, 3, 4, 5, 6, 7}}, {{0, 1, 2, 3, 4, 5, 6, 7, 8}, {0, 1, 2, 3, 4, 5, 6, 7, 9}}, {{0, 1, 2, 3, 4, 5, 6, 7, -1}, {0, 1, 2, 3, 4, 5, 6, 7}},
		{make([]int, 100000), make([]int, 99999)}, {make([]int, 100000), append(make([]int, 99999), 1)}, {append([]int{1}, make([]int, 99999)...), make([]int, 100000)},
	} {
		expectSame(t, impl.Inode{Blocks: c[0]}, impl.Inode{Blocks: c[1]}, false)
		expectSame(t, impl.Inode{Blocks: c[0]}, impl.Inode{Blocks: slices.Clone(c[0])}, true)
		expectSame(t, impl.Inode{Blocks: c[1]}, impl.Inode{Blocks: slices.Clone(c[1])}, true)
	}
}

// TestEmptyListsOfInodes checks that a list that is nil is like an empty one, also with room behind it.
func TestEmptyListsOfInodes(t *testing.T) {
	full := []int{5, 6}
	entries := acl([3]int{3, 0, 7})
	for _, n := range []impl.Inode{{}, inodeOf(1, 420, 1, 2, 3, 0, 4), inodeOf(2, 420, 1, 2, 3, 0, 4), inodeOf(3, -1, 1, 2, 3, 9, 4)} {
		for k := range 27 {
			c := n
			c.Blocks = [][]int{nil, {}, full[:0]}[k%3]
			c.Acl = [][]impl.AclEntry{nil, {}, entries[:0]}[k/3%3]
			c.Default = [][]impl.AclEntry{nil, {}, entries[:0]}[k/9]
			expectSame(t, n, c, true)
			if impl.IsInode(c) != impl.IsInode(n) || impl.PackInode(c) != impl.PackInode(n) || len(impl.UsedBlocks(c)) != 0 {
				t.Errorf("with empty lists, %v is valid: %v, %q", c, impl.IsInode(c), impl.PackInode(c))
			}
		}
	}
}

// roomyInode returns an inode with the parts of n and with others behind them, and these with what is behind them.
func roomyInode(n impl.Inode) (part impl.Inode, whole impl.Inode) {
	part, whole = n, n
	whole.Blocks = append(slices.Clone(n.Blocks), 600, -1, 601, 600)
	part.Blocks = whole.Blocks[:len(n.Blocks)]
	part.Acl, whole.Acl = roomyAcl(n.Acl)
	part.Default, whole.Default = roomyAcl(n.Default)
	return part, whole
}

func spoilNumbers(l []int) {
	l = l[:cap(l)]
	for k := range l {
		l[k] = -7
	}
}

func spoilInode(n impl.Inode) {
	spoilNumbers(n.Blocks)
	spoilAcl(n.Acl)
	spoilAcl(n.Default)
}

// inodeAnswers returns all that the functions say of n, as a text.
func inodeAnswers(n impl.Inode) string {
	packed := impl.PackInode(n)
	unpacked, ok := impl.UnpackInode(packed)
	same := fmt.Sprint(impl.SameInode(n, n), impl.SameInode(n, unpacked), impl.SameInode(n, impl.Inode{}))
	return fmt.Sprintf("%v %q %v %v %v %s %d", impl.IsInode(n), packed, unpacked, ok, impl.UsedBlocks(n), same, impl.BlocksNeeded(n.Size))
}

// TestInodeArgumentsStay also checks that no result depends on what is behind an argument, or on a call before.
func TestInodeArgumentsStay(t *testing.T) {
	for k, n := range append(oddInodes(), validInodes()...) {
		if k%3 != 0 && len(n.Blocks) > 9 {
			continue
		}
		part, whole := roomyInode(n)
		before, want := nameInode(whole), inodeAnswers(n)
		if got := inodeAnswers(part); got != want {
			t.Errorf("with room behind %s: %.500s, not %.500s", brief(n), got, want)
		}
		if nameInode(whole) != before {
			t.Errorf("%.300s is changed to %s", before, brief(whole))
		}
		packed, used := impl.PackInode(part), impl.UsedBlocks(part)
		usedBefore := slices.Clone(used)
		spoilInode(part)
		if packed != wantInodeBytes(n) || !slices.Equal(used, usedBefore) {
			t.Errorf("the results for %s change with it: %q, %s", brief(n), packed, brief(used))
		}
		if got := inodeAnswers(n); got != want {
			t.Errorf("after a change of an earlier argument, for %s: %.500s, not %.500s", brief(n), got, want)
		}
	}
}

// TestUsedBlocksAreNew changes the result, with what is behind it, and looks at the argument.
func TestUsedBlocksAreNew(t *testing.T) {
	for _, n := range append(someInodes(), manyBlocks(9), manyBlocks(100)) {
		part, whole := roomyInode(n)
		before := nameInode(whole)
		first, other := impl.UsedBlocks(part), impl.UsedBlocks(part)
		want := slices.Clone(other)
		spoilNumbers(first)
		if nameInode(whole) != before || !slices.Equal(other, want) || !slices.Equal(impl.UsedBlocks(part), want) {
			t.Errorf("after a change of the used blocks of %s: %v, %v", before, whole, other)
		}
	}
}

// TestUnpackedInodesAreNew changes a part of a result: the other parts, and another result, stay as they are.
func TestUnpackedInodesAreNew(t *testing.T) {
	list := someAcls()[8]
	inodes := append(someInodes(), withLists(inodeOf(2, 0, 0, 0, 0, 256, 0, 1, 2, 3, 4, 5, 6, 7, 8), list, list), withLists(inodeOf(2, 0, 0, 0, 0, 0, 0), list, list))
	for _, n := range inodes {
		packed, name := wantInodeBytes(n), nameInode(n)
		for k, spoil := range []func(c impl.Inode){
			func(c impl.Inode) { spoilNumbers(c.Blocks) }, func(c impl.Inode) { spoilAcl(c.Acl) }, func(c impl.Inode) { spoilAcl(c.Default) }, spoilInode,
		} {
			first, _ := impl.UnpackInode(packed)
			other, _ := impl.UnpackInode(packed)
			spoil(first)
			again, ok := impl.UnpackInode(packed)
			if !ok || nameInode(other) != name || nameInode(again) != name {
				t.Errorf("after a change of a result for %s: %v, %v, %v", name, other, again, ok)
			}
			if k != 0 && k != 3 && !slices.Equal(first.Blocks, n.Blocks) || k != 1 && k != 3 && !slices.Equal(first.Acl, n.Acl) || k != 2 && k != 3 && !slices.Equal(first.Default, n.Default) {
				t.Errorf("after a change of part %d of %s, it is %v", k, name, first)
			}
		}
	}
}

// TestInodeCallsKeepNothing makes calls at the same time, which must not disturb each other.
func TestInodeCallsKeepNothing(t *testing.T) {
	var group sync.WaitGroup
	for _, n := range append(someInodes(), inodeOf(1, 512, 0, 0, 0, 0, 0), manyBlocks(20)) {
		group.Go(func() {
			want := inodeAnswers(n)
			for range 50 {
				if got := inodeAnswers(n); got != want {
					t.Errorf("the answers for %v are %s, then %s", n, want, got)
				}
			}
		})
	}
	group.Wait()
}
