package tests

import (
	"encoding/binary"
	"fmt"
	"math"
	"math/rand"
	"slices"
	"strings"
	"testing"

	"loop.example/g00817/impl"
)

const zeros19 = "\x00\x00\x00\x00\x00\x00\x00\x00\x00\x00\x00\x00\x00\x00\x00\x00\x00\x00\x00"

// inodeOf returns an inode with these numbers and blocks, without lists.
func inodeOf(kind, mode, uid, gid, links, size, tick int, blocks ...int) impl.Inode {
	return impl.Inode{Kind: kind, Mode: mode, Uid: uid, Gid: gid, Links: links, Size: size, Tick: tick, Blocks: blocks}
}

func withLists(n impl.Inode, acl []impl.AclEntry, def []impl.AclEntry) impl.Inode {
	n.Acl, n.Default = acl, def
	return n
}

func cloneInode(n impl.Inode) impl.Inode {
	n.Blocks = slices.Clone(n.Blocks)
	return withLists(n, slices.Clone(n.Acl), slices.Clone(n.Default))
}

// nameInode returns a text that is the same exactly for equal inodes: nil and empty slices are printed alike.
func nameInode(n impl.Inode) string { return fmt.Sprint(n) }

// brief cuts the text of x off: a precision in a format would pad the numbers instead.
func brief(x any) string { return fmt.Sprintf("%.300s", fmt.Sprint(x)) }

// numberPlaces returns the places of the numbers of an inode.
func numberPlaces(n *impl.Inode) []*int {
	return []*int{&n.Kind, &n.Mode, &n.Uid, &n.Gid, &n.Links, &n.Size, &n.Tick}
}

// edgeSizes returns the sizes at the edges of each block.
func edgeSizes() []int {
	l := []int{0}
	for k := range 8 {
		l = append(l, 32*k+1, 32*k+2, 32*k+31, 32*k+32)
	}
	return l
}

// blockShapes returns n blocks in each choice of holes.
func blockShapes(n int) [][]int {
	var shapes [][]int
	for holes := range 1 << n {
		blocks := []int{999, 0, 14, 255, 256, 1, 998, 500}[:n]
		for k := range n {
			if holes>>k&1 == 1 {
				blocks[k] = -1
			}
		}
		shapes = append(shapes, blocks)
	}
	return shapes
}

// someInodes returns a few valid inodes of each kind.
func someInodes() []impl.Inode {
	lists := someAcls()
	return []impl.Inode{
		{},
		inodeOf(1, 0, 0, 0, 0, 0, 0),
		inodeOf(2, 0, 0, 0, 0, 0, 0),
		inodeOf(2, 493, 0, 0, 1, 0, 0),
		inodeOf(1, 420, 1, 0, 1, 40, 7, 14, -1),
		withLists(inodeOf(1, 1535, 3, 3, 1000, 256, 1000000000, 992, 993, 994, 995, 996, 997, 998, 999), lists[8], nil),
		withLists(inodeOf(2, 2047, 3, 3, 1000, 256, 1000000000, 999, 998, 997, 996, 995, 994, 993, 992), lists[8], lists[7]),
		withLists(inodeOf(2, 1536, 2, 1, 3, 65, 258, -1, 0, -1), nil, lists[3]),
		withLists(inodeOf(2, 512, 1, 2, 258, 257-1, 16909060, -1, -1, -1, -1, -1, -1, -1, -1), lists[5], lists[6]),
		withLists(inodeOf(1, 1024, 2, 3, 256, 33, 65536, 255, 256), lists[4], nil),
		withLists(inodeOf(1, 258, 3, 1, 2, 255, 255, 0, -1, 1, 2, -1, -1, 3, 4), lists[1], nil),
	}
}

// validInodes returns inodes of every size at the edge of a block, of every choice of holes, and with all kinds of lists.
func validInodes() []impl.Inode {
	inodes := someInodes()
	lists := someAcls()
	for _, size := range edgeSizes() {
		for k, blocks := range blockShapes((size + 31) / 32) {
			list, other := lists[(k+size)%len(lists)], lists[(k*5+size/7)%len(lists)]
			inodes = append(inodes, withLists(inodeOf(1, (k*37+size)%512, k%4, k/4%4, k%1001, size, k*1000003, blocks...), list, nil))
			inodes = append(inodes, withLists(inodeOf(2, (k*251+size)%2048, k/4%4, k%4, 1000-k, size, size*k, blocks...), list, other))
		}
	}
	for _, list := range lists {
		for _, other := range lists {
			inodes = append(inodes, withLists(inodeOf(2, 493, 1, 2, 1, 33, 5, -1, 20), list, other))
		}
		inodes = append(inodes, withLists(inodeOf(1, 420, 1, 2, 1, 64, 5, 21, 20), list, nil))
	}
	return inodes
}

// changedNumbers returns what n becomes when one of its numbers is another one.
func changedNumbers(n impl.Inode) []impl.Inode {
	values := append(oddNumbers(), 0, 1, 2, 3, 4, 7, 31, 32, 33, 63, 64, 65, 224, 225, 287, 288, 289, 511, 513, 999, 1000, 1001, 1002)
	values = append(values, 1023, 1024, 1535, 1536, 2047, 2048, 65535, 65536, 999999999, 1000000000, 1000000001, 1<<32-1)
	var inodes []impl.Inode
	for k := range numberPlaces(&n) {
		for _, x := range append(values, *numberPlaces(&n)[k]-1, *numberPlaces(&n)[k]+1) {
			c := cloneInode(n)
			*numberPlaces(&c)[k] = x
			inodes = append(inodes, c)
		}
	}
	return inodes
}

// changedBlocks returns what n becomes when one of its blocks is another one, is added, or is left out.
func changedBlocks(n impl.Inode) []impl.Inode {
	var inodes []impl.Inode
	add := func(blocks []int) {
		c := cloneInode(n)
		c.Blocks = blocks
		inodes = append(inodes, c)
	}
	values := append(oddNumbers(), 0, 14, 20, 55, 56, 99, 998, 999, 1000, 1001, 65534, 65535, 65536)
	for k := range len(n.Blocks) + 1 {
		for _, b := range append(values, n.Blocks...) {
			add(slices.Insert(slices.Clone(n.Blocks), k, b))
			if k < len(n.Blocks) {
				add(slices.Replace(slices.Clone(n.Blocks), k, k+1, b))
			}
		}
		if k < len(n.Blocks) {
			add(slices.Delete(slices.Clone(n.Blocks), k, k+1))
			add(slices.Clone(n.Blocks[:k]))
		}
	}
	for _, length := range []int{1, 2, 7, 8, 9, 16, 17, 2048, 100000} {
		add(make([]int, length))
		add(slices.Repeat([]int{-1}, length))
	}
	add([]int{})
	return inodes
}

// changedLists returns what n becomes when its Acl, its Default or both are other lists.
func changedLists(n impl.Inode) []impl.Inode {
	lists := append(longAcls(), nil, []impl.AclEntry{}, acl([3]int{1, 2, 6}), acl([3]int{3, 0, 8}), acl([3]int{3, 1, 4}), acl([3]int{0, 0, 0}))
	lists = append(append(lists, someAcls()...), acl([3]int{2, 1, 6}, [3]int{1, 2, 6}, [3]int{3, 0, 4}), acl([3]int{1, 4, 6}, [3]int{3, 0, 4}))
	lists = append(lists, acl([3]int{math.MinInt, math.MinInt, math.MinInt}), acl([3]int{3, 0, math.MaxInt}))
	var inodes []impl.Inode
	for _, l := range lists {
		c := cloneInode(n)
		inodes = append(inodes, withLists(c, l, c.Default), withLists(c, c.Acl, l), withLists(c, l, l))
	}
	return inodes
}

// oddInodes returns inodes of all kinds, most of them not valid.
func oddInodes() []impl.Inode {
	var inodes []impl.Inode
	for _, n := range someInodes() {
		inodes = append(append(append(append(inodes, n), changedNumbers(n)...), changedBlocks(n)...), changedLists(n)...)
	}
	for _, x := range []int{math.MinInt, -1, 1, 3, 8, math.MaxInt} {
		inodes = append(inodes, inodeOf(x, x, x, x, x, x, x), inodeOf(x, x, x, x, x, x, x, x), inodeOf(0, x, x, x, x, x, x, x, x))
	}
	for kind := -1; kind <= 4; kind++ {
		for mode := 0; mode <= 2048; mode += 512 {
			for _, l := range [][]impl.AclEntry{nil, acl([3]int{3, 0, 7})} {
				inodes = append(inodes, withLists(inodeOf(kind, mode, 1, 1, 1, 1, 1, 1), nil, l), withLists(inodeOf(kind, mode, 0, 0, 0, 0, 0), l, nil))
			}
		}
	}
	return inodes
}

// wantInode follows the definition of a valid inode.
func wantInode(n impl.Inode) bool {
	if n.Kind == 0 {
		return nameInode(n) == nameInode(impl.Inode{})
	}
	limits := []int{2, 2047, 3, 3, 1000, 256, 1000000000}
	for k, place := range numberPlaces(&n) {
		if *place < 0 || *place > limits[k] {
			return false
		}
	}
	if len(n.Blocks) != int(math.Ceil(float64(n.Size)/32)) || !wantAcl(n.Acl) || !wantAcl(n.Default) {
		return false
	}
	seen := map[int]bool{}
	for _, b := range n.Blocks {
		if b < -1 || b > 999 || seen[b] {
			return false
		}
		seen[b] = b != -1
	}
	return n.Kind == 2 || len(n.Default) == 0 && n.Mode/512%2 == 0
}

func wantInodeBytes(n impl.Inode) string {
	if !wantInode(n) {
		return ""
	}
	record := []byte{byte(n.Kind)}
	record = binary.BigEndian.AppendUint16(record, uint16(n.Mode))
	record = append(record, byte(n.Uid), byte(n.Gid))
	record = binary.BigEndian.AppendUint16(record, uint16(n.Links))
	record = binary.BigEndian.AppendUint16(record, uint16(n.Size))
	record = binary.BigEndian.AppendUint32(record, uint32(n.Tick))
	for _, b := range n.Blocks {
		record = binary.BigEndian.AppendUint16(record, uint16(b+1))
	}
	record = append(record, make([]byte, 29-len(record))...)
	record = append(record, wantAclBytes(n.Acl)+wantAclBytes(n.Default)...)
	return string(record) + strings.Repeat("\x00", 96-len(record))
}

// wantUnpackedInode reads the fields at their fixed places.
func wantUnpackedInode(s string) (impl.Inode, bool) {
	if len(s) != 96 || s[67:] != strings.Repeat("\x00", 29) {
		return impl.Inode{}, false
	}
	two := func(at int) int { return int(binary.BigEndian.Uint16([]byte(s[at:]))) }
	n := inodeOf(int(s[0]), two(1), int(s[3]), int(s[4]), two(5), two(7), int(binary.BigEndian.Uint32([]byte(s[9:]))))
	for k := range 8 {
		if 32*k < n.Size {
			n.Blocks = append(n.Blocks, two(13+2*k)-1)
		} else if two(13+2*k) != 0 {
			return impl.Inode{}, false
		}
	}
	acl, isAcl := wantUnpacked(s[29:48])
	def, isDefault := wantUnpacked(s[48:67])
	n = withLists(n, acl, def)
	if !isAcl || !isDefault || !wantInode(n) {
		return impl.Inode{}, false
	}
	return n, true
}

func expectUnpackedInode(t *testing.T, s string) {
	t.Helper()
	want, wantOk := wantUnpackedInode(s)
	if got, ok := impl.UnpackInode(s); ok != wantOk || nameInode(got) != nameInode(want) {
		t.Errorf("UnpackInode(%.400q) is %v, %v", s, got, ok)
	}
}

// expectInodeRecovered checks that n is valid and is recovered from its bytes.
func expectInodeRecovered(t *testing.T, n impl.Inode) {
	t.Helper()
	packed := impl.PackInode(n)
	got, ok := impl.UnpackInode(packed)
	if !impl.IsInode(n) || len(packed) != 96 || !ok || nameInode(got) != nameInode(n) || !impl.SameInode(got, n) {
		t.Errorf("%v is recovered from %q as %v, %v", n, packed, got, ok)
	}
}

func TestInodeConstants(t *testing.T) {
	got := []int{impl.KdFree, impl.KdFile, impl.KdDir, impl.MaxFileBlocks, impl.InodeSize, impl.NoBlock}
	if !slices.Equal(got, []int{0, 1, 2, 8, 96, -1}) {
		t.Errorf("the constants are %v", got)
	}
}

// TestKnownInodes has the bytes of a few inodes written out.
func TestKnownInodes(t *testing.T) {
	none := strings.Repeat("\x00", 16)
	list, listBytes := acl([3]int{1, 2, 6}, [3]int{3, 0, 4}), "\x02\x01\x02\x06\x03\x00\x04"+strings.Repeat("\x00", 12)
	mask, maskBytes := acl([3]int{3, 0, 5}), "\x01\x03\x00\x05"+strings.Repeat("\x00", 15)
	full := acl([3]int{1, 0, 7}, [3]int{1, 1, 6}, [3]int{1, 2, 5}, [3]int{1, 3, 4}, [3]int{2, 0, 3}, [3]int{3, 0, 2})
	fullBytes := "\x06\x01\x00\x07\x01\x01\x06\x01\x02\x05\x01\x03\x04\x02\x00\x03\x03\x00\x02"
	for _, c := range []struct {
		n     impl.Inode
		bytes string
	}{
		{impl.Inode{}, ""},
		{impl.Inode{Blocks: []int{}, Acl: []impl.AclEntry{}, Default: []impl.AclEntry{}}, ""},
		{inodeOf(1, 0, 0, 0, 0, 0, 0), "\x01"},
		{inodeOf(2, 0, 0, 0, 0, 0, 0), "\x02"},
		{inodeOf(2, 493, 0, 0, 1, 0, 0), "\x02\x01\xed\x00\x00\x00\x01"},
		{inodeOf(1, 420, 1, 2, 3, 40, 7, 14, -1), "\x01\x01\xa4\x01\x02\x00\x03\x00\x28\x00\x00\x00\x07\x00\x0f"},
		{inodeOf(1, 420, 1, 2, 3, 40, 7, -1, 14), "\x01\x01\xa4\x01\x02\x00\x03\x00\x28\x00\x00\x00\x07\x00\x00\x00\x0f"},
		{inodeOf(1, 1535, 3, 0, 1000, 33, 1000000000, 999, 0), "\x01\x05\xff\x03\x00\x03\xe8\x00\x21\x3b\x9a\xca\x00\x03\xe8\x00\x01"},
		{withLists(inodeOf(1, 0, 0, 3, 0, 0, 1), list, nil), "\x01\x00\x00\x00\x03\x00\x00\x00\x00\x00\x00\x00\x01" + none + listBytes},
		{withLists(inodeOf(2, 2047, 0, 0, 0, 0, 16909060), nil, mask), "\x02\x07\xff\x00\x00\x00\x00\x00\x00\x01\x02\x03\x04" + none + zeros19 + maskBytes},
		{
			withLists(inodeOf(2, 1024, 2, 1, 258, 256, 65536, 998, 997, -1, 255, 254, 256, -1, 511), mask, list),
			"\x02\x04\x00\x02\x01\x01\x02\x01\x00\x00\x01\x00\x00\x03\xe7\x03\xe6\x00\x00\x01\x00\x00\xff\x01\x01\x00\x00\x02\x00" + maskBytes + listBytes,
		},
		{
			withLists(inodeOf(2, 512, 0, 0, 0, 225, 0, -1, -1, -1, -1, -1, -1, -1, 0), full, full),
			"\x02\x02\x00\x00\x00\x00\x00\x00\xe1\x00\x00\x00\x00" + none[:15] + "\x01" + fullBytes + fullBytes,
		},
	} {
		want := c.bytes + strings.Repeat("\x00", 96-len(c.bytes))
		if got := impl.PackInode(c.n); got != want || !impl.IsInode(c.n) {
			t.Errorf("%v is valid: %v, %q", c.n, impl.IsInode(c.n), got)
		}
		if got, ok := impl.UnpackInode(want); !ok || nameInode(got) != nameInode(c.n) {
			t.Errorf("%v is recovered as %v, %v", c.n, got, ok)
		}
	}
}

// TestKnownWrongInodes has, for each rule of inodes, one that breaks no other rule.
func TestKnownWrongInodes(t *testing.T) {
	mask := acl([3]int{3, 0, 7})
	for name, n := range map[string]impl.Inode{
		"free with a Mode":          inodeOf(0, 1, 0, 0, 0, 0, 0),
		"free with a Uid":           inodeOf(0, 0, 1, 0, 0, 0, 0),
		"free with a Gid":           inodeOf(0, 0, 0, 1, 0, 0, 0),
		"free with Links":           inodeOf(0, 0, 0, 0, 1, 0, 0),
		"free with a Size":          inodeOf(0, 0, 0, 0, 0, 1, 0),
		"free with a Size of holes": inodeOf(0, 0, 0, 0, 0, 1, 0, -1),
		"free with a Tick":          inodeOf(0, 0, 0, 0, 0, 0, 1),
		"free with a block":         inodeOf(0, 0, 0, 0, 0, 0, 0, 5),
		"free with the block 0":     inodeOf(0, 0, 0, 0, 0, 0, 0, 0),
		"free with a hole":          inodeOf(0, 0, 0, 0, 0, 0, 0, -1),
		"free with an Acl":          withLists(impl.Inode{}, mask, nil),
		"free with a Default":       withLists(impl.Inode{}, nil, mask),
		"free with a zero entry":    withLists(impl.Inode{}, make([]impl.AclEntry, 1), nil),
		"Kind 3":                    inodeOf(3, 0, 0, 0, 0, 0, 0),
		"Kind -1":                   inodeOf(-1, 0, 0, 0, 0, 0, 0),
		"Kind 256":                  inodeOf(256, 0, 0, 0, 0, 0, 0),
		"Mode -1":                   inodeOf(2, -1, 0, 0, 0, 0, 0),
		"Mode 2048":                 inodeOf(2, 2048, 0, 0, 0, 0, 0),
		"Mode 2048 of a file":       inodeOf(1, 2048, 0, 0, 0, 0, 0),
		"Mode -1024 of a file":      inodeOf(1, -1024, 0, 0, 0, 0, 0),
		"Uid -1":                    inodeOf(1, 0, -1, 0, 0, 0, 0),
		"Uid 4":                     inodeOf(1, 0, 4, 0, 0, 0, 0),
		"Gid -1":                    inodeOf(1, 0, 0, -1, 0, 0, 0),
		"Gid 4":                     inodeOf(1, 0, 0, 4, 0, 0, 0),
		"Links -1":                  inodeOf(1, 0, 0, 0, -1, 0, 0),
		"Links 1001":                inodeOf(1, 0, 0, 0, 1001, 0, 0),
		"Size -1":                   inodeOf(1, 0, 0, 0, 0, -1, 0),
		"Size 257":                  inodeOf(1, 0, 0, 0, 0, 257, 0, 0, 1, 2, 3, 4, 5, 6, 7),
		"Size 257, nine blocks":     inodeOf(1, 0, 0, 0, 0, 257, 0, 0, 1, 2, 3, 4, 5, 6, 7, 8),
		"Size 257, nine holes":      inodeOf(1, 0, 0, 0, 0, 257, 0, slices.Repeat([]int{-1}, 9)...),
		"Tick -1":                   inodeOf(1, 0, 0, 0, 0, 0, -1),
		"Tick 1000000001":           inodeOf(1, 0, 0, 0, 0, 0, 1000000001),
		"a block too many":          inodeOf(1, 0, 0, 0, 0, 32, 0, 1, 2),
		"a hole too many":           inodeOf(1, 0, 0, 0, 0, 32, 0, 1, -1),
		"a block of no size":        inodeOf(1, 0, 0, 0, 0, 0, 0, 1),
		"a hole of no size":         inodeOf(1, 0, 0, 0, 0, 0, 0, -1),
		"a block too few":           inodeOf(1, 0, 0, 0, 0, 33, 0, 1),
		"no block for one byte":     inodeOf(1, 0, 0, 0, 0, 1, 0),
		"seven blocks for 225":      inodeOf(2, 0, 0, 0, 0, 225, 0, 0, 1, 2, 3, 4, 5, 6),
		"eight blocks for 224":      inodeOf(2, 0, 0, 0, 0, 224, 0, 0, 1, 2, 3, 4, 5, 6, 7),
		"nine blocks for 256":       inodeOf(2, 0, 0, 0, 0, 256, 0, 0, 1, 2, 3, 4, 5, 6, 7, 8),
		"block -2":                  inodeOf(1, 0, 0, 0, 0, 32, 0, -2),
		"block 1000":                inodeOf(1, 0, 0, 0, 0, 32, 0, 1000),
		"block -2 at the end":       inodeOf(1, 0, 0, 0, 0, 96, 0, 1, -1, -2),
		"block 1000 at the end":     inodeOf(1, 0, 0, 0, 0, 96, 0, 1, -1, 1000),
		"a block twice":             inodeOf(1, 0, 0, 0, 0, 64, 0, 7, 7),
		"block 0 twice":             inodeOf(1, 0, 0, 0, 0, 64, 0, 0, 0),
		"block 999 twice":           inodeOf(2, 0, 0, 0, 0, 96, 0, 999, -1, 999),
		"first and last the same":   inodeOf(2, 0, 0, 0, 0, 256, 0, 7, 1, 2, 3, 4, 5, 6, 7),
		"an Acl without a mask":     withLists(inodeOf(2, 0, 0, 0, 0, 0, 0), acl([3]int{1, 1, 7}), nil),
		"a Default without a mask":  withLists(inodeOf(2, 0, 0, 0, 0, 0, 0), nil, acl([3]int{1, 1, 7})),
		"an Acl of seven":           withLists(inodeOf(1, 0, 0, 0, 0, 0, 0), longAcls()[1], nil),
		"a Default of seven":        withLists(inodeOf(2, 0, 0, 0, 0, 0, 0), nil, longAcls()[1]),
		"a file with a Default":     withLists(inodeOf(1, 0, 0, 0, 0, 0, 0), nil, mask),
		"a file with both lists":    withLists(inodeOf(1, 0, 0, 0, 0, 0, 0), mask, mask),
		"a sticky file":             inodeOf(1, 512, 0, 0, 0, 0, 0),
		"a sticky file, setgid":     inodeOf(1, 1536, 0, 0, 0, 0, 0),
		"a sticky file, 2047":       inodeOf(1, 2047, 0, 0, 0, 0, 0),
		"the least ints":            inodeOf(math.MinInt, math.MinInt, math.MinInt, math.MinInt, math.MinInt, math.MinInt, math.MinInt, math.MinInt),
		"the greatest ints":         inodeOf(math.MaxInt, math.MaxInt, math.MaxInt, math.MaxInt, math.MaxInt, math.MaxInt, math.MaxInt, math.MaxInt),
	} {
		if impl.IsInode(n) || impl.PackInode(n) != "" {
			t.Errorf("%s, %v: valid is %v, %q", name, n, impl.IsInode(n), impl.PackInode(n))
		}
	}
}

// TestWhatInodesMayHave has what is like something wrong, but is valid.
func TestWhatInodesMayHave(t *testing.T) {
	mask := acl([3]int{3, 0, 7})
	for name, n := range map[string]impl.Inode{
		"a setgid file":            inodeOf(1, 1024, 0, 0, 0, 0, 0),
		"a setgid file, 1535":      inodeOf(1, 1535, 0, 0, 0, 0, 0),
		"a sticky directory":       inodeOf(2, 512, 0, 0, 0, 0, 0),
		"a directory of all bits":  inodeOf(2, 2047, 0, 0, 0, 0, 0),
		"a directory of any Links": inodeOf(2, 0, 0, 0, 1000, 0, 0),
		"a directory of any Size":  inodeOf(2, 0, 0, 0, 0, 7, 0, 3),
		"a file without Links":     inodeOf(1, 0, 0, 0, 0, 5, 0, 3),
		"NoBlock twice":            inodeOf(1, 0, 0, 0, 0, 64, 0, -1, -1),
		"NoBlock eight times":      inodeOf(2, 0, 0, 0, 0, 256, 0, -1, -1, -1, -1, -1, -1, -1, -1),
		"NoBlock around a block":   inodeOf(1, 0, 0, 0, 0, 65, 0, -1, 0, -1),
		"blocks 0 and 999":         inodeOf(1, 0, 0, 0, 0, 33, 0, 999, 0),
		"a block beyond the pools": inodeOf(1, 0, 3, 0, 0, 1, 0, 56),
		"an empty Default":         withLists(inodeOf(1, 0, 0, 0, 0, 0, 0), mask, []impl.AclEntry{}),
		"only a Default":           withLists(inodeOf(2, 0, 0, 0, 0, 0, 0), nil, mask),
	} {
		if !impl.IsInode(n) || len(impl.PackInode(n)) != 96 {
			t.Errorf("%s, %v: valid is %v, %q", name, n, impl.IsInode(n), impl.PackInode(n))
		}
		expectInodeRecovered(t, n)
	}
}

func TestIsInodeAndPackInode(t *testing.T) {
	count := 0
	for _, n := range append(oddInodes(), validInodes()...) {
		if got := impl.IsInode(n); got != wantInode(n) {
			t.Errorf("IsInode(%s) is %v", brief(n), got)
		}
		if got := impl.PackInode(n); got != wantInodeBytes(n) {
			t.Errorf("PackInode(%s) is %q", brief(n), got)
		}
		if !wantInode(n) {
			count++
		}
	}
	if count < 1000 {
		t.Errorf("only %d inodes are not valid", count)
	}
}

func TestInodesFromTheirBytes(t *testing.T) {
	kinds, lists := map[[2]int]int{}, map[[2]int]int{}
	for _, n := range validInodes() {
		expectInodeRecovered(t, n)
		kinds[[2]int{n.Kind, n.Size}]++
		lists[[2]int{len(n.Acl), len(n.Default)}]++
	}
	for _, size := range edgeSizes() {
		if kinds[[2]int{1, size}] == 0 || kinds[[2]int{2, size}] == 0 || kinds[[2]int{0, 0}] == 0 {
			t.Errorf("not every kind has the size %d", size)
		}
	}
	for n := range 49 {
		if lists[[2]int{n / 7, n % 7}] == 0 {
			t.Errorf("no inode has lists of %d and %d entries", n/7, n%7)
		}
	}
}

// TestEachNumberFromItsBytes has every value of each number, and of Tick those at the edges of its bytes.
func TestEachNumberFromItsBytes(t *testing.T) {
	for mode := range 2048 {
		expectInodeRecovered(t, inodeOf(2, mode, 1, 2, 3, 0, 4))
		if mode/512%2 == 0 {
			expectInodeRecovered(t, inodeOf(1, mode, 1, 2, 3, 0, 4))
		}
	}
	for links := range 1001 {
		expectInodeRecovered(t, inodeOf(1, 420, 1, 2, links, 0, 4))
	}
	for size := range 257 {
		expectInodeRecovered(t, inodeOf(1, 420, 1, 2, 3, size, 4, []int{10, 11, 12, 13, 14, 15, 16, 17}[:(size+31)/32]...))
		expectInodeRecovered(t, inodeOf(2, 420, 1, 2, 3, size, 4, slices.Repeat([]int{-1}, (size+31)/32)...))
	}
	for b := -1; b < 1000; b++ {
		expectInodeRecovered(t, inodeOf(1, 420, 1, 2, 3, 32, 4, b))
		expectInodeRecovered(t, inodeOf(2, 420, 1, 2, 3, 80, 4, -1, b, -1))
	}
	for k := range 16 {
		expectInodeRecovered(t, inodeOf(1, 420, k/4, k%4, 3, 0, 4))
	}
	for bit := range 30 {
		for _, tick := range []int{1<<bit - 1, 1 << bit, 1<<bit + 1, 1000000000 - 1<<bit, 1000000000 - bit} {
			expectInodeRecovered(t, inodeOf(2, 493, 1, 2, 3, 0, max(0, tick)))
		}
	}
}

func TestListsOfInodesFromTheirBytes(t *testing.T) {
	lists := validAcls()
	for k, l := range lists {
		expectInodeRecovered(t, withLists(inodeOf(1, 420, 1, 2, 3, 1, 4, 5), l, nil))
		expectInodeRecovered(t, withLists(inodeOf(2, 420, 1, 2, 3, 1, 4, 5), l, lists[k*7%len(lists)]))
	}
}

func TestInodesHaveBytesOfTheirOwn(t *testing.T) {
	names := map[string]string{}
	for _, n := range append(oddInodes(), validInodes()...) {
		packed, name := impl.PackInode(n), nameInode(n)
		if before, ok := names[packed]; ok && packed != "" && before != name {
			t.Errorf("%s and %s have the bytes %q", before, name, packed)
		}
		names[packed] = name
	}
}

func TestUnpackInodeRefuses(t *testing.T) {
	zeros := strings.Repeat("\x00", 200)
	file := "\x01\x01\xa4\x01\x02\x00\x03\x00\x28\x00\x00\x00\x07\x00\x0f"
	mask := "\x01\x03\x00\x07" + zeros19[:15]
	pad := func(s string) string { return (s + zeros)[:96] }
	records := []string{
		"", "\x00", "\x01", "\x02", file, zeros[:95], zeros[:97], zeros[:192], (file + zeros)[:95], (file + zeros)[:97], pad(file) + pad(file), "\x00" + pad(file)[:94], "\x00" + pad(file),
		pad("\x03"), pad("\xff"), pad("\x00\x01"), pad(zeros[:1] + "\x01"), pad(zeros[:95] + "\x01"), pad(zeros[:67] + "\x01"), pad(zeros[:66] + "\x01"), pad(zeros[:29] + mask),
		pad(zeros[:48] + mask), pad("\x01" + zeros[:47] + mask), pad("\x01\x02\x00"), pad("\x01\x06\x00"), pad("\x01\x08\x00"), pad("\x02\x08\x00"), pad("\x02\xff\xff"),
		pad("\x02\x00\x00\x04"), pad("\x02\x00\x00\x00\x04"), pad("\x02\x00\x00\x00\x00\x03\xe9"), pad("\x02\x00\x00\x00\x00\xff\xff"), pad("\x02\x00\x00\x00\x00\x00\x00\x01\x01"),
		pad("\x02\x00\x00\x00\x00\x00\x00\xff\xff"), pad("\x02\x00\x00\x00\x00\x00\x00\x00\x00\x3b\x9a\xca\x01"), pad("\x02\x00\x00\x00\x00\x00\x00\x00\x00\xff\xff\xff\xff"),
		pad("\x02\x00\x00\x00\x00\x00\x00\x00\x20\x00\x00\x00\x00\x03\xe9"), pad("\x02\x00\x00\x00\x00\x00\x00\x00\x20\x00\x00\x00\x00\xff\xff"),
		pad("\x02\x00\x00\x00\x00\x00\x00\x00\x00\x00\x00\x00\x00\x00\x05"), pad("\x02\x00\x00\x00\x00\x00\x00\x00\x20\x00\x00\x00\x00\x00\x05\x00\x06"),
		pad("\x02\x00\x00\x00\x00\x00\x00\x00\x20\x00\x00\x00\x00\x00\x05" + zeros[:12] + "\x00\x06"), pad("\x02\x00\x00\x00\x00\x00\x00\x00\x40\x00\x00\x00\x00\x00\x05\x00\x05"),
		pad("\x02\x00\x00\x00\x00\x00\x00\x00\xe0\x00\x00\x00\x00\x00\x01\x00\x02\x00\x03\x00\x04\x00\x05\x00\x06\x00\x07\x00\x08"), pad("\x02" + zeros[:28] + "\x01\x01\x00\x07"),
		pad("\x02" + zeros[:28] + "\x07"), pad("\x02" + zeros[:47] + "\x01\x03\x00\x08"), strings.Repeat("\xff", 96), strings.Repeat("\x01", 96), strings.Repeat("\x02", 96),
		strings.Repeat("\x00", 100000), strings.Repeat("\xff", 100000), pad(file)[:95] + "\xff", "file 420 1 0 1 40 7", "Inode{}", pad("file"), pad("dir"), pad("1"), pad("2"),
	}
	for _, s := range append(records, oddTexts()...) {
		if got, ok := impl.UnpackInode(s); ok || nameInode(got) != nameInode(impl.Inode{}) {
			t.Errorf("UnpackInode(%.400q) is %v, %v", s, got, ok)
		}
		expectUnpackedInode(t, s)
	}
}

func TestUnpackInodeOfChangedBytes(t *testing.T) {
	for _, n := range someInodes() {
		packed := wantInodeBytes(n)
		expectUnpackedInode(t, packed)
		for at := range len(packed) {
			for x := range 256 {
				expectUnpackedInode(t, packed[:at]+string([]byte{byte(x)})+packed[at+1:])
			}
		}
		for length := range len(packed) {
			expectUnpackedInode(t, packed[:length])
			expectUnpackedInode(t, packed[length:])
			expectUnpackedInode(t, packed+packed[:length+1])
			expectUnpackedInode(t, packed[:length]+"\x00"+packed[length:])
			expectUnpackedInode(t, packed[:length]+packed[length+1:])
			expectUnpackedInode(t, packed[:length]+packed[length+1:]+"\x00")
			expectUnpackedInode(t, packed[length:]+packed[:length])
		}
		for x := range 256 {
			expectUnpackedInode(t, packed+string([]byte{byte(x)}))
			expectUnpackedInode(t, string([]byte{byte(x)})+packed)
		}
	}
}

// TestUnpackInodeOfAllPairsOfBytes has all values of some fields of two bytes: Mode, Links, Size and the first three blocks.
func TestUnpackInodeOfAllPairsOfBytes(t *testing.T) {
	file, dir := wantInodeBytes(inodeOf(1, 420, 1, 2, 3, 33, 4, -1, 14)), wantInodeBytes(someInodes()[8])
	for x := range 1 << 16 {
		two := string([]byte{byte(x >> 8), byte(x)})
		for _, at := range []int{1, 5, 7, 13, 15, 17} {
			expectUnpackedInode(t, file[:at]+two+file[at+2:])
			if x < 3000 || x > 65000 {
				expectUnpackedInode(t, dir[:at]+two+dir[at+2:])
			}
		}
	}
}

func TestUnpackInodeOfArbitraryBytes(t *testing.T) {
	for _, s := range byteTexts() {
		expectUnpackedInode(t, s)
		expectUnpackedInode(t, (s + strings.Repeat("\x00", 96))[:96])
		expectUnpackedInode(t, ("\x01" + s + strings.Repeat("\x00", 96))[:96])
		expectUnpackedInode(t, ("\x02" + s + strings.Repeat("\x00", 96))[:96])
	}
	random := rand.New(rand.NewSource(7))
	inodes := validInodes()
	found := 0
	for range 30000 {
		record := []byte(wantInodeBytes(inodes[random.Intn(len(inodes))]))
		other := wantInodeBytes(inodes[random.Intn(len(inodes))])
		cut := []int{1, 3, 4, 5, 7, 9, 13, 21, 29, 48, 67}[random.Intn(11)]
		copy(record[cut:], other[cut:])
		for range random.Intn(3) {
			record[random.Intn(96)] = byte(random.Intn(9))
		}
		expectUnpackedInode(t, string(record))
		if _, ok := wantUnpackedInode(string(record)); ok {
			found++
		}
		random.Read(record)
		expectUnpackedInode(t, string(record))
	}
	if found < 1000 || found > 29000 {
		t.Errorf("%d of the records are valid", found)
	}
}
