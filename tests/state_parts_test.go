package tests

import (
	"fmt"
	"math"
	"slices"
	"strings"
	"sync"
	"testing"

	"loop.example/g00817/impl"
)

func expectSameFS(t *testing.T, a impl.FS, b impl.FS, want bool) {
	t.Helper()
	if impl.SameFS(a, b) != want || impl.SameFS(b, a) != want {
		t.Errorf("SameFS(%s, %s) is %v, and %v the other way round", briefFS(a), briefFS(b), impl.SameFS(a, b), impl.SameFS(b, a))
	}
}

// differentFS returns what f becomes by one change, that leaves no two of the file systems equal.
func differentFS(f impl.FS) []impl.FS {
	systems := []impl.FS{f}
	add := func(apply func(c *impl.FS)) {
		c := cloneFS(f)
		apply(&c)
		systems = append(systems, c)
	}
	for _, x := range []int{1, -1, 256, 65536, 1 << 32, math.MinInt} {
		add(func(c *impl.FS) { c.Tick += x })
		for u := range f.Quotas {
			add(func(c *impl.FS) { c.Quotas[u].Inodes += x })
			add(func(c *impl.FS) { c.Quotas[u].Blocks += x })
		}
	}
	for i, n := range f.Inodes {
		for k := range numberPlaces(&n) {
			add(func(c *impl.FS) { *numberPlaces(&c.Inodes[i])[k] += 10000 })
		}
		add(func(c *impl.FS) { c.Inodes[i].Blocks = append(c.Inodes[i].Blocks, -1) })
		add(func(c *impl.FS) { c.Inodes[i].Blocks = append(c.Inodes[i].Blocks, 7000) })
		add(func(c *impl.FS) { c.Inodes[i].Acl = append(c.Inodes[i].Acl, impl.AclEntry{}) })
		add(func(c *impl.FS) { c.Inodes[i].Default = append(c.Inodes[i].Default, impl.AclEntry{}) })
	}
	for b := range f.Data {
		add(func(c *impl.FS) { c.Data[b] += "\x00" })
		add(func(c *impl.FS) { c.Data[b] += "x" })
		add(func(c *impl.FS) { c.Data[b] = "x" + c.Data[b] })
	}
	add(func(c *impl.FS) { c.Quotas = append(c.Quotas, impl.Quota{}) })
	add(func(c *impl.FS) { c.Quotas = append(c.Quotas, impl.Quota{Inodes: 1}) })
	add(func(c *impl.FS) { c.Inodes = append(c.Inodes, impl.Inode{}) })
	add(func(c *impl.FS) { c.Inodes = append(c.Inodes, impl.Inode{}, impl.Inode{}) })
	add(func(c *impl.FS) { c.Data = append(c.Data, "") })
	add(func(c *impl.FS) { c.Data = append(c.Data, sector("")) })
	return systems
}

func TestSameFS(t *testing.T) {
	odd := impl.FS{Tick: math.MinInt, Quotas: quotas(-1, math.MaxInt)[:2], Inodes: someInodes()[3:6], Data: oddTexts()[:3]}
	for _, f := range []impl.FS{{}, emptyFS(), busyFS(), odd, {Inodes: []impl.Inode{manyBlocks(20)}}} {
		for k, a := range differentFS(f) {
			for j, b := range differentFS(f)[:min(k+1, 40)] {
				expectSameFS(t, a, b, j == k)
			}
			expectSameFS(t, a, f, k == 0)
			expectSameFS(t, a, cloneFS(a), true)
		}
	}
}

func TestSameFSOfPairs(t *testing.T) {
	systems := append(someFS(), brokenFS()...)
	for _, c := range allowedChanges() {
		systems = append(systems, c.of(busyFS()))
	}
	var names []string
	for _, f := range systems {
		names = append(names, nameFS(f))
	}
	for k, a := range systems {
		for j := 0; j < len(systems); j += 1 + (k*7+j*13)%97 {
			expectSameFS(t, a, systems[j], names[k] == names[j])
		}
	}
}

// TestSameFSOfExchangedParts has file systems whose parts are the same, but in other places.
func TestSameFSOfExchangedParts(t *testing.T) {
	f := busyFS()
	exchange := func(apply func(c *impl.FS)) {
		t.Helper()
		c := cloneFS(f)
		apply(&c)
		expectSameFS(t, f, c, false)
	}
	for k := range 56 {
		if k > 0 && k < 4 {
			exchange(func(c *impl.FS) { c.Quotas[0], c.Quotas[k] = c.Quotas[k], c.Quotas[0] })
			exchange(func(c *impl.FS) { c.Quotas = slices.Delete(c.Quotas, k, 4) })
		}
		if k > 0 && k < 20 {
			exchange(func(c *impl.FS) { c.Inodes[0], c.Inodes[k] = c.Inodes[k], c.Inodes[0] })
			exchange(func(c *impl.FS) { c.Inodes = slices.Delete(c.Inodes, k, 20) })
		}
		if f.Data[k] != sector("") {
			exchange(func(c *impl.FS) { c.Data[3], c.Data[k] = c.Data[k], c.Data[3] })
		}
		exchange(func(c *impl.FS) { c.Data = slices.Delete(c.Data, k, 56) })
	}
	exchange(func(c *impl.FS) { c.Quotas[0].Inodes, c.Quotas[0].Blocks = c.Quotas[0].Blocks, c.Quotas[0].Inodes })
	exchange(func(c *impl.FS) { c.Data = []string{strings.Join(c.Data, "")} })
	expectSameFS(t, impl.FS{Data: []string{"ab", "c"}}, impl.FS{Data: []string{"a", "bc"}}, false)
	expectSameFS(t, impl.FS{Data: []string{"a b"}}, impl.FS{Data: []string{"a", "b"}}, false)
	expectSameFS(t, impl.FS{Data: []string{""}}, impl.FS{Data: []string{}}, false)
	expectSameFS(t, impl.FS{Quotas: make([]impl.Quota, 1)}, impl.FS{}, false)
	expectSameFS(t, impl.FS{Inodes: make([]impl.Inode, 1)}, impl.FS{}, false)
	expectSameFS(t, impl.FS{Inodes: make([]impl.Inode, 100000)}, impl.FS{Inodes: make([]impl.Inode, 99999)}, false)
	expectSameFS(t, impl.FS{Data: make([]string, 100000)}, impl.FS{Data: append(make([]string, 99999), "x")}, false)
}

// TestEmptySlicesOfFS checks that a slice that is nil is like an empty one, also with room behind it, and in the inodes.
func TestEmptySlicesOfFS(t *testing.T) {
	full := busyFS()
	for k := range 27 {
		f := impl.FS{
			Tick:   3,
			Quotas: [][]impl.Quota{nil, {}, full.Quotas[:0]}[k%3],
			Inodes: [][]impl.Inode{nil, {}, full.Inodes[:0]}[k/3%3],
			Data:   [][]string{nil, {}, full.Data[:0]}[k/9],
		}
		expectSameFS(t, f, impl.FS{Tick: 3}, true)
		expectSameFS(t, f, impl.FS{}, false)
		if impl.IsFS(f) {
			t.Errorf("%v is valid", f)
		}
	}
	numbers, entries := []int{5}, acl([3]int{3, 0, 7})
	for _, n := range []impl.Inode{{}, inodeOf(1, 420, 1, 2, 3, 0, 4), inodeOf(2, 420, 1, 2, 3, 0, 4)} {
		f := emptyFS()
		f.Inodes[9] = n
		for k := range 27 {
			g := cloneFS(f)
			g.Inodes[9].Blocks = [][]int{nil, {}, numbers[:0]}[k%3]
			g.Inodes[9].Acl = [][]impl.AclEntry{nil, {}, entries[:0]}[k/3%3]
			g.Inodes[9].Default = [][]impl.AclEntry{nil, {}, entries[:0]}[k/9]
			expectSameFS(t, f, g, true)
			if !impl.IsFS(g) || answersOf(g, 1) != answersOf(f, 1) {
				t.Errorf("with empty lists, the answers for %v are %v", g.Inodes[9], answersOf(g, 1))
			}
		}
	}
}

// roomyFS returns f with room behind all its slices, and the whole of these.
func roomyFS(f impl.FS) (part impl.FS, whole impl.FS) {
	whole.Tick = f.Tick
	whole.Quotas = append(slices.Clone(f.Quotas), impl.Quota{Inodes: 5, Blocks: 14}, impl.Quota{Inodes: 1, Blocks: 1})
	whole.Inodes = append(slices.Clone(f.Inodes), inodeOf(1, 420, 0, 0, 1, 32, 0, 5), inodeOf(2, 420, 0, 0, 1, 0, 0))
	whole.Data = append(slices.Clone(f.Data), sector("spare"), sector(""))
	part.Tick = f.Tick
	part.Quotas, part.Data = whole.Quotas[:len(f.Quotas)], whole.Data[:len(f.Data)]
	part.Inodes = whole.Inodes[:len(f.Inodes)]
	for i, n := range f.Inodes {
		part.Inodes[i], _ = roomyInode(n)
	}
	return part, whole
}

// wholeFS returns f with all that is behind its slices.
func wholeFS(f impl.FS) impl.FS {
	f.Quotas, f.Inodes, f.Data = f.Quotas[:cap(f.Quotas)], slices.Clone(f.Inodes[:cap(f.Inodes)]), f.Data[:cap(f.Data)]
	for i, n := range f.Inodes {
		n.Blocks = n.Blocks[:cap(n.Blocks)]
		f.Inodes[i] = withLists(n, n.Acl[:cap(n.Acl)], n.Default[:cap(n.Default)])
	}
	return f
}

func spoilQuotas(l []impl.Quota) {
	l = l[:cap(l)]
	for u := range l {
		l[u] = impl.Quota{Inodes: -7, Blocks: -7}
	}
}

// spoilFS overwrites the slices of f, those of its inodes, and the room behind them.
func spoilFS(f impl.FS) {
	spoilQuotas(f.Quotas)
	inodes, data := f.Inodes[:cap(f.Inodes)], f.Data[:cap(f.Data)]
	for i := range inodes {
		spoilInode(inodes[i])
		inodes[i] = impl.Inode{Kind: -7}
	}
	for b := range data {
		data[b] = "spoiled"
	}
}

// fsAnswers returns all that the functions say of f, as a text.
func fsAnswers(f impl.FS) string {
	text := fmt.Sprint(impl.IsFS(f), impl.SameFS(f, f), impl.SameFS(f, impl.FS{}), impl.SameFS(f, busyFS()))
	for u := -1; u <= 4; u++ {
		text += fmt.Sprint(" ", answersOf(f, u))
	}
	return text + " " + nameFS(impl.NewFS(f.Quotas))
}

// TestFSArgumentsStay also checks that no result depends on what is behind an argument, or on a call before.
func TestFSArgumentsStay(t *testing.T) {
	for _, f := range append(someFS(), brokenFS()...) {
		part, whole := roomyFS(f)
		before, beforeBehind, want := nameFS(whole), nameFS(wholeFS(part)), fsAnswers(f)
		if got := fsAnswers(part); got != want {
			t.Errorf("with room behind %s: %.500s, not %.500s", briefFS(f), got, want)
		}
		if nameFS(whole) != before || nameFS(wholeFS(part)) != beforeBehind {
			t.Errorf("%.300s is changed to %s", before, briefFS(whole))
		}
		spoilFS(part)
		if got := fsAnswers(f); got != want {
			t.Errorf("after a change of an earlier argument, for %s: %.500s, not %.500s", briefFS(f), got, want)
		}
	}
}

// TestNewFSIsNew changes an argument and a result: neither may be seen in the other, or in another result.
func TestNewFSIsNew(t *testing.T) {
	for _, l := range [][]impl.Quota{nil, {}, quotas(5, 14), quotas(0, 0), quotas(3, 7), quotas(5, 15), quotas(5, 14)[:3]} {
		whole := append(slices.Clone(l), impl.Quota{Inodes: 5, Blocks: 14}, impl.Quota{Inodes: 2, Blocks: 3})
		part, before := whole[:len(l)], slices.Clone(whole)
		first, other := impl.NewFS(part), impl.NewFS(part)
		want := nameFS(other)
		spoilFS(first)
		if !slices.Equal(whole, before) || nameFS(other) != want || nameFS(impl.NewFS(part)) != want || nameFS(impl.NewFS(l)) != want {
			t.Errorf("after a change of NewFS(%v): %v, %s", l, whole, briefFS(other))
		}
		spoilQuotas(whole)
		if nameFS(other) != want || nameFS(impl.NewFS(before[:len(l)])) != want {
			t.Errorf("NewFS(%v) changes with its argument: %s", l, briefFS(other))
		}
	}
}

// TestPartsOfNewFSAreNew changes one slice of a result: the others stay as they are.
func TestPartsOfNewFSAreNew(t *testing.T) {
	for k, spoil := range []func(f impl.FS){
		func(f impl.FS) { spoilQuotas(f.Quotas) },
		func(f impl.FS) { clear(f.Inodes[:cap(f.Inodes)]) },
		func(f impl.FS) { clear(f.Data[:cap(f.Data)]) },
	} {
		f, want := impl.NewFS(quotas(4, 9)), impl.NewFS(quotas(4, 9))
		spoil(f)
		switch k {
		case 0:
			want.Quotas = quotas(-7, -7)
		case 1:
			want.Inodes = make([]impl.Inode, 20)
		case 2:
			want.Data = make([]string, 56)
		}
		if nameFS(f) != nameFS(want) {
			t.Errorf("after a change of part %d, it is %s", k, nameFS(f))
		}
	}
}

// TestStateCallsKeepNothing makes calls at the same time, which must not disturb each other.
func TestStateCallsKeepNothing(t *testing.T) {
	var group sync.WaitGroup
	systems := append(someFS(), impl.FS{})
	for k, c := range append(brokenChanges(), allowedChanges()...) {
		if k%100 == 0 {
			systems = append(systems, c.of(busyFS()))
		}
	}
	for _, f := range systems {
		group.Go(func() {
			want := fsAnswers(f)
			for range 20 {
				if got := fsAnswers(f); got != want {
					t.Errorf("the answers for %s are %.500s, then %.500s", briefFS(f), want, got)
				}
			}
		})
	}
	group.Wait()
}
