package tests

import (
	"fmt"
	"math"
	"math/bits"
	"math/rand"
	"slices"
	"testing"

	"loop.example/g00817/impl"
)

// poolAnswers are the answers of the four functions for one user.
type poolAnswers struct{ inodes, blocks, inode, inodeCode, block, blockCode int }

func answersOf(f impl.FS, u int) poolAnswers {
	i, inodeCode := impl.NextInode(f, u)
	b, blockCode := impl.NextBlock(f, u)
	return poolAnswers{impl.InodesOf(f, u), impl.BlocksOf(f, u), i, inodeCode, b, blockCode}
}

// wantNext looks for the first number from first on, of size ones, that is not in use.
func wantNext(used map[int]bool, first int, size int, quota int) (count int, n int, code int) {
	n = -1
	for k := first + size - 1; k >= first; k-- {
		if used[k] {
			count++
		} else {
			n = k
		}
	}
	if count >= quota {
		return count, 0, 7
	}
	return count, n, 0
}

// wantAnswers follows the definitions of the pools, for a valid file system.
func wantAnswers(f impl.FS, u int) poolAnswers {
	usedInodes, usedBlocks := map[int]bool{}, map[int]bool{}
	for i, n := range f.Inodes {
		usedInodes[i] = n.Kind != 0
		for _, b := range n.Blocks {
			usedBlocks[b] = true
		}
	}
	var want poolAnswers
	want.inodes, want.inode, want.inodeCode = wantNext(usedInodes, 5*u, 5, f.Quotas[u].Inodes)
	want.blocks, want.block, want.blockCode = wantNext(usedBlocks, 14*u, 14, f.Quotas[u].Blocks)
	return want
}

// expectAnswers also checks what the promise says of a number: that it lies in the pool, is not in use, and is within the quota.
func expectAnswers(t *testing.T, f impl.FS, u int, want poolAnswers) {
	t.Helper()
	got := answersOf(f, u)
	if got != want {
		t.Errorf("the answers for user %d are %v and not %v, with %s", u, got, want, nameFS(f))
	}
	hasBlock := func(n impl.Inode) bool { return slices.Contains(n.Blocks, got.block) }
	if got.inodeCode == 0 && (got.inode/5 != u || f.Inodes[got.inode].Kind != 0 || got.inodes+1 > f.Quotas[u].Inodes) {
		t.Errorf("user %d may not allocate inode %d, with %s", u, got.inode, nameFS(f))
	}
	if got.blockCode == 0 && (impl.BlockOwner(got.block) != u || slices.ContainsFunc(f.Inodes, hasBlock) || got.blocks+1 > f.Quotas[u].Blocks) {
		t.Errorf("user %d may not allocate block %d, with %s", u, got.block, nameFS(f))
	}
}

func TestKnownPools(t *testing.T) {
	few := busyFS()
	few.Quotas = []impl.Quota{{Inodes: 2, Blocks: 3}, {Inodes: 4, Blocks: 1}, {Inodes: 2, Blocks: 10}, {Inodes: 5, Blocks: 14}}
	none := emptyFS()
	none.Quotas = quotas(0, 0)
	one := emptyFS()
	one.Quotas = quotas(1, 1)
	for _, c := range []struct {
		f    impl.FS
		want [4]poolAnswers
	}{
		{emptyFS(), [4]poolAnswers{{1, 0, 1, 0, 0, 0}, {0, 0, 5, 0, 14, 0}, {0, 0, 10, 0, 28, 0}, {0, 0, 15, 0, 42, 0}}},
		{none, [4]poolAnswers{{1, 0, 0, 7, 0, 7}, {0, 0, 0, 7, 0, 7}, {0, 0, 0, 7, 0, 7}, {0, 0, 0, 7, 0, 7}}},
		{one, [4]poolAnswers{{1, 0, 0, 7, 0, 0}, {0, 0, 5, 0, 14, 0}, {0, 0, 10, 0, 28, 0}, {0, 0, 15, 0, 42, 0}}},
		{busyFS(), [4]poolAnswers{{2, 3, 2, 0, 3, 0}, {3, 2, 8, 0, 15, 0}, {1, 9, 0, 7, 28, 0}, {3, 2, 0, 7, 0, 7}}},
		{few, [4]poolAnswers{{2, 3, 0, 7, 0, 7}, {3, 2, 8, 0, 0, 7}, {1, 9, 10, 0, 28, 0}, {3, 2, 16, 0, 43, 0}}},
		{fullFS(), [4]poolAnswers{{5, 14, 0, 7, 0, 7}, {5, 14, 0, 7, 0, 7}, {5, 14, 0, 7, 0, 7}, {5, 14, 0, 7, 0, 7}}},
	} {
		for u, want := range c.want {
			expectAnswers(t, c.f, u, want)
			if want != wantAnswers(c.f, u) {
				t.Errorf("the definition leads to %v for user %d, with %s", wantAnswers(c.f, u), u, nameFS(c.f))
			}
		}
	}
}

// withInodes returns f with the inodes of the pool of u that mask chooses, which belong to several users; the root stays.
func withInodes(f impl.FS, u int, mask int) impl.FS {
	f = cloneFS(f)
	for k := range 5 {
		if i := 5*u + k; mask>>k&1 == 1 && i > 0 {
			f.Inodes[i] = inodeOf(1+k%2, 420, (u+k)%4, u, k, 0, 3)
		}
	}
	return f
}

// withBlocks returns f with two objects of u, whose inodes lie in the pools of others, that have the blocks of the pool of u that mask chooses.
func withBlocks(f impl.FS, u int, mask int) impl.FS {
	var parts [2][]int
	for k := range 14 {
		if mask>>k&1 == 1 {
			parts[k%2] = append(parts[k%2], 14*u+k)
		}
	}
	slices.Reverse(parts[1])
	for k, blocks := range parts {
		if len(blocks) < 8 {
			blocks = slices.Insert(blocks, len(blocks)/2, -1)
		}
		f = withObject(f, 5*((u+1+k)%4)+3+k, inodeOf(1+k, 420, u, 3-u, 1, 32*len(blocks), 3, blocks...))
	}
	return f
}

// poolShapes returns choices of n numbers: none, all, each beginning, each end, each single one, each single gap, and some others.
func poolShapes(n int) []int {
	all := 1<<n - 1
	masks := []int{0, all, all / 3, all - all/3, 0x1b6d & all, 0x2a5c & all, 0x1f3c & all}
	for k := range n {
		masks = append(masks, 1<<k, all-1<<k, 1<<k-1, all-1<<k+1, 1<<k|1, 1<<k|1<<(n-1))
	}
	slices.Sort(masks)
	return slices.Compact(masks)
}

// otherPool is what is in use of the pools of the others, and their quota.
type otherPool struct {
	inodes, blocks int
	quota          impl.Quota
}

func otherPools() []otherPool {
	none, all := impl.Quota{}, impl.Quota{Inodes: 5, Blocks: 14}
	return []otherPool{{0, 0, none}, {0, 0, all}, {31, 1<<14 - 1, all}, {31, 1<<14 - 1, none}, {0x0a, 0x0ff3, impl.Quota{Inodes: 3, Blocks: 13}}}
}

// fsBeside returns a file system in which all users but u have what mask chooses, by withInodes or by withBlocks.
func fsBeside(u int, q impl.Quota, mask int, with func(f impl.FS, v int, mask int) impl.FS) impl.FS {
	f := emptyFS()
	for v := range 4 {
		if v != u {
			f = with(f, v, mask)
			f.Quotas[v] = q
		}
	}
	return f
}

// TestNextInode has each choice of a pool's inodes in use, with each quota: 0, less than what is in use, the same, one more, and all.
func TestNextInode(t *testing.T) {
	for u := range 4 {
		for _, others := range otherPools() {
			f := fsBeside(u, others.quota, others.inodes, withInodes)
			for mask := range 32 {
				g := withInodes(f, u, mask)
				if u == 0 {
					mask |= 1
				}
				for quota := range 6 {
					g.Quotas[u] = impl.Quota{Inodes: quota, Blocks: 14 - quota}
					want := poolAnswers{inodes: bits.OnesCount(uint(mask)), inodeCode: 7, block: 14 * u}
					if want.inodes < quota {
						want.inode, want.inodeCode = 5*u+bits.TrailingZeros(^uint(mask)), 0
					}
					expectAnswers(t, g, u, want)
				}
			}
		}
	}
}

// TestNextBlock does the same for blocks, which are in use by inodes of any pool.
func TestNextBlock(t *testing.T) {
	for u := range 4 {
		for _, others := range otherPools() {
			f := fsBeside(u, others.quota, others.blocks, withBlocks)
			for _, mask := range poolShapes(14) {
				g := withBlocks(f, u, mask)
				for quota := range 15 {
					g.Quotas[u] = impl.Quota{Inodes: quota % 6, Blocks: quota}
					want := wantAnswers(g, u)
					want.blocks, want.block, want.blockCode = bits.OnesCount(uint(mask)), 0, 7
					if want.blocks < quota {
						want.block, want.blockCode = 14*u+bits.TrailingZeros(^uint(mask)), 0
					}
					expectAnswers(t, g, u, want)
				}
			}
		}
	}
}

// TestReachedQuotasOfFullPools has pools without a free number: the quota is reached as well, and its code comes first.
func TestReachedQuotasOfFullPools(t *testing.T) {
	for u := range 4 {
		for quota := range 15 {
			f := fullFS()
			f.Quotas[u] = impl.Quota{Inodes: min(quota, 5), Blocks: quota}
			expectAnswers(t, f, u, poolAnswers{5, 14, 0, impl.ErQuota, 0, impl.ErQuota})
		}
	}
}

// TestOtherPoolsMakeNoDifference changes everything that belongs to others.
func TestOtherPoolsMakeNoDifference(t *testing.T) {
	full := fullFS()
	for u := range 4 {
		f := withBlocks(withInodes(emptyFS(), u, 5), u, 0x0137)
		want := answersOf(f, u)
		for v := range 4 {
			if v == u {
				continue
			}
			f.Quotas[v] = impl.Quota{}
			f = withObject(f, 5*v+1, full.Inodes[5*v+1])
			f = withObject(f, 5*v+2, inodeOf(2, 493, v, v, 1, 256, 3, full.Inodes[5*v].Blocks...))
			if got := answersOf(f, u); got != want || !impl.IsFS(f) {
				t.Errorf("after changes of user %d, the answers for user %d are %v and not %v", v, u, got, want)
			}
		}
	}
}

// TestHolesTakeNoBlocks has objects of holes only, and of one block among holes.
func TestHolesTakeNoBlocks(t *testing.T) {
	for u := range 4 {
		f := emptyFS()
		holes := slices.Repeat([]int{-1}, 8)
		f.Inodes[5*u+1] = inodeOf(1, 420, u, u, 1, 256, 0, holes...)
		for at := range 8 {
			blocks := slices.Clone(holes)
			blocks[at] = 14 * u
			g := withObject(f, 5*u+2, inodeOf(2, 493, u, u, 1, 256, 0, blocks...))
			if got := []int{impl.BlocksOf(f, u), impl.BlocksOf(g, u), impl.InodesOf(g, u)}; !slices.Equal(got, []int{0, 1, impl.InodesOf(f, u) + 1}) {
				t.Errorf("with %v for user %d: %v", blocks, u, got)
			}
			if b, code := impl.NextBlock(g, u); b != 14*u+1 || code != 0 {
				t.Errorf("with %v, the next block of user %d is %d, %d", blocks, u, b, code)
			}
		}
	}
}

func TestPoolsRefuse(t *testing.T) {
	refused := poolAnswers{0, 0, 0, impl.ErInvalid, 0, impl.ErInvalid}
	for _, f := range brokenFS() {
		for u := -1; u <= 4; u++ {
			if got := answersOf(f, u); got != refused {
				t.Errorf("the answers for user %d are %v, with %s", u, got, briefFS(f))
			}
		}
	}
	users := append(oddNumbers(), 4, 5, 6, 14, 19, 20, 55, 56, -3, -4, -5, -14, 1<<61, 1<<62+1, 1<<63-1, math.MinInt/5, math.MinInt/14, math.MaxInt/5+1, math.MaxInt/14+1)
	for _, f := range someFS() {
		for _, u := range users {
			if got := answersOf(f, u); got != refused {
				t.Errorf("the answers for user %d are %v", u, got)
			}
		}
	}
	for _, c := range brokenChanges() {
		f := c.of(busyFS())
		for u := range 4 {
			if got := answersOf(f, u); got != refused {
				t.Errorf("with the change %q, the answers for user %d are %v", c.name, u, got)
			}
		}
	}
}

func TestPoolsOfChangedFS(t *testing.T) {
	for _, c := range allowedChanges() {
		for u := range 4 {
			f := c.of(busyFS())
			expectAnswers(t, f, u, wantAnswers(f, u))
		}
	}
}

// pooledFS is a file system whose users allocate and free, with a model of what they have.
type pooledFS struct {
	f      impl.FS
	inodes map[int]bool
	blocks map[int]bool
}

// allocateInode takes the next inode of u, where the model is used only to check it.
func (p *pooledFS) allocateInode(t *testing.T, u int) {
	t.Helper()
	i, code := impl.NextInode(p.f, u)
	count, want, wantCode := wantNext(p.inodes, 5*u, 5, p.f.Quotas[u].Inodes)
	if i != want || code != wantCode || impl.InodesOf(p.f, u) != count {
		t.Errorf("with %d inodes of user %d, the next one is %d, %d and not %d, %d", count, u, i, code, want, wantCode)
	}
	if code == 0 {
		p.inodes[i] = true
		p.f.Inodes[i] = inodeOf(1+i%2, 420, u, 0, 1, 0, 0)
	}
}

// allocateBlock gives the next block of u to inode i.
func (p *pooledFS) allocateBlock(t *testing.T, i int) {
	t.Helper()
	n := &p.f.Inodes[i]
	b, code := impl.NextBlock(p.f, n.Uid)
	count, want, wantCode := wantNext(p.blocks, 14*n.Uid, 14, p.f.Quotas[n.Uid].Blocks)
	if b != want || code != wantCode || impl.BlocksOf(p.f, n.Uid) != count {
		t.Errorf("with %d blocks of user %d, the next one is %d, %d and not %d, %d", count, n.Uid, b, code, want, wantCode)
	}
	if code == 0 {
		p.blocks[b] = true
		n.Blocks, n.Size = append(n.Blocks, b), n.Size+32
		p.f.Data[b] = sector(fmt.Sprint("block ", b))
	}
}

// free makes inode i free, and its blocks as well.
func (p *pooledFS) free(i int) {
	for _, b := range p.f.Inodes[i].Blocks {
		delete(p.blocks, b)
		p.f.Data[b] = sector("")
	}
	delete(p.inodes, i)
	p.f.Inodes[i] = impl.Inode{}
}

// TestHistoriesOfPools allocates what the functions return, so that every number that they return is used at once.
func TestHistoriesOfPools(t *testing.T) {
	random := rand.New(rand.NewSource(8))
	p := pooledFS{emptyFS(), map[int]bool{0: true}, map[int]bool{}}
	codes := map[int]int{}
	for range 6000 {
		u, i := random.Intn(4), random.Intn(20)
		switch n := p.f.Inodes[i]; random.Intn(8) {
		case 0:
			p.f.Quotas[u] = impl.Quota{Inodes: 5 - random.Intn(6)*random.Intn(2), Blocks: 14 - random.Intn(15)*random.Intn(2)}
		case 1:
			if i > 0 {
				p.free(i)
			}
		case 2, 3:
			p.allocateInode(t, u)
		default:
			if n.Kind != 0 && len(n.Blocks) < 8 {
				p.allocateBlock(t, i)
			}
		}
		if !impl.IsFS(p.f) {
			t.Fatalf("%s is not valid", nameFS(p.f))
		}
		_, inodeCode := impl.NextInode(p.f, u)
		_, blockCode := impl.NextBlock(p.f, u)
		codes[inodeCode]++
		codes[10+blockCode]++
	}
	if len(codes) != 4 || min(codes[0], codes[7], codes[10], codes[17]) < 300 {
		t.Errorf("the codes are %v", codes)
	}
}
