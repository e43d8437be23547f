package tests

import (
	"fmt"
	"math"
	"strings"
	"sync"
	"testing"

	"loop.example/g00817/impl"
)

// contentCall is one call of a function that returns a file system, and what it is called.
type contentCall struct {
	name string
	run  func(f impl.FS) (impl.FS, int)
}

// contentCalls returns calls with all codes, that change inodes of busyFS and of other file systems.
func contentCalls() []contentCall {
	var calls []contentCall
	add := func(run func(f impl.FS) (impl.FS, int), name ...any) {
		calls = append(calls, contentCall{fmt.Sprint(name...), run})
	}
	for _, i := range []int{math.MinInt, -1, 0, 1, 2, 5, 6, 11, 15, 19, 20, math.MaxInt} {
		for _, at := range []int{-1, 0, 31, 40, 250, math.MaxInt} {
			for _, s := range []string{"", "abc", strings.Repeat("w", 80)} {
				add(func(f impl.FS) (impl.FS, int) { return impl.WriteBytes(f, i, at, s) }, "write ", i, " ", at, " ", len(s))
			}
			add(func(f impl.FS) (impl.FS, int) { return impl.ResizeFile(f, i, at) }, "resize ", i, " ", at)
		}
		for u := -1; u <= 4; u++ {
			add(func(f impl.FS) (impl.FS, int) { return impl.MoveOwner(f, i, u) }, "move ", i, " ", u)
		}
		add(func(f impl.FS) (impl.FS, int) { return impl.FreeObject(f, i) }, "free ", i)
	}
	return calls
}

// fewBrokenFS returns some file systems that are not valid, but for the largest ones.
func fewBrokenFS() []impl.FS {
	var systems []impl.FS
	for k, f := range brokenFS() {
		if len(f.Quotas)+len(f.Inodes)+len(f.Data) < 1000 && (k < 12 || k%40 == 0) {
			systems = append(systems, f)
		}
	}
	return systems
}

// markFS overwrites all slices of f, and the room behind them, each element with its own mark; it returns how many of the marks are gone at the end.
func markFS(f impl.FS) int {
	mark, lost := 1000, 0
	var checks []func() bool
	next := func(set func(mark int), get func() int) {
		mark++
		want := mark
		set(want)
		checks = append(checks, func() bool { return get() == want })
	}
	markAcl := func(l []impl.AclEntry) {
		for k := range l[:cap(l)] {
			next(func(x int) { l[:cap(l)][k].Perm = x }, func() int { return l[:cap(l)][k].Perm })
		}
	}
	for _, n := range f.Inodes {
		for k := range n.Blocks[:cap(n.Blocks)] {
			next(func(x int) { n.Blocks[:cap(n.Blocks)][k] = x }, func() int { return n.Blocks[:cap(n.Blocks)][k] })
		}
		markAcl(n.Acl)
		markAcl(n.Default)
	}
	inodes, quotas, data := f.Inodes[:cap(f.Inodes)], f.Quotas[:cap(f.Quotas)], f.Data[:cap(f.Data)]
	for k := range inodes {
		next(func(x int) { inodes[k].Kind = x }, func() int { return inodes[k].Kind })
	}
	for k := range quotas {
		next(func(x int) { quotas[k].Inodes = x }, func() int { return quotas[k].Inodes })
	}
	for k := range data {
		next(func(x int) { data[k] = strings.Repeat("m", x) }, func() int { return len(data[k]) })
	}
	for _, isThere := range checks {
		if !isThere() {
			lost++
		}
	}
	return lost
}

// TestContentArgumentsStay also checks that no result depends on what is behind an argument, or shares memory with it or with another result.
func TestContentArgumentsStay(t *testing.T) {
	calls := contentCalls()
	for number, f := range append(someFS(), fewBrokenFS()...) {
		for k, call := range calls {
			if number > 4 && (k+number)%11 != 0 {
				continue
			}
			part, whole := roomyFS(f)
			before, beforeBehind := nameFS(whole), nameFS(wholeFS(part))
			want, wantCode := call.run(f)
			first, code := call.run(part)
			other, _ := call.run(part)
			name := nameFS(want)
			if code != wantCode || nameFS(first) != name || nameFS(other) != name {
				t.Errorf("%s with room behind %s: %d, %s, not %d, %s", call.name, briefFS(f), code, briefFS(first), wantCode, briefFS(want))
			}
			if lost := markFS(first); lost > 0 {
				t.Errorf("%s of %s: the result shares %d places with itself", call.name, briefFS(f), lost)
			}
			if nameFS(whole) != before || nameFS(wholeFS(part)) != beforeBehind || nameFS(other) != name {
				t.Errorf("%s changes %.300s, or another result", call.name, before)
			}
			spoilFS(part)
			if nameFS(other) != name {
				t.Errorf("the result of %s of %s changes with its argument", call.name, briefFS(f))
			}
		}
	}
}

// TestReadsChangeNothing does the same for ReadBytes.
func TestReadsChangeNothing(t *testing.T) {
	for _, f := range append(someFS(), fewBrokenFS()...) {
		part, whole := roomyFS(f)
		before, beforeBehind := nameFS(whole), nameFS(wholeFS(part))
		var read []string
		for i := -1; i <= 20; i++ {
			for _, at := range []int{-1, 0, 31, 60, 256, math.MaxInt} {
				read = append(read, impl.ReadBytes(part, i, at, 40))
				if last := read[len(read)-1]; last != impl.ReadBytes(f, i, at, 40) || last != wantReadBytes(f, i, at, 40) {
					t.Errorf("ReadBytes(%d, %d) is %q, with room behind %s", i, at, last, briefFS(f))
				}
			}
		}
		want := fmt.Sprintf("%q", read)
		if nameFS(whole) != before || nameFS(wholeFS(part)) != beforeBehind {
			t.Errorf("%.300s is changed to %s", before, briefFS(whole))
		}
		spoilFS(part)
		if got := fmt.Sprintf("%q", read); got != want {
			t.Errorf("what is read changes with its argument: %.500s", got)
		}
	}
}

// TestContentsOfEmptySlices checks that a slice that is nil is like an empty one.
func TestContentsOfEmptySlices(t *testing.T) {
	for _, call := range contentCalls() {
		f, g := busyFS(), busyFS()
		for i := range g.Inodes {
			n := &g.Inodes[i]
			if len(n.Blocks) == 0 {
				n.Blocks = []int{}
			}
			n.Acl, n.Default = append([]impl.AclEntry{}, n.Acl...), append([]impl.AclEntry{}, n.Default...)
		}
		a, code := call.run(f)
		b, sameCode := call.run(g)
		if code != sameCode || !equalFS(a, b) {
			t.Errorf("with empty slices, %s returns %s, %d, and with nil %s, %d", call.name, briefFS(b), sameCode, briefFS(a), code)
		}
	}
	for _, f := range []impl.FS{{}, {Quotas: []impl.Quota{}, Inodes: []impl.Inode{}, Data: []string{}}} {
		for _, call := range contentCalls() {
			if g, code := call.run(f); code != impl.ErInvalid || !equalFS(g, f) {
				t.Errorf("%s of nothing returns %s, %d", call.name, briefFS(g), code)
			}
		}
	}
}

// TestContentCallsKeepNothing makes calls at the same time, which must not disturb each other.
func TestContentCallsKeepNothing(t *testing.T) {
	var group sync.WaitGroup
	shared := busyFS()
	for k, call := range contentCalls() {
		if k%3 != 0 {
			continue
		}
		group.Go(func() {
			want, wantCode := call.run(busyFS())
			for range 5 {
				if got, code := call.run(shared); code != wantCode || !equalFS(got, want) {
					t.Errorf("%s returns %s, %d, then %s, %d", call.name, briefFS(want), wantCode, briefFS(got), code)
				}
				if got := impl.ReadBytes(shared, 1, 30, 38); got != "aa"+strings.Repeat("\x00", 32)+"cccc" {
					t.Errorf("beside %s, %q is read", call.name, got)
				}
			}
		})
	}
	group.Wait()
}
