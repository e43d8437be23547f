package tests

import (
	"fmt"
	"slices"
	"strings"
	"sync"
	"testing"

	"loop.example/g00817/impl"
)

// pathSystems returns file systems of all kinds, also ones that are not valid.
func pathSystems() []impl.FS {
	broken := chainOf(longChain...)
	broken.Tick = -1
	private := chainOf(longChain...)
	private.Inodes[7].Mode, private.Inodes[7].Acl = 0, acl([3]int{1, 2, 1}, [3]int{2, 3, 7}, [3]int{3, 0, 1})
	systems := []impl.FS{chainOf(longChain...), private, treeFS(), objectsFS(), emptyFS(), fullFS(), broken}
	return append(systems, fewBrokenFS()...)
}

// pathCreds returns creds some of which are not valid.
func pathCreds() []impl.Cred {
	return []impl.Cred{cred(0, 0), cred(1, 1), cred(2, 0, 3), cred(3, 0, 0, 1, 3), cred(4, 0), cred(1, 0, 1, 0)}
}

// pathAnswers returns all that the functions say of f for c, as a text.
func pathAnswers(f impl.FS, c impl.Cred) string {
	var text strings.Builder
	for _, p := range []string{"/", "/a", "/one", "/sub/first", "/sub/up/one", chainPath(2), chainPath(3), chainPath(8), chainPath(9), "/a/bbbbbb/x", "a", ""} {
		i, code := impl.ResolvePath(f, c, p)
		dir, name, parentCode := impl.ResolveParent(f, c, p)
		fmt.Fprintf(&text, "%d %d %d %q %d\n", i, code, dir, name, parentCode)
	}
	for i := -1; i <= 20; i++ {
		p, ok := impl.PathOf(f, i)
		fmt.Fprintf(&text, "%q %v %v %v\n", p, ok, impl.MayAccess(f, c, i, 1), impl.MayAccess(f, c, i, 6))
	}
	return text.String()
}

// TestPathArgumentsStay also checks that no result depends on what is behind an argument, or on a call before.
func TestPathArgumentsStay(t *testing.T) {
	for _, f := range pathSystems() {
		for _, c := range pathCreds() {
			part, whole := roomyFS(f)
			user, groups := roomyCred(c)
			before, beforeBehind, beforeGroups, want := nameFS(whole), nameFS(wholeFS(part)), slices.Clone(groups), pathAnswers(f, c)
			if got := pathAnswers(part, user); got != want {
				t.Errorf("with room behind %v and %s: %.500s, not %.500s", c, briefFS(f), got, want)
			}
			if nameFS(whole) != before || nameFS(wholeFS(part)) != beforeBehind || !slices.Equal(groups, beforeGroups) {
				t.Errorf("%v and %.300s are changed", c, before)
			}
			spoilFS(part)
			for k := range groups {
				groups[k] = -7
			}
			if got := pathAnswers(f, c); got != want {
				t.Errorf("after a change of earlier arguments, for %v and %s: %.500s, not %.500s", c, briefFS(f), got, want)
			}
		}
	}
}

// TestNamesAreNew changes the names that one call returned, and what is behind them.
func TestNamesAreNew(t *testing.T) {
	for k := range 9 {
		p := chainPath(k)
		first, ok := impl.SplitPath(p)
		other, otherOk := impl.SplitPath(p)
		for j := range first[:cap(first)] {
			first[:cap(first)][j] = "spoiled"
		}
		last, lastOk := impl.SplitPath(p)
		if !ok || !otherOk || !lastOk || !slices.Equal(other, chainNames(k)) || !slices.Equal(last, chainNames(k)) {
			t.Errorf("the names of %q are %q, then %q", p, other, last)
		}
	}
}

// TestJoinedNamesStay gives JoinPath names with others behind them.
func TestJoinedNamesStay(t *testing.T) {
	for k := range 10 {
		part, whole := roomy(chainNames(k)...)
		before := slices.Clone(whole)
		p := impl.JoinPath(part)
		if p != chainPath(k) || !slices.Equal(whole, before) {
			t.Errorf("%q is joined to %q, and becomes %q", before, p, whole)
		}
		for j := range whole {
			whole[j] = "spoiled"
		}
		if p != chainPath(k) || impl.JoinPath(before[:k]) != p {
			t.Errorf("after a change of the names, the path is %q", p)
		}
	}
}

// TestPathsOfEmptySlices checks that a slice that is nil is like an empty one.
func TestPathsOfEmptySlices(t *testing.T) {
	for _, f := range []impl.FS{chainOf(longChain...), treeFS(), objectsFS(), emptyFS()} {
		g := cloneFS(f)
		for i := range g.Inodes {
			n := &g.Inodes[i]
			if len(n.Blocks) == 0 {
				n.Blocks = []int{}
			}
			n.Acl, n.Default = append([]impl.AclEntry{}, n.Acl...), append([]impl.AclEntry{}, n.Default...)
		}
		for uid := range 4 {
			got, want := pathAnswers(g, impl.Cred{Uid: uid, Gid: 1, Groups: []int{}}), pathAnswers(f, impl.Cred{Uid: uid, Gid: 1})
			if got != want {
				t.Errorf("with empty slices, the answers are %s and not %s", got, want)
			}
		}
	}
	nothing := impl.FS{Quotas: []impl.Quota{}, Inodes: []impl.Inode{}, Data: []string{}}
	if got, want := pathAnswers(nothing, cred(0, 0)), pathAnswers(impl.FS{}, cred(0, 0)); got != want {
		t.Errorf("of nothing, the answers are %s and not %s", got, want)
	}
	if impl.JoinPath([]string{}) != impl.JoinPath(nil) {
		t.Errorf("no names are joined to %q", impl.JoinPath([]string{}))
	}
}

// TestPathCallsKeepNothing makes calls at the same time, which must not disturb each other.
func TestPathCallsKeepNothing(t *testing.T) {
	var group sync.WaitGroup
	for _, f := range pathSystems()[:7] {
		for _, c := range pathCreds() {
			want, names := pathAnswers(f, c), chainNames(8)
			group.Go(func() {
				for k := range 5 {
					if got := pathAnswers(f, c); got != want {
						t.Errorf("for %v, the answers are %s, then %s", c, want, got)
					}
					if l, ok := impl.SplitPath(impl.JoinPath(names[:k])); !ok || !slices.Equal(l, names[:k]) {
						t.Errorf("%q become %q", names[:k], l)
					}
				}
			})
			group.Go(func() {
				for range 5 {
					if got := pathAnswers(f, c); got != want {
						t.Errorf("for %v, the answers are %s, then %s", c, want, got)
					}
				}
			})
		}
	}
	group.Wait()
}

// TestFirstPathConditions has calls for which two conditions fail or more.
func TestFirstPathConditions(t *testing.T) {
	f := chainOf(longChain...)
	f.Inodes[7].Mode = 0
	f.Inodes[1].Kind = 1
	closed := cloneFS(f)
	closed.Inodes[0].Mode = 0
	broken := cloneFS(f)
	broken.Data = broken.Data[:55]
	for _, c := range []struct {
		name             string
		f                impl.FS
		c                impl.Cred
		p                string
		code, parentCode int
	}{
		{"a system that is not valid, and no path", broken, cred(1, 1), "a", impl.ErInvalid, impl.ErInvalid}, {"a system that is not valid, and no names", broken, cred(1, 1), "/", impl.ErInvalid, impl.ErInvalid},
		{"nothing valid", broken, cred(-1, 1), "", impl.ErInvalid, impl.ErInvalid}, {"a user that is not valid, and no path", f, cred(4, 1), "//", impl.ErInvalid, impl.ErInvalid}, {"a user that is not valid, and no names", f, cred(1, 4), "/", impl.ErInvalid, impl.ErInvalid},
		{"a user that is not valid, and no entry", f, cred(1, 1, 2, 2), "/x/y", impl.ErInvalid, impl.ErInvalid}, {"a user that is not valid, and no access", f, cred(1, 4), chainPath(3), impl.ErInvalid, impl.ErInvalid},
		{"no path, and no access", closed, cred(2, 2), "/a/", impl.ErName, impl.ErName}, {"no path, and no entry", f, cred(2, 2), "/x/y/..", impl.ErName, impl.ErName}, {"too many names, and no entry", f, cred(2, 2), "/x" + chainPath(8), impl.ErName, impl.ErName},
		{"no access, and no entry", closed, cred(2, 2), "/x", impl.ErAccess, impl.ErAccess}, {"no access, and no entry, and then more", closed, cred(2, 2), "/x/y", impl.ErAccess, impl.ErAccess}, {"no access to the root, and then none", closed, cred(2, 2), chainPath(3), impl.ErAccess, impl.ErAccess},
		{"no entry, but access", f, cred(2, 2), "/x/y", impl.ErMissing, impl.ErMissing}, {"no entry, where another name leads to what is closed", f, cred(2, 2), "/x" + chainPath(3)[2:], impl.ErMissing, impl.ErMissing},
		{"no access, and then a file", f, cred(2, 2), chainPath(4), impl.ErAccess, impl.ErAccess}, {"a file, and then no entry", f, cred(0, 0), chainPath(3) + "/x/y", impl.ErNotDir, impl.ErNotDir}, {"a file that has no entry", f, cred(0, 0), chainPath(3) + "/x", impl.ErNotDir, impl.ErNotDir},
		{"a free inode at the end", f, cred(2, 2), "/a/free", impl.ErMissing, impl.ErOk}, {"a free inode on the way", f, cred(2, 2), "/a/free/x", impl.ErNotDir, impl.ErMissing}, {"a free inode farther away", f, cred(2, 2), "/a/free/x/y", impl.ErNotDir, impl.ErNotDir},
		{"a free inode in what is closed", closed, cred(2, 2), "/free", impl.ErAccess, impl.ErAccess}, {"a free inode on the way in what is closed", closed, cred(2, 2), "/free/x", impl.ErAccess, impl.ErAccess},
		{"nothing to pass", closed, cred(2, 2), "/", impl.ErOk, impl.ErName}, {"the directory that is closed", f, cred(2, 2), chainPath(2), impl.ErOk, impl.ErOk}, {"an entry of it", f, cred(2, 2), chainPath(2) + "/x", impl.ErAccess, impl.ErAccess},
	} {
		i, code := impl.ResolvePath(c.f, c.c, c.p)
		if code != c.code || code != 0 && i != 0 {
			t.Errorf("with %s, %q leads to %d, %d", c.name, c.p, i, code)
		}
		dir, name, code := impl.ResolveParent(c.f, c.c, c.p)
		if code != c.parentCode || code != 0 && (dir != 0 || name != "") {
			t.Errorf("with %s, the parent of %q is %d, %q, %d", c.name, c.p, dir, name, code)
		}
	}
}
