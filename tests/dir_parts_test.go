package tests

import (
	"fmt"
	"math"
	"strings"
	"sync"
	"testing"

	"loop.example/g00817/impl"
)

// dirCalls returns calls of AddEntry and RemoveEntry with all codes, that change directories of treeFS and of other file systems.
func dirCalls() []contentCall {
	var calls []contentCall
	for _, dir := range []int{math.MinInt, -1, 0, 1, 3, 5, 7, 8, 19, 20, math.MaxInt} {
		for k, name := range []string{"one", "new", "", "late", "abcdefghijkl", "a/b", "again", "a", entriesOf(5)[4].Name} {
			for _, i := range []int{-1, 0, 7, 19, 20} {
				if (k+i)%2 == 0 || k < 3 {
					add := func(f impl.FS) (impl.FS, int) { return impl.AddEntry(f, dir, name, i) }
					calls = append(calls, contentCall{fmt.Sprint("AddEntry ", dir, " ", name, " ", i), add})
				}
			}
			remove := func(f impl.FS) (impl.FS, int) { return impl.RemoveEntry(f, dir, name) }
			calls = append(calls, contentCall{fmt.Sprint("RemoveEntry ", dir, " ", name), remove})
		}
	}
	return calls
}

// fewDirSystems returns file systems of all kinds, also ones that are not valid.
func fewDirSystems() []impl.FS {
	systems := []impl.FS{treeFS(), emptyFS()}
	for k, f := range dirSystems() {
		if k%6 == 0 {
			systems = append(systems, f)
		}
	}
	broken := treeFS()
	broken.Tick = -1
	return append(append(systems, broken), fewBrokenFS()...)
}

// TestDirArgumentsStay also checks that no result depends on what is behind an argument, or shares memory with it or with another result.
func TestDirArgumentsStay(t *testing.T) {
	calls := dirCalls()
	for number, f := range fewDirSystems() {
		for k, call := range calls {
			if number > 3 && (k+number)%13 != 0 {
				continue
			}
			part, whole := roomyFS(f)
			before, beforeBehind := nameFS(whole), nameFS(wholeFS(part))
			want, wantCode := call.run(f)
			first, code := call.run(part)
			other, _ := call.run(part)
			name := nameFS(want)
			if code != wantCode || nameFS(first) != name || nameFS(other) != name {
				t.Errorf("%s with room behind %s: %d, %s, not %d, %s", call.name, briefFS(f), code, briefFS(first), wantCode, briefFS(want))
			}
			if lost := markFS(first); lost > 0 {
				t.Errorf("%s of %s: the result shares %d places with itself", call.name, briefFS(f), lost)
			}
			if nameFS(whole) != before || nameFS(wholeFS(part)) != beforeBehind || nameFS(other) != name {
				t.Errorf("%s changes %.300s, or another result", call.name, before)
			}
			spoilFS(part)
			if nameFS(other) != name {
				t.Errorf("the result of %s of %s changes with its argument", call.name, briefFS(f))
			}
		}
	}
}

// dirAnswers returns all that the functions say of the directories of f, as a text.
func dirAnswers(f impl.FS) string {
	var text strings.Builder
	for i := -1; i <= 20; i++ {
		dir, parentName, isThere := impl.ParentOf(f, i)
		found, ok := impl.FindEntry(f, i, "one")
		fmt.Fprintf(&text, "%v %d %q %v %d %v\n", impl.EntriesOf(f, i), dir, parentName, isThere, found, ok)
	}
	return text.String()
}

// TestDirReadsChangeNothing does the same for the functions that return no file system.
func TestDirReadsChangeNothing(t *testing.T) {
	for _, f := range fewDirSystems() {
		part, whole := roomyFS(f)
		before, beforeBehind, want := nameFS(whole), nameFS(wholeFS(part)), dirAnswers(f)
		if got := dirAnswers(part); got != want || nameFS(whole) != before || nameFS(wholeFS(part)) != beforeBehind {
			t.Errorf("with room behind %s: %.500s, not %.500s", briefFS(f), got, want)
		}
		l, other := impl.EntriesOf(part, 0), impl.EntriesOf(part, 0)
		wantOther := fmt.Sprintf("%v", other)
		for k := range l[:cap(l)] {
			l[:cap(l)][k] = impl.DirEntry{Name: "spoiled", Inode: -7}
		}
		if fmt.Sprintf("%v", other) != wantOther || dirAnswers(part) != want {
			t.Errorf("after a change of a result, the answers for %s are others", briefFS(f))
		}
		spoilFS(part)
		if fmt.Sprintf("%v", other) != wantOther || dirAnswers(f) != want {
			t.Errorf("the entries of %s change with their argument", briefFS(f))
		}
	}
}

// TestDirsOfEmptySlices checks that a slice that is nil is like an empty one.
func TestDirsOfEmptySlices(t *testing.T) {
	f, g := treeFS(), treeFS()
	for i := range g.Inodes {
		n := &g.Inodes[i]
		if len(n.Blocks) == 0 {
			n.Blocks = []int{}
		}
		n.Acl, n.Default = append([]impl.AclEntry{}, n.Acl...), append([]impl.AclEntry{}, n.Default...)
	}
	if got, want := dirAnswers(g), dirAnswers(f); got != want {
		t.Errorf("with empty slices, the answers are %s and not %s", got, want)
	}
	nothing := []impl.FS{{}, {Quotas: []impl.Quota{}, Inodes: []impl.Inode{}, Data: []string{}}}
	for _, call := range dirCalls() {
		a, code := call.run(f)
		if b, sameCode := call.run(g); code != sameCode || !equalFS(a, b) {
			t.Errorf("with empty slices, %s returns %s, %d, and with nil %s, %d", call.name, briefFS(b), sameCode, briefFS(a), code)
		}
		for _, f := range nothing {
			if g, code := call.run(f); code != impl.ErInvalid || !equalFS(g, f) {
				t.Errorf("%s of nothing returns %s, %d", call.name, briefFS(g), code)
			}
		}
	}
}

// TestDirCallsKeepNothing makes calls at the same time, which must not disturb each other.
func TestDirCallsKeepNothing(t *testing.T) {
	var group sync.WaitGroup
	shared, answers := treeFS(), dirAnswers(treeFS())
	for k, call := range dirCalls() {
		if k%4 != 0 {
			continue
		}
		group.Go(func() {
			want, wantCode := call.run(treeFS())
			for range 5 {
				if got, code := call.run(shared); code != wantCode || !equalFS(got, want) {
					t.Errorf("%s returns %s, %d, then %s, %d", call.name, briefFS(want), wantCode, briefFS(got), code)
				}
			}
			if got := dirAnswers(shared); got != answers {
				t.Errorf("beside %s, the answers are %s", call.name, got)
			}
		})
	}
	group.Wait()
}
