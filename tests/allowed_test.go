package tests

import (
	"math"
	"slices"
	"testing"

	"loop.example/g00817/impl"
)

// object is what a permission is asked for.
type object struct {
	uid, gid, mode int
	acl            []impl.AclEntry
}

func (o object) allows(c impl.Cred, want int) bool {
	return impl.Allowed(c, o.uid, o.gid, o.mode, o.acl, want)
}

// hasBits compares bit by bit.
func hasBits(perm int, want int) bool {
	for _, bit := range []int{4, 2, 1} {
		if want/bit%2 == 1 && perm/bit%2 == 0 {
			return false
		}
	}
	return true
}

// wantAllowed takes the rules in the opposite order, each of them overriding those before it; the arguments must be valid.
func wantAllowed(c impl.Cred, o object, want int) bool {
	result := hasBits(o.mode%8, want)
	mask := 7
	for _, e := range o.acl {
		if e.Tag == 3 {
			mask = e.Perm
		}
	}
	counts, enough := false, false
	for g := range 4 {
		if g != c.Gid && !slices.Contains(c.Groups, g) {
			continue
		}
		if g == o.gid {
			counts, enough = true, enough || hasBits(o.mode/8%8, want)
		}
		for _, e := range o.acl {
			if e.Tag == 2 && e.Id == g {
				counts, enough = true, enough || hasBits(e.Perm, want)
			}
		}
	}
	if counts {
		result = enough && hasBits(mask, want)
	}
	for _, e := range o.acl {
		if e.Tag == 1 && e.Id == c.Uid {
			result = hasBits(e.Perm, want) && hasBits(mask, want)
		}
	}
	if c.Uid == o.uid {
		result = hasBits(o.mode/64%8, want)
	}
	return result || c.Uid == 0
}

// wantAnyAllowed is wantAllowed for all arguments.
func wantAnyAllowed(c impl.Cred, o object, want int) bool {
	isNumber := func(n int, limit int) bool { return n >= 0 && n < limit }
	if !wantCred(c) || !isNumber(o.uid, 4) || !isNumber(o.gid, 4) || !isModeNumber(o.mode) || !wantAcl(o.acl) || !isNumber(want, 8) {
		return false
	}
	return wantAllowed(c, o, want)
}

// includedIn returns the permissions from 0 to 7 that one of perms includes.
func includedIn(perms ...int) []int {
	var list []int
	for want := range 8 {
		if slices.ContainsFunc(perms, func(p int) bool { return hasBits(p, want) }) {
			list = append(list, want)
		}
	}
	return list
}

func TestIncludedPermissions(t *testing.T) {
	for _, c := range []struct{ got, want []int }{
		{includedIn(7), []int{0, 1, 2, 3, 4, 5, 6, 7}}, {includedIn(0), []int{0}}, {includedIn(6), []int{0, 2, 4, 6}}, {includedIn(5), []int{0, 1, 4, 5}},
		{includedIn(4, 2), []int{0, 2, 4}}, {includedIn(3, 4), []int{0, 1, 2, 3, 4}}, {includedIn(), nil},
	} {
		if !slices.Equal(c.got, c.want) {
			t.Errorf("%v, not %v", c.got, c.want)
		}
	}
}

// all are the permissions of the superuser.
var all = includedIn(7)

type permCase struct {
	name   string
	c      impl.Cred
	o      object
	wanted []int // what is allowed
}

func expectCases(t *testing.T, cases []permCase) {
	t.Helper()
	for _, x := range cases {
		for want := range 8 {
			if got := x.o.allows(x.c, want); got != slices.Contains(x.wanted, want) {
				t.Errorf("%s: %v may have %d of %v: %v", x.name, x.c, want, x.o, got)
			}
		}
	}
}

func TestClasses(t *testing.T) {
	list := acl([3]int{1, 0, 0}, [3]int{1, 1, 0}, [3]int{2, 1, 0}, [3]int{3, 0, 0})
	expectCases(t, []permCase{
		{"the superuser", cred(0, 0), object{1, 1, 0, nil}, all},
		{"the superuser as owner", cred(0, 0), object{0, 0, 0, nil}, all},
		{"the superuser in the list", cred(0, 1), object{1, 1, 0, list}, all},
		{"the superuser in the group", cred(0, 2, 1), object{1, 2, 0707, nil}, all},
		{"the owner", cred(2, 1), object{2, 0, 0600, nil}, includedIn(6)},
		{"the owner of nothing", cred(2, 1), object{2, 0, 0077, nil}, includedIn(0)},
		{"the owner in the group", cred(2, 1), object{2, 1, 0470, nil}, includedIn(4)},
		{"the owner with Setgid and Sticky", cred(2, 1), object{2, 0, 01700, nil}, includedIn(7)},
		{"the owner in the list", cred(2, 1), object{2, 0, 0300, acl([3]int{1, 2, 4}, [3]int{3, 0, 4})}, includedIn(3)},
		{"the owner and a mask of 0", cred(2, 1), object{2, 0, 0500, acl([3]int{3, 0, 0})}, includedIn(5)},
		{"the owner and a list for its group", cred(2, 1), object{2, 1, 0100, acl([3]int{2, 1, 6}, [3]int{3, 0, 7})}, includedIn(1)},
		{"the group by Gid", cred(2, 1), object{0, 1, 0040, nil}, includedIn(4)},
		{"the group by Groups", cred(2, 1, 3), object{0, 3, 0020, nil}, includedIn(2)},
		{"the group by both", cred(2, 1, 1), object{0, 1, 0010, nil}, includedIn(1)},
		{"the last of the groups", cred(2, 0, 0, 1, 3), object{0, 3, 0050, nil}, includedIn(5)},
		{"the group 0", cred(2, 0), object{1, 0, 0707, nil}, includedIn(0)},
		{"the group with less than the others", cred(2, 1), object{0, 1, 0717, nil}, includedIn(1)},
		{"a Uid like the group", cred(2, 1), object{0, 2, 0604, nil}, includedIn(4)},
		{"a Gid like the owner", cred(2, 1), object{1, 0, 0703, nil}, includedIn(3)},
		{"the others", cred(2, 1, 3), object{0, 2, 0005, nil}, includedIn(5)},
		{"the others of nothing", cred(2, 1), object{0, 2, 0770, nil}, includedIn(0)},
		{"the others and a mask of 0", cred(2, 1), object{0, 2, 0006, acl([3]int{3, 0, 0})}, includedIn(6)},
		{"the others and a list for others", cred(2, 1), object{0, 2, 0003, acl([3]int{1, 1, 7}, [3]int{2, 2, 4}, [3]int{3, 0, 4})}, includedIn(3)},
		{"no list and an empty one", cred(2, 1), object{0, 1, 0070, []impl.AclEntry{}}, all},
	})
}

func TestNamedUsers(t *testing.T) {
	named := func(perm int, mask int) []impl.AclEntry { return acl([3]int{1, 2, perm}, [3]int{3, 0, mask}) }
	expectCases(t, []permCase{
		{"with the mask's bits", cred(2, 1), object{0, 0, 0, named(6, 7)}, includedIn(6)},
		{"with the same mask", cred(2, 1), object{0, 0, 0, named(5, 5)}, includedIn(5)},
		{"without the mask's bits", cred(2, 1), object{0, 0, 0600, named(6, 4)}, includedIn(4)},
		{"with other bits than the mask", cred(2, 1), object{0, 0, 0777, named(4, 3)}, includedIn(0)},
		{"with some bits of the mask", cred(2, 1), object{0, 0, 0777, named(3, 6)}, includedIn(2)},
		{"with a mask of 0", cred(2, 1), object{0, 0, 0777, named(7, 0)}, includedIn(0)},
		{"with a Perm of 0", cred(2, 1), object{0, 0, 0777, named(0, 7)}, includedIn(0)},
		{"in a group with more", cred(2, 1), object{0, 1, 0070, named(1, 7)}, includedIn(1)},
		{"in a listed group with more", cred(2, 1), object{0, 0, 0, acl([3]int{1, 2, 1}, [3]int{2, 1, 7}, [3]int{3, 0, 7})}, includedIn(1)},
		{"not added to the group", cred(2, 1), object{0, 1, 0020, acl([3]int{1, 2, 4}, [3]int{2, 1, 2}, [3]int{3, 0, 7})}, includedIn(4)},
		{"among several", cred(2, 1), object{0, 0, 0, acl([3]int{1, 0, 7}, [3]int{1, 1, 1}, [3]int{1, 2, 2}, [3]int{1, 3, 4}, [3]int{3, 0, 7})}, includedIn(2)},
		{"another one", cred(3, 1), object{0, 0, 0001, named(7, 7)}, includedIn(1)},
		{"a group of this number", cred(1, 2), object{0, 0, 0001, named(6, 7)}, includedIn(1)},
	})
}

func TestGroups(t *testing.T) {
	one := func(id int, perm int, mask int) []impl.AclEntry { return acl([3]int{2, id, perm}, [3]int{3, 0, mask}) }
	two := acl([3]int{2, 1, 4}, [3]int{2, 3, 2}, [3]int{3, 0, 7})
	expectCases(t, []permCase{
		{"listed, by Gid", cred(2, 1), object{0, 0, 0, one(1, 6, 7)}, includedIn(6)},
		{"listed, by Groups", cred(2, 1, 3), object{0, 0, 0, one(3, 5, 7)}, includedIn(5)},
		{"listed, by both", cred(2, 3, 3), object{0, 0, 0, one(3, 5, 7)}, includedIn(5)},
		{"listed, masked", cred(2, 1), object{0, 0, 0, one(1, 6, 5)}, includedIn(4)},
		{"listed, masked to 0", cred(2, 1), object{0, 0, 0777, one(1, 7, 0)}, includedIn(0)},
		{"listed, less than the others", cred(2, 1), object{0, 0, 0007, one(1, 1, 7)}, includedIn(1)},
		{"listed with 0", cred(2, 1), object{0, 0, 0777, one(1, 0, 7)}, includedIn(0)},
		{"the own one masked", cred(2, 1), object{0, 1, 0070, acl([3]int{3, 0, 3})}, includedIn(3)},
		{"the own one masked to 0", cred(2, 1), object{0, 1, 0077, acl([3]int{3, 0, 0})}, includedIn(0)},
		{"the own one beside another's entry", cred(2, 1), object{0, 1, 0050, one(2, 7, 6)}, includedIn(4)},
		{"the own one listed with more", cred(2, 1), object{0, 1, 0010, one(1, 6, 7)}, includedIn(1, 6)},
		{"the own one listed with less", cred(2, 1), object{0, 1, 0070, one(1, 2, 7)}, all},
		{"the own and a listed one", cred(2, 1, 3), object{0, 1, 0040, one(3, 2, 7)}, []int{0, 2, 4}},
		{"the own and a listed one, masked", cred(2, 1, 3), object{0, 1, 0050, one(3, 3, 1)}, includedIn(1)},
		{"two listed ones do not add up", cred(2, 1, 3), object{0, 0, 0, two}, []int{0, 2, 4}},
		{"two listed ones and the others", cred(2, 1, 3), object{0, 0, 0007, two}, []int{0, 2, 4}},
		{"the first of two", cred(2, 1), object{0, 0, 0, two}, includedIn(4)},
		{"the second of two", cred(2, 0, 3), object{0, 2, 0, two}, includedIn(2)},
		{"three do not add up", cred(2, 1, 0, 3), object{0, 0, 0010, two}, []int{0, 1, 2, 4}},
		{"none of them", cred(2, 2), object{0, 0, 0003, two}, includedIn(3)},
		{"listed as a user", cred(2, 1), object{0, 0, 0002, acl([3]int{1, 1, 7}, [3]int{3, 0, 7})}, includedIn(2)},
		{"a Uid like a listed group", cred(2, 1), object{0, 0, 0002, one(2, 7, 7)}, includedIn(2)},
	})
}

// expectAllowed asks for every want, and checks that what is allowed includes all that is smaller.
func expectAllowed(t *testing.T, c impl.Cred, o object) {
	t.Helper()
	allowed := 0
	for want := range 8 {
		got := o.allows(c, want)
		if got != wantAllowed(c, o, want) {
			t.Errorf("%v may have %d of %v: %v", c, want, o, got)
		}
		if got {
			allowed |= 1 << want
		}
	}
	for want := range 8 {
		for smaller := range want {
			if want&smaller == smaller && allowed>>want&1 == 1 && allowed>>smaller&1 == 0 {
				t.Errorf("%v may have %d, but not %d of %v", c, want, smaller, o)
			}
		}
	}
}

func TestAllowedForAllCreds(t *testing.T) {
	lists := append(someAcls(), acl([3]int{2, 1, 4}, [3]int{2, 3, 2}, [3]int{3, 0, 7}), acl([3]int{1, 1, 5}, [3]int{1, 2, 3}, [3]int{2, 2, 6}, [3]int{3, 0, 6}))
	for _, c := range validCreds() {
		for _, mode := range []int{0, 2047, 0421, 0356, 0124, 0070, 01000 + 0635} {
			for _, l := range lists {
				for k := range 16 {
					expectAllowed(t, c, object{k / 4, k % 4, mode, l})
				}
			}
		}
	}
}

func TestAllowedForAllModes(t *testing.T) {
	lists := [][]impl.AclEntry{nil, acl([3]int{3, 0, 5}), acl([3]int{1, 2, 6}, [3]int{3, 0, 4}), acl([3]int{2, 1, 4}, [3]int{2, 3, 2}, [3]int{3, 0, 6})}
	for mode := range 2048 {
		for _, l := range lists {
			for _, c := range []impl.Cred{cred(0, 0), cred(1, 0), cred(2, 1), cred(2, 0, 2), cred(3, 1, 0, 2, 3), cred(3, 3)} {
				expectAllowed(t, c, object{1, 2, mode, l})
			}
		}
	}
}

func TestAllowedForManyLists(t *testing.T) {
	creds := validCreds()
	for k, l := range validAcls() {
		for j := range 12 {
			expectAllowed(t, creds[(k*7+j*41)%256], object{(k + j) % 4, (k/4 + j) % 4, (k*37 + j*219) % 2048, l})
		}
	}
}

// grantingCases returns Creds and objects, where all is valid and every want is allowed, for each reason.
func grantingCases() []permCase {
	return []permCase{
		{"the superuser", cred(0, 1, 2), object{1, 1, 0, nil}, all},
		{"the owner", cred(2, 1, 0, 3), object{2, 0, 0700, acl([3]int{1, 2, 0}, [3]int{2, 0, 0}, [3]int{3, 0, 0})}, all},
		{"a named user", cred(2, 1, 3), object{0, 0, 0, acl([3]int{1, 2, 7}, [3]int{3, 0, 7})}, all},
		{"the group", cred(2, 1, 3), object{0, 3, 0070, nil}, all},
		{"a listed group", cred(2, 1, 3), object{0, 0, 0, acl([3]int{2, 1, 7}, [3]int{3, 0, 7})}, all},
		{"the others", cred(2, 1, 3), object{0, 0, 0007, nil}, all},
	}
}

// expectRefused checks that nothing is allowed, with arguments of which one is not valid.
func expectRefused(t *testing.T, c impl.Cred, o object, name string) {
	t.Helper()
	for want := range 8 {
		if o.allows(c, want) {
			t.Errorf("%s: %.60v may have %d of %.60v", name, c, want, o)
		}
	}
}

func TestAllowedRefuses(t *testing.T) {
	expectCases(t, grantingCases())
	for _, x := range grantingCases() {
		for _, n := range append(oddNumbers(), 4, 5) {
			expectRefused(t, x.c, object{n, x.o.gid, x.o.mode, x.o.acl}, x.name)
			expectRefused(t, x.c, object{x.o.uid, n, x.o.mode, x.o.acl}, x.name)
			expectRefused(t, cred(n, x.c.Gid, x.c.Groups...), x.o, x.name)
			expectRefused(t, cred(n, x.c.Gid, x.c.Groups...), object{n, x.o.gid, x.o.mode, x.o.acl}, x.name)
			expectRefused(t, cred(x.c.Uid, n, x.c.Groups...), x.o, x.name)
			expectRefused(t, cred(x.c.Uid, n, x.c.Groups...), object{x.o.uid, n, x.o.mode, x.o.acl}, x.name)
			expectRefused(t, cred(x.c.Uid, x.c.Gid, n), x.o, x.name)
		}
		for _, groups := range [][]int{{1, 1}, {3, 1}, {3, 3}, {0, 1, 2, 3, 3}, {1, 4}, {-1, 1}, {3, 2, 1, 0}, make([]int, 100)} {
			expectRefused(t, cred(x.c.Uid, x.c.Gid, groups...), x.o, x.name)
		}
		for _, mode := range modesAndOthers() {
			if !isModeNumber(mode) {
				expectRefused(t, x.c, object{x.o.uid, x.o.gid, mode, x.o.acl}, x.name)
			}
		}
		for _, want := range oddNumbers() {
			if x.o.allows(x.c, want) {
				t.Errorf("%s: %v may have %d of %v", x.name, x.c, want, x.o)
			}
		}
	}
}

func TestAllowedRefusesInvalidLists(t *testing.T) {
	for _, l := range append(allAcls(), acl([3]int{1, 2, 7}), acl([3]int{2, 1, 7}), acl([3]int{3, 0, 7}, [3]int{1, 2, 7}), acl([3]int{1, 2, 7}, [3]int{3, 0, 15})) {
		if wantAcl(l) {
			continue
		}
		for _, x := range grantingCases() {
			expectRefused(t, x.c, object{x.o.uid, x.o.gid, 0777, l}, x.name)
		}
	}
}

// TestAllowedForOddArguments has several arguments that are not valid at once, too.
func TestAllowedForOddArguments(t *testing.T) {
	numbers := []int{math.MinInt, -1, 0, 3, 4, 7, 8, math.MaxInt}
	for _, c := range []impl.Cred{{}, cred(3, 3), cred(-1, 0), cred(0, 4), cred(math.MinInt, math.MaxInt, math.MinInt), cred(4, 4, 4), cred(3, 0, 3), cred(0, 0, 3, 0)} {
		for _, l := range [][]impl.AclEntry{nil, {}, make([]impl.AclEntry, 3), acl([3]int{3, 0, 7}), acl([3]int{1, -1, -1}), acl([3]int{3, 0, -1})} {
			for _, uid := range numbers {
				for _, gid := range numbers {
					for _, mode := range []int{math.MinInt, -1, 0, 7, 2047, 2048, 4095, math.MaxInt} {
						for _, want := range numbers {
							o := object{uid, gid, mode, l}
							if got := o.allows(c, want); got != wantAnyAllowed(c, o, want) {
								t.Errorf("%v may have %d of %v: %v", c, want, o, got)
							}
						}
					}
				}
			}
		}
	}
}

func TestStickyDirectories(t *testing.T) {
	c, root := cred(2, 1, 3), cred(0, 1)
	for _, x := range []struct {
		c                  impl.Cred
		dirUid, mode, file int
		want               bool
	}{
		{c, 1, 512, 3, false}, {c, 1, 512, 2, true}, {c, 2, 512, 3, true}, {c, 2, 512, 2, true}, {c, 0, 512, 0, false}, {c, 1, 512, 1, false}, {c, 3, 512, 3, false},
		{root, 1, 512, 3, true}, {root, 0, 512, 0, true}, {root, 3, 512, 3, true}, {cred(1, 2, 2), 2, 512, 3, false}, {cred(1, 2, 2), 3, 512, 2, false},
		{c, 1, 0, 3, true}, {c, 1, 511, 3, true}, {c, 1, 1024, 3, true}, {c, 1, 1535, 3, true}, {c, 1, 1023, 3, false}, {c, 1, 1536, 3, false}, {c, 1, 2047, 3, false},
		{c, 1, 2047, 2, true}, {c, 2, 2047, 3, true}, {root, 1, 2047, 3, true}, {c, 1, -1, 2, false}, {c, 2, 2048, 2, false}, {c, 2, 2560, 2, false},
		{root, 0, -1, 0, false}, {root, 0, 2048, 0, false}, {root, 0, math.MinInt, 0, false}, {root, 0, math.MaxInt, 0, false}, {c, 1, 2048, 3, false},
		{c, -1, 512, 4, false}, {c, -1, 0, 4, true}, {root, math.MinInt, 512, math.MaxInt, true}, {c, math.MaxInt, 512, math.MinInt, false},
		{cred(4, 0), 4, 512, 4, false}, {cred(4, 0), 4, 0, 4, false}, {cred(-1, 0), -1, 512, -1, false}, {cred(0, 4), 0, 512, 0, false}, {cred(0, 0, 1, 1), 0, 0, 0, false},
		{cred(0, 0, 2, 1), 0, 512, 0, false}, {cred(2, 1, 4), 2, 512, 2, false}, {cred(2, -1), 2, 0, 2, false},
	} {
		if got := impl.MayRemove(x.c, x.dirUid, x.mode, x.file); got != x.want {
			t.Errorf("MayRemove(%v, %d, %d, %d) is %v", x.c, x.dirUid, x.mode, x.file, got)
		}
	}
}

func TestMayRemove(t *testing.T) {
	users := []int{math.MinInt, -1, 0, 1, 2, 3, 4, math.MaxInt}
	expect := func(c impl.Cred, mode int) {
		t.Helper()
		for _, dirUid := range users {
			for _, uid := range users {
				want := wantCred(c) && isModeNumber(mode) && (mode/512%2 == 0 || slices.Contains([]int{0, dirUid, uid}, c.Uid))
				if got := impl.MayRemove(c, dirUid, mode, uid); got != want {
					t.Errorf("MayRemove(%.60v, %d, %d, %d) is %v", c, dirUid, mode, uid, got)
				}
			}
		}
	}
	for _, c := range append(validCreds(), invalidCreds()...) {
		for _, mode := range []int{-1, 0, 511, 512, 1023, 1024, 1535, 1536, 2047, 2048, 2560} {
			expect(c, mode)
		}
	}
	for _, mode := range append(modesAndOthers(), oddNumbers()...) {
		for uid := range 4 {
			expect(cred(uid, 1, 2), mode)
		}
	}
}
