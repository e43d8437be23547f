package tests

import (
	"slices"
	"strconv"
	"strings"
	"testing"

	"loop.example/g00817/impl"
)

// A transaction that is interrupted at any step must have taken effect completely or not at all once its disk is recovered.

// usedDisk returns a disk without pending writes whose journal is full of an earlier transaction that was completed.
func usedDisk(t *testing.T, n int) impl.Disk {
	t.Helper()
	d := busyDisk(n, 0)
	old := someTxn(min(n-69, 64), 1)
	for k := range old {
		old[k].Data = sector("old " + strconv.Itoa(k))
	}
	steps := impl.TxnSteps(1, old)
	d = impl.RunSteps(d, steps, len(steps))
	if d.Sectors[0] != sector("old 0") || d.Sectors[1] != sector("") || len(d.Pending) != 0 {
		t.Fatalf("the earlier transaction leaves %s", nameDisk(d))
	}
	return d
}

// afterTxn returns what all sectors should be after a transaction, except for those of the journal.
func afterTxn(d impl.Disk, list []impl.Write) impl.Disk {
	d = cloneDisk(d)
	for _, w := range list {
		d.Sectors[w.Sector] = w.Data
	}
	return d
}

// sameOutside reports whether two disks without pending writes are equal outside of the journal.
func sameOutside(a impl.Disk, b impl.Disk) bool {
	if len(a.Pending) > 0 || len(b.Pending) > 0 || len(a.Sectors) != len(b.Sectors) {
		return false
	}
	return slices.Equal(a.Sectors[:1], b.Sectors[:1]) && slices.Equal(a.Sectors[70:], b.Sectors[70:])
}

// survivingWrites returns all choices among n pending writes if there are a few of them, and otherwise some of all kinds.
func survivingWrites(n int) [][]bool {
	if n <= 5 {
		var full [][]bool
		for _, keep := range allChoices(n) {
			if len(keep) == n {
				full = append(full, keep)
			}
		}
		return full
	}
	choose := func(keeps func(k int) bool) []bool {
		keep := make([]bool, n)
		for k := range keep {
			keep[k] = keeps(k)
		}
		return keep
	}
	return [][]bool{
		nil, choose(func(int) bool { return true }), choose(func(k int) bool { return k%2 == 0 }), choose(func(k int) bool { return k%2 == 1 }),
		choose(func(k int) bool { return k == 0 }), choose(func(k int) bool { return k > 0 }), choose(func(k int) bool { return k == n-1 }),
		choose(func(k int) bool { return k < n-1 }), choose(func(k int) bool { return k*k%7 < 3 }), choose(func(k int) bool { return k < n/2 }),
	}
}

// crashesAfter returns the disks that a crash after the first n steps may leave, each of them once.
func crashesAfter(d impl.Disk, steps []impl.Step, n int) []impl.Disk {
	run := impl.RunSteps(d, steps, n)
	var disks []impl.Disk
	seen := map[string]bool{}
	for _, keep := range survivingWrites(len(run.Pending)) {
		crashed := impl.CrashDisk(run, keep)
		if key := strings.Join(crashed.Sectors, ""); !seen[key] {
			seen[key] = true
			disks = append(disks, crashed)
		}
	}
	return disks
}

// expectRecovered checks that a recovered disk is as it should be, and needs no further recovery.
func expectRecovered(t *testing.T, got impl.Disk, want impl.Disk, when string) {
	t.Helper()
	if !sameOutside(got, want) {
		t.Errorf("the recovered disk is wrong outside of the journal %s", when)
	}
	expectNoTxn(t, got)
}

// expectWholeOrNothing crashes a transaction after each number of its steps.
func expectWholeOrNothing(t *testing.T, before impl.Disk, list []impl.Write) {
	t.Helper()
	after := afterTxn(before, list)
	steps := impl.TxnSteps(2, list)
	commit := len(list) + (len(list)+15)/16 + 1
	for n := range len(steps) + 2 {
		when := "after " + strconv.Itoa(n) + " steps with " + nameList(list)
		found := [2]bool{}
		for _, crashed := range crashesAfter(before, steps, n) {
			recovered := impl.RecoverDisk(crashed)
			done := sameOutside(recovered, after)
			if done {
				expectRecovered(t, recovered, after, when)
				found[1] = true
			} else {
				expectRecovered(t, recovered, before, when)
				found[0] = true
			}
		}
		// Only while the write of the commit sector is pending does the crash decide.
		if found[0] != (n <= commit+1) || found[1] != (n > commit) {
			t.Errorf("there are crashes with the state before and after: %v %s", found, when)
		}
	}
	if run := impl.RunSteps(before, steps, len(steps)); !sameOutside(run, after) {
		t.Errorf("all steps do not lead to the state after %s", nameList(list))
	}
}

func TestCrashesOfTransactions(t *testing.T) {
	for _, n := range []int{70, 71, 140, 400} {
		for _, before := range []impl.Disk{busyDisk(n, 0), usedDisk(t, n), impl.NewDisk(n)} {
			for _, length := range []int{1, 2, 3, 5, 16, 17, 33, 63, 64} {
				if list := someTxn(length, 1); wantTxn(before, list) {
					expectWholeOrNothing(t, before, list)
				}
			}
		}
	}
	expectWholeOrNothing(t, usedDisk(t, 400), writesTo(0, 70, 399))
	expectWholeOrNothing(t, usedDisk(t, 400), someTxn(64, 5))
}

// TestTransactionsThatChangeLittle writes what is there already to some sectors, so that the two states differ in one.
func TestTransactionsThatChangeLittle(t *testing.T) {
	before := usedDisk(t, 140)
	for k := range 4 {
		list := someTxn(4, 1)
		for i := range list {
			if i != k {
				list[i].Data = before.Sectors[list[i].Sector]
			}
		}
		expectWholeOrNothing(t, before, list)
	}
}

// committedCrashes returns the disks with a transaction in the journal that a crash of it may leave.
func committedCrashes(before impl.Disk, list []impl.Write) []impl.Disk {
	steps := impl.TxnSteps(2, list)
	var disks []impl.Disk
	for n := range len(steps) + 1 {
		for _, crashed := range crashesAfter(before, steps, n) {
			if _, _, ok := impl.ReadJournal(crashed); ok {
				disks = append(disks, crashed)
			}
		}
	}
	return disks
}

// expectCompletion crashes the recovery of a committed transaction after each number of its steps, again and again up to depth times.
func expectCompletion(t *testing.T, d impl.Disk, after impl.Disk, depth int) {
	t.Helper()
	expectRecovered(t, impl.RecoverDisk(d), after, "after "+strconv.Itoa(depth)+" more crashes")
	steps := impl.RecoverySteps(d)
	if depth == 0 || len(steps) == 0 {
		return
	}
	for n := range len(steps) + 2 {
		for _, crashed := range crashesAfter(d, steps, n) {
			expectCompletion(t, crashed, after, depth-1)
		}
	}
}

func TestCrashesDuringRecovery(t *testing.T) {
	before := usedDisk(t, 140)
	for length, depth := range map[int]int{1: 3, 2: 2, 4: 1, 17: 1} {
		list := someTxn(length, 1)
		disks := committedCrashes(before, list)
		if len(disks) < length+1 {
			t.Errorf("only %d crashes of %d writes leave a transaction in the journal", len(disks), length)
		}
		for _, d := range disks {
			expectCompletion(t, d, afterTxn(before, list), depth)
		}
	}
}

func TestCrashesDuringALongRecovery(t *testing.T) {
	before := usedDisk(t, 140)
	list := someTxn(64, 1)
	disks := committedCrashes(before, list)
	for k := 0; k < len(disks); k += max(len(disks)/5, 1) {
		expectCompletion(t, disks[k], afterTxn(before, list), 1)
	}
	expectCompletion(t, disks[len(disks)-1], afterTxn(before, list), 1)
}

// TestHistoriesOfTransactions performs many transactions of all lengths on one disk, some of which crash, some also in their recovery.
func TestHistoriesOfTransactions(t *testing.T) {
	number := uint32(7)
	next := func(n int) int {
		number = number*1664525 + 1013904223
		return int(number>>8) % n
	}
	crash := func(d impl.Disk, steps []impl.Step) impl.Disk {
		run := impl.RunSteps(d, steps, next(len(steps)+2))
		choices := survivingWrites(len(run.Pending))
		return impl.CrashDisk(run, choices[next(len(choices))])
	}
	d := busyDisk(186, 0)
	model := cloneDisk(d)
	for seq := range 1500 {
		var list []impl.Write
		for i := next(40); i < 186 && len(list) < 64; i += 1 + next(60) {
			if i < 1 || i >= 70 {
				list = append(list, impl.Write{Sector: i, Data: sector(strconv.Itoa(seq) + " " + strconv.Itoa(i))})
			}
		}
		if len(list) == 0 {
			continue
		}
		after := afterTxn(model, list)
		d = crash(d, impl.TxnSteps(seq, list))
		_, read, committed := impl.ReadJournal(d)
		if committed && !slices.Equal(read, list) {
			t.Fatalf("the journal after a crash of transaction %d contains %s", seq, nameList(read))
		}
		for range next(3) {
			d = crash(d, impl.RecoverySteps(d))
		}
		d = impl.RecoverDisk(d)
		if committed && !sameOutside(d, after) || !sameOutside(d, after) && !sameOutside(d, model) {
			t.Fatalf("transaction %d with %s took effect in part", seq, nameList(list))
		}
		model = cloneDisk(d)
		expectNoTxn(t, d)
	}
}

// TestJournalCallsKeepNothing makes the same calls for several disks at once, as one that keeps something would mix them up.
func TestJournalCallsKeepNothing(t *testing.T) {
	run := func(n int) impl.Disk {
		d := busyDisk(140, 0)
		for seq := range 60 {
			list := someTxn(1+(n+seq)%64, 1)
			list[0].Data = sector(strconv.Itoa(n * seq))
			d = impl.CrashDisk(impl.RunSteps(d, impl.TxnSteps(seq, list), n+seq), []bool{n%2 == 0, true})
			if seq%3 == n%3 {
				d = impl.RecoverDisk(d)
			}
		}
		return d
	}
	results := make([]chan impl.Disk, 8)
	for n := range results {
		results[n] = make(chan impl.Disk, 1)
		go func() { results[n] <- run(n) }()
	}
	for n := range results {
		if got := <-results[n]; !equalDisks(got, run(n)) {
			t.Errorf("the calls that start with %d depend on other calls", n)
		}
	}
}
