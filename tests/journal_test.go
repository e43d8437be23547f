package tests

import (
	"encoding/binary"
	"hash/adler32"
	"math"
	"slices"
	"strconv"
	"strings"
	"testing"

	"loop.example/g00817/impl"
)

// someTxn returns a transaction of n writes, to the sectors 0, 70, 70 + gap and so on.
func someTxn(n int, gap int) []impl.Write {
	var list []impl.Write
	for k := range n {
		target := 0
		if k > 0 {
			target = 70 + (k-1)*gap
		}
		list = append(list, impl.Write{Sector: target, Data: sector("new " + strconv.Itoa(k))})
	}
	return list
}

// writesTo returns a list with a write to each of the sectors, in this order.
func writesTo(sectors ...int) []impl.Write {
	var list []impl.Write
	for k, i := range sectors {
		list = append(list, impl.Write{Sector: i, Data: strings.Repeat(string([]byte{byte(200 + k)}), 32)})
	}
	return list
}

// validTxns returns transactions that a disk with 400 sectors can perform.
func validTxns() [][]impl.Write {
	lists := [][]impl.Write{writesTo(0), writesTo(70), writesTo(399), writesTo(0, 70, 399), writesTo(398, 399), writesTo(255, 256)}
	for _, n := range []int{1, 2, 3, 15, 16, 17, 31, 32, 33, 47, 48, 49, 63, 64} {
		lists = append(lists, someTxn(n, 1), someTxn(n, 5), someTxn(n+1, 5)[1:][:n])
	}
	zeros := writesTo(0, 71)
	zeros[0].Data, zeros[1].Data = sector(""), strings.Repeat("é", 16)
	return append(lists, zeros)
}

// storableLists returns lists that the journal can store, but that are no transactions.
func storableLists() [][]impl.Write {
	return [][]impl.Write{
		writesTo(1), writesTo(2), writesTo(35), writesTo(68), writesTo(69), writesTo(0, 1), writesTo(0, 69, 70), writesTo(1, 70, 71), writesTo(0, 5, 399),
		writesTo(0, 0), writesTo(70, 70), writesTo(71, 70), writesTo(70, 0), writesTo(0, 70, 70), writesTo(0, 71, 70), writesTo(399, 0, 398),
		writesTo(70, 72, 72, 73), slices.Repeat(writesTo(399), 64), slices.Repeat(writesTo(0), 17),
	}
}

// longLists returns lists with data that do not fill a sector, or fill more than one.
func longLists() [][]impl.Write {
	var lists [][]impl.Write
	for _, s := range []string{"", "x", sector("a")[:31], sector("a") + "\x00", sector("a") + sector("b"), strings.Repeat("é", 32), strings.Repeat("\xff", 70000)} {
		for _, n := range []int{1, 2, 17, 64} {
			for _, k := range []int{0, n / 2, n - 1} {
				list := someTxn(n, 1)
				list[k].Data = s
				lists = append(lists, list)
			}
		}
	}
	return append(lists, make([]impl.Write, 1), make([]impl.Write, 64))
}

// unstorableLists returns lists with no writes, too many of them, or targets that no disk has.
func unstorableLists() [][]impl.Write {
	lists := [][]impl.Write{nil, {}, someTxn(65, 1), someTxn(66, 5), someTxn(1000, 1), make([]impl.Write, 65)}
	for _, i := range append(sizes(), 400, 401, 1023, 65535, 65536, 65536+70) {
		if i < 0 || i >= 400 {
			for k := range 3 {
				list := someTxn(3, 1)
				list[k].Sector = i
				lists = append(lists, list)
			}
			lists = append(lists, writesTo(i))
		}
	}
	return append(lists, append(someTxn(63, 1), writesTo(400)...), append(someTxn(64, 1), writesTo(399)...))
}

func allLists() [][]impl.Write {
	return slices.Concat(validTxns(), storableLists(), longLists(), unstorableLists())
}

// someSeqs returns sequence numbers that are valid, and others.
func someSeqs() []int {
	return append(sizes(), 1000, 65535, 65536, 999999999, 1000000000, 1000000001, 4294967295, 4294967296)
}

func nameList(list []impl.Write) string {
	text := strconv.Itoa(len(list)) + " writes:"
	for _, w := range list[:min(len(list), 4)] {
		text += " " + strconv.Itoa(w.Sector) + ":" + strconv.Quote(w.Data[:min(len(w.Data), 40)])
	}
	return text
}

func hasTargets(list []impl.Write) bool {
	wrong := func(w impl.Write) bool { return w.Sector < 0 || w.Sector > 399 }
	return len(list) >= 1 && len(list) <= 64 && !slices.ContainsFunc(list, wrong)
}

func hasWholeSectors(list []impl.Write) bool {
	return !slices.ContainsFunc(list, func(w impl.Write) bool { return len(w.Data) != 32 })
}

// wantTxn is for valid disks only.
func wantTxn(d impl.Disk, list []impl.Write) bool {
	if len(d.Sectors) < 70 || !hasTargets(list) || !hasWholeSectors(list) {
		return false
	}
	for k, w := range list {
		if k > 0 && list[k-1].Sector >= w.Sector || w.Sector >= 1 && w.Sector < 70 || w.Sector >= len(d.Sectors) {
			return false
		}
	}
	return true
}

// wantCommit is made with the library's numbers and its checksum, apart from the program's own.
func wantCommit(seq int, list []impl.Write) string {
	if seq < 0 || seq > 1000000000 || !hasTargets(list) {
		return ""
	}
	return commitOf(uint32(seq), list)
}

// commitOf has no limits, as there are also commit sectors that no transaction has.
func commitOf(seq uint32, list []impl.Write) string {
	var text []byte
	for _, w := range list {
		text = append(binary.BigEndian.AppendUint16(text, uint16(w.Sector)), w.Data...)
	}
	head := binary.BigEndian.AppendUint32([]byte("JRNL"), seq)
	head = binary.BigEndian.AppendUint16(head, uint16(len(list)))
	return sector(string(binary.BigEndian.AppendUint32(head, adler32.Checksum(text))))
}

func wantJournal(list []impl.Write) []impl.Write {
	if !hasTargets(list) || !hasWholeSectors(list) {
		return nil
	}
	targets := make([]byte, 128)
	for k, w := range list {
		binary.BigEndian.PutUint16(targets[2*k:], uint16(w.Sector))
	}
	var want []impl.Write
	for k := 0; 16*k < len(list); k++ {
		want = append(want, impl.Write{Sector: 2 + k, Data: string(targets[32*k : 32*k+32])})
	}
	for k, w := range list {
		want = append(want, impl.Write{Sector: 6 + k, Data: w.Data})
	}
	return want
}

func stepList(writes ...impl.Write) []impl.Step {
	var steps []impl.Step
	for _, w := range writes {
		steps = append(steps, impl.Step{Write: w})
	}
	return append(steps, impl.Step{Flush: true})
}

func wantRecovery(list []impl.Write) []impl.Step {
	return append(stepList(list...), stepList(impl.Write{Sector: 1, Data: sector("")})...)
}

func wantSteps(seq int, list []impl.Write) []impl.Step {
	journal, commit := wantJournal(list), wantCommit(seq, list)
	if journal == nil || commit == "" {
		return nil
	}
	return slices.Concat(stepList(journal...), stepList(impl.Write{Sector: 1, Data: commit}), wantRecovery(list))
}

// journalDisk returns a disk with n different sectors, in whose journal the list is stored, without a function of the program.
func journalDisk(n int, commit string, list []impl.Write) impl.Disk {
	d := busyDisk(n, 0)
	for _, w := range append(wantJournal(list), impl.Write{Sector: 1, Data: commit}) {
		if w.Sector < n {
			d.Sectors[w.Sector] = w.Data
		}
	}
	return d
}

func TestJournalLimits(t *testing.T) {
	if impl.JournalStart != 1 || impl.MaxTxn != 64 || impl.JournalEnd != 70 {
		t.Errorf("the limits are %d, %d and %d", impl.JournalStart, impl.MaxTxn, impl.JournalEnd)
	}
}

func TestIsTxn(t *testing.T) {
	for _, d := range validDisks() {
		for _, list := range allLists() {
			if got := impl.IsTxn(d, list); got != wantTxn(d, list) {
				t.Errorf("IsTxn(%s, %s) is %v", nameDisk(d), nameList(list), got)
			}
		}
	}
	for _, n := range []int{69, 70, 71, 72, 399, 400} {
		for _, list := range append(allLists(), writesTo(n-1), writesTo(n), writesTo(0, n-1), writesTo(0, n), writesTo(n-2, n-1, n)) {
			for _, k := range []int{0, 400} {
				if d := busyDisk(n, k); impl.IsTxn(d, list) != wantTxn(d, list) {
					t.Errorf("IsTxn(%s, %s) is %v", nameDisk(d), nameList(list), !wantTxn(d, list))
				}
			}
		}
	}
	for _, d := range invalidDisks() {
		if impl.IsTxn(d, writesTo(0)) || impl.IsTxn(d, nil) {
			t.Errorf("there is a transaction for %s, which is not valid", nameDisk(d))
		}
	}
}

func TestSectorsOfTransactions(t *testing.T) {
	for n := 68; n <= 75; n++ {
		for i := -2; i < 80; i++ {
			want := n >= 70 && i < n && (i == 0 || i >= 70)
			if got := impl.IsTxn(busyDisk(n, 0), writesTo(i)); got != want {
				t.Errorf("with %d sectors, a write to sector %d is a transaction: %v", n, i, got)
			}
		}
	}
}

func TestCommitSector(t *testing.T) {
	one := []impl.Write{{Sector: 258, Data: sector("")}}
	// The bytes 1 and 2 make a 4 and b 6; each of the 32 zeros adds 4 to b.
	if got := impl.CommitSector(0x01020304, one); got != sector("JRNL\x01\x02\x03\x04\x00\x01\x00\x86\x00\x04") {
		t.Errorf("the commit sector of one write is %q", got)
	}
	for _, list := range allLists() {
		for _, seq := range []int{0, 3, 1000000000} {
			if got := impl.CommitSector(seq, list); got != wantCommit(seq, list) {
				t.Errorf("CommitSector(%d, %s) is %q", seq, nameList(list), got)
			}
		}
	}
	for _, list := range [][]impl.Write{someTxn(1, 1), someTxn(64, 1), nil} {
		for _, seq := range someSeqs() {
			if got := impl.CommitSector(seq, list); got != wantCommit(seq, list) {
				t.Errorf("CommitSector(%d, %s) is %q", seq, nameList(list), got)
			}
		}
	}
}

func TestJournalWrites(t *testing.T) {
	got := impl.JournalWrites([]impl.Write{{Sector: 0, Data: sector("x")}, {Sector: 258, Data: sector("y")}})
	want := []impl.Write{{Sector: 2, Data: sector("\x00\x00\x01\x02")}, {Sector: 6, Data: sector("x")}, {Sector: 7, Data: sector("y")}}
	if !slices.Equal(got, want) {
		t.Errorf("the journal of two writes is %s", nameList(got))
	}
	for _, list := range allLists() {
		if got := impl.JournalWrites(list); !slices.Equal(got, wantJournal(list)) {
			t.Errorf("JournalWrites(%s) is %s", nameList(list), nameList(got))
		}
	}
	for n := range 70 {
		got := impl.JournalWrites(someTxn(n, 1))
		want := n + (n+15)/16
		if n > 64 {
			want = 0
		}
		if len(got) != want || n == 64 && got[len(got)-1].Sector != 69 {
			t.Errorf("the journal of %d writes has %d", n, len(got))
		}
	}
}

// expectTxn checks that the journal of a disk contains a transaction.
func expectTxn(t *testing.T, d impl.Disk, seq int, list []impl.Write) {
	t.Helper()
	gotSeq, got, ok := impl.ReadJournal(d)
	if !ok || gotSeq != seq || !slices.Equal(got, list) {
		t.Errorf("ReadJournal is %d, %s and %v instead of %d, %s", gotSeq, nameList(got), ok, seq, nameList(list))
	}
	if steps := impl.RecoverySteps(d); !slices.Equal(steps, wantRecovery(list)) {
		t.Errorf("RecoverySteps for %s are %d steps", nameList(list), len(steps))
	}
}

// expectNoTxn checks that the journal of a disk contains no transaction, and that the disk, valid or not, stays as it is.
func expectNoTxn(t *testing.T, d impl.Disk) {
	t.Helper()
	if seq, list, ok := impl.ReadJournal(d); ok || seq != 0 || len(list) != 0 {
		t.Errorf("ReadJournal(%s) is %d, %s and %v", nameDisk(d), seq, nameList(list), ok)
	}
	if steps := impl.RecoverySteps(d); len(steps) != 0 {
		t.Errorf("RecoverySteps(%s) are %d steps", nameDisk(d), len(steps))
	}
	if got := impl.RecoverDisk(d); !equalDisks(got, d) {
		t.Errorf("RecoverDisk(%s) is %s", nameDisk(d), nameDisk(got))
	}
}

// TestReadJournal reads transactions as the program itself stored them, both from the cache and from the disk.
func TestReadJournal(t *testing.T) {
	for k, list := range validTxns() {
		for _, seq := range []int{0, 1, 255, 256, 65536 + k, 999999999, 1000000000} {
			d := busyDisk(400, 7)
			for _, w := range append(impl.JournalWrites(list), impl.Write{Sector: impl.JournalStart, Data: impl.CommitSector(seq, list)}) {
				d, _ = impl.WriteSector(d, w.Sector, w.Data)
			}
			expectTxn(t, d, seq, list)
			expectTxn(t, impl.FlushDisk(d), seq, list)
			expectNoTxn(t, impl.CrashDisk(d, nil))
		}
	}
	for n := 1; n <= 64; n++ {
		expectTxn(t, journalDisk(400, wantCommit(n, someTxn(n, 5)), someTxn(n, 5)), n, someTxn(n, 5))
	}
	for _, seq := range someSeqs() {
		d := journalDisk(400, commitOf(uint32(seq), someTxn(2, 1)), someTxn(2, 1))
		if read := int(uint32(seq)); read <= 1000000000 {
			expectTxn(t, d, read, someTxn(2, 1))
		} else {
			expectNoTxn(t, d)
		}
	}
}

func TestReadJournalRefuses(t *testing.T) {
	for _, list := range storableLists() {
		expectNoTxn(t, journalDisk(400, wantCommit(5, list), list))
	}
	expectNoTxn(t, journalDisk(400, commitOf(5, nil), nil))
	expectNoTxn(t, journalDisk(400, sector(""), someTxn(3, 1)))
	expectNoTxn(t, impl.NewDisk(400))
	for _, list := range [][]impl.Write{someTxn(65, 1), someTxn(300, 1)} {
		d := journalDisk(400, commitOf(5, list), list[:64])
		for k := 64; k < len(list) && 6+k < 400; k++ {
			d.Sectors[6+k] = list[k].Data
		}
		expectNoTxn(t, d)
	}
	for _, d := range append(validDisks(), invalidDisks()...) {
		expectNoTxn(t, d)
	}
}

// TestReadJournalOfShortDisks has whole journals for writes that the disk has no sectors for.
func TestReadJournalOfShortDisks(t *testing.T) {
	for _, n := range []int{0, 1, 2, 3, 6, 68, 69, 70, 71, 100, 398, 399, 400} {
		for _, list := range [][]impl.Write{writesTo(0), writesTo(70), writesTo(0, 98), writesTo(0, 99), writesTo(0, 397), writesTo(398), writesTo(0, 399)} {
			d := journalDisk(n, wantCommit(5, list), list)
			if wantTxn(d, list) {
				expectTxn(t, d, 5, list)
			} else {
				expectNoTxn(t, d)
			}
		}
	}
}

// TestReadJournalOfInvalidDisks has a whole transaction in the journal, and one fault elsewhere.
func TestReadJournalOfInvalidDisks(t *testing.T) {
	list := someTxn(3, 1)
	for _, spoil := range []func(d *impl.Disk){
		func(d *impl.Disk) { d.Sectors[399] = "x" },
		func(d *impl.Disk) { d.Sectors[0] = "" },
		func(d *impl.Disk) { d.Sectors = append(d.Sectors, sector("")) },
		func(d *impl.Disk) { d.Pending = []impl.Write{{Sector: 400, Data: sector("")}} },
		func(d *impl.Disk) { d.Pending = []impl.Write{{Sector: -1, Data: sector("")}} },
		func(d *impl.Disk) { d.Pending = []impl.Write{{Sector: 0, Data: "x"}} },
		func(d *impl.Disk) { d.Pending = busyDisk(1, 401).Pending },
	} {
		d := journalDisk(400, wantCommit(5, list), list)
		expectTxn(t, d, 5, list)
		spoil(&d)
		expectNoTxn(t, d)
	}
}

// TestDamagedJournals changes each byte of the journal: all of them count but the ones that the transaction does not need.
func TestDamagedJournals(t *testing.T) {
	for _, n := range []int{1, 2, 16, 17, 63, 64} {
		list := someTxn(n, 1)
		for i := 1; i < 70; i++ {
			for at := range 32 {
				d := journalDisk(140, wantCommit(0x01020304, list), list)
				damaged := []byte(d.Sectors[i])
				damaged[at] ^= 0x55
				d.Sectors[i] = string(damaged)
				if i == 1 && at >= 5 && at < 8 {
					expectTxn(t, d, 0x01020304^0x55<<(8*(7-at)), list)
				} else if i == 1 || i < 6 && 16*(i-2)+at/2 < n || i >= 6 && i-6 < n {
					expectNoTxn(t, d)
				} else {
					expectTxn(t, d, 0x01020304, list)
				}
			}
		}
	}
}

// TestDamageInTheCache has the right journal on the disk and a wrong sector in the cache, and the other way round.
func TestDamageInTheCache(t *testing.T) {
	list := someTxn(20, 1)
	for _, i := range []int{1, 2, 3, 6, 15, 25} {
		d := journalDisk(140, wantCommit(9, list), list)
		right := impl.Write{Sector: i, Data: d.Sectors[i]}
		wrong := impl.Write{Sector: i, Data: sector("wrong")}
		d.Pending = []impl.Write{wrong}
		expectNoTxn(t, d)
		d.Pending = []impl.Write{wrong, right}
		expectTxn(t, d, 9, list)
		d.Sectors[i] = wrong.Data
		expectTxn(t, d, 9, list)
		d.Pending = []impl.Write{right, wrong, {Sector: 0, Data: right.Data}}
		expectNoTxn(t, d)
	}
}

func TestTxnSteps(t *testing.T) {
	for _, list := range allLists() {
		for _, seq := range []int{math.MinInt, -1, 0, 7, 1000000000, 1000000001, math.MaxInt} {
			if got := impl.TxnSteps(seq, list); !slices.Equal(got, wantSteps(seq, list)) {
				t.Errorf("TxnSteps(%d, %s) are %d steps", seq, nameList(list), len(got))
			}
		}
	}
	for _, seq := range someSeqs() {
		if got := impl.TxnSteps(seq, someTxn(2, 1)); !slices.Equal(got, wantSteps(seq, someTxn(2, 1))) {
			t.Errorf("TxnSteps(%d, ..) are %d steps", seq, len(got))
		}
	}
	for n, want := range map[int]int{0: 0, 1: 9, 2: 11, 16: 39, 17: 42, 64: 138, 65: 0} {
		if got := impl.TxnSteps(1, someTxn(n, 1)); len(got) != want {
			t.Errorf("a transaction of %d writes has %d steps", n, len(got))
		}
	}
}

// wantRun is for valid disks only.
func wantRun(d impl.Disk, steps []impl.Step, n int) impl.Disk {
	d = cloneDisk(d)
	for k, s := range steps {
		if k >= n {
			break
		}
		if s.Flush {
			d = wantFlush(d)
		} else if w := s.Write; w.Sector >= 0 && w.Sector < len(d.Sectors) && len(w.Data) == 32 && len(d.Pending) < 400 {
			d.Pending = append(d.Pending, w)
		}
	}
	return d
}

// oddSteps returns steps of all kinds: writes that succeed, writes that fail, and flushes, some of which have a write, too.
func oddSteps() []impl.Step {
	var steps []impl.Step
	for k, i := range []int{0, 1, 2, 0, 3, 70, 399, 400, -1, math.MinInt, math.MaxInt, 1} {
		for _, s := range []string{sector(strconv.Itoa(i)), "", sector("a")[:31], sector("a") + "\x00", strings.Repeat("é", 16)} {
			steps = append(steps, impl.Step{Write: impl.Write{Sector: i, Data: s}})
		}
		steps = append(steps, impl.Step{Flush: k%3 == 1, Write: impl.Write{Sector: 1, Data: sector("not written")}})
	}
	return append(steps, impl.Step{Flush: true}, impl.Step{}, impl.Step{Write: impl.Write{Sector: 1, Data: sector("last")}})
}

func TestRunSteps(t *testing.T) {
	some := slices.Concat(impl.TxnSteps(1, someTxn(3, 1)), impl.TxnSteps(2, someTxn(64, 1)))
	for _, d := range append(validDisks(), busyDisk(70, 390), busyDisk(140, 0), busyDisk(140, 395)) {
		for _, steps := range [][]impl.Step{nil, {}, {{Flush: true}}, {{}}, some[:9], some, oddSteps()} {
			for _, n := range []int{math.MinInt, -1, 0, 1, 2, 5, len(steps) - 1, len(steps), len(steps) + 1, math.MaxInt} {
				if got := impl.RunSteps(d, steps, n); !equalDisks(got, wantRun(d, steps, n)) {
					t.Errorf("RunSteps of %d of %d steps and %s is %s", n, len(steps), nameDisk(d), nameDisk(got))
				}
			}
		}
	}
	for _, d := range invalidDisks() {
		for _, n := range []int{math.MinInt, 0, 1, 3, math.MaxInt} {
			for _, steps := range [][]impl.Step{nil, some[:9], {{Flush: true}}} {
				if got := impl.RunSteps(d, steps, n); !equalDisks(got, d) {
					t.Errorf("RunSteps of %d of %d steps and %s is %s", n, len(steps), nameDisk(d), nameDisk(got))
				}
			}
		}
	}
}

// TestEachNumberOfSteps continues one disk step by step, and compares it with the first steps performed at once.
func TestEachNumberOfSteps(t *testing.T) {
	for _, steps := range [][]impl.Step{impl.TxnSteps(4, someTxn(1, 1)), impl.TxnSteps(4, someTxn(17, 1)), oddSteps()} {
		model := busyDisk(90, 3)
		for n := range len(steps) + 1 {
			if got := impl.RunSteps(busyDisk(90, 3), steps, n); !equalDisks(got, model) {
				t.Errorf("after %d of %d steps: %s", n, len(steps), nameDisk(got))
			}
			if n < len(steps) {
				model = wantRun(model, steps[n:], 1)
			}
		}
	}
}

// TestStepsWithAFullCache skips the writes for which there is no room, as the document says of writes that fail.
func TestStepsWithAFullCache(t *testing.T) {
	for _, k := range []int{394, 395, 396, 399, 400} {
		list := someTxn(3, 1)
		d := busyDisk(90, k)
		steps := impl.TxnSteps(1, list)
		for n := range len(steps) + 1 {
			if got := impl.RunSteps(d, steps, n); !equalDisks(got, wantRun(d, steps, n)) {
				t.Errorf("after %d steps that follow %d pending writes: %s", n, k, nameDisk(got))
			}
		}
	}
}

func TestRecoverDisk(t *testing.T) {
	for _, list := range validTxns() {
		for _, k := range []int{0, 5} {
			d := journalDisk(400, wantCommit(8, list), list)
			for i := range k {
				d.Pending = append(d.Pending, impl.Write{Sector: []int{0, 70, 399}[i%3], Data: sector("pending " + strconv.Itoa(i))})
			}
			want := wantFlush(d)
			for _, w := range list {
				want.Sectors[w.Sector] = w.Data
			}
			want.Sectors[1] = sector("")
			if got := impl.RecoverDisk(d); !equalDisks(got, want) {
				t.Errorf("RecoverDisk with %s in the journal is %s", nameList(list), nameDisk(got))
			}
		}
	}
}

// TestRecoveryWithAFullCache skips writes, too: a recovery is nothing but its steps.
func TestRecoveryWithAFullCache(t *testing.T) {
	for _, k := range []int{395, 396, 397, 399, 400} {
		list := someTxn(4, 1)
		d := journalDisk(140, wantCommit(8, list), list)
		for i := range k {
			d.Pending = append(d.Pending, impl.Write{Sector: 75 + i%60, Data: sector("pending " + strconv.Itoa(i))})
		}
		expectTxn(t, d, 8, list)
		if got := impl.RecoverDisk(d); !equalDisks(got, wantRun(d, wantRecovery(list), 100)) {
			t.Errorf("RecoverDisk behind %d pending writes is %s", k, nameDisk(got))
		}
	}
}

// roomyList returns list with writes behind it, and the whole: what is there would continue a transaction.
func roomyList(list []impl.Write) (part []impl.Write, whole []impl.Write) {
	whole = append(slices.Clone(list), impl.Write{Sector: 398, Data: sector("spare")}, impl.Write{Sector: 399, Data: sector("room")})
	return whole[:len(list)], whole
}

func spoilList(list []impl.Write) {
	list = list[:cap(list)]
	for k := range list {
		list[k] = impl.Write{Sector: -7, Data: "spoiled"}
	}
}

func spoilSteps(steps []impl.Step) {
	steps = steps[:cap(steps)]
	for k := range steps {
		steps[k] = impl.Step{Flush: true, Write: impl.Write{Sector: -7, Data: "spoiled"}}
	}
}

// journalResult has a field for each kind of result of the journal's functions.
type journalResult struct {
	disk  impl.Disk
	list  []impl.Write
	steps []impl.Step
	text  string
}

func (r journalResult) clone() journalResult {
	return journalResult{disk: cloneDisk(r.disk), list: slices.Clone(r.list), steps: slices.Clone(r.steps), text: r.text}
}

func (r journalResult) spoil() {
	spoilDisk(r.disk)
	spoilList(r.list)
	spoilSteps(r.steps)
}

func equalResults(a journalResult, b journalResult) bool {
	return equalDisks(a.disk, b.disk) && slices.Equal(a.list, b.list) && slices.Equal(a.steps, b.steps) && a.text == b.text
}

// journalCalls returns the exported calls of the journal, by their names.
func journalCalls() map[string]func(d impl.Disk, list []impl.Write, steps []impl.Step) journalResult {
	type result = journalResult
	return map[string]func(d impl.Disk, list []impl.Write, steps []impl.Step) journalResult{
		"IsTxn": func(d impl.Disk, list []impl.Write, _ []impl.Step) result {
			return result{text: strconv.FormatBool(impl.IsTxn(d, list))}
		},
		"CommitSector": func(_ impl.Disk, list []impl.Write, _ []impl.Step) result {
			return result{text: impl.CommitSector(3, list)}
		},
		"JournalWrites": func(_ impl.Disk, list []impl.Write, _ []impl.Step) result {
			return result{list: impl.JournalWrites(list)}
		},
		"ReadJournal": func(d impl.Disk, _ []impl.Write, _ []impl.Step) result {
			seq, list, ok := impl.ReadJournal(d)
			return result{list: list, text: strconv.Itoa(seq) + strconv.FormatBool(ok)}
		},
		"TxnSteps": func(_ impl.Disk, list []impl.Write, _ []impl.Step) result {
			return result{steps: impl.TxnSteps(3, list)}
		},
		"RunSteps": func(d impl.Disk, _ []impl.Write, steps []impl.Step) result {
			return result{disk: impl.RunSteps(d, steps, len(steps))}
		},
		"RunSteps of one more": func(d impl.Disk, _ []impl.Write, steps []impl.Step) result {
			return result{disk: impl.RunSteps(d, steps, len(steps)+1)}
		},
		"RunSteps of none": func(d impl.Disk, _ []impl.Write, steps []impl.Step) result {
			return result{disk: impl.RunSteps(d, steps, 0)}
		},
		"RecoverySteps": func(d impl.Disk, _ []impl.Write, _ []impl.Step) result {
			return result{steps: impl.RecoverySteps(d)}
		},
		"RecoverDisk": func(d impl.Disk, _ []impl.Write, _ []impl.Step) result {
			return result{disk: impl.RecoverDisk(d)}
		},
	}
}

func journalDisks() []impl.Disk {
	list := someTxn(3, 1)
	invalid := journalDisk(140, wantCommit(1, list), list)
	invalid.Sectors[139] = ""
	late := busyDisk(140, 2)
	late.Pending = append(late.Pending, append(wantJournal(list), impl.Write{Sector: 1, Data: wantCommit(1, list)})...)
	return []impl.Disk{{}, busyDisk(69, 3), busyDisk(140, 0), busyDisk(400, 400), journalDisk(140, wantCommit(1, list), list), late, invalid}
}

func journalLists() [][]impl.Write {
	return [][]impl.Write{nil, someTxn(1, 1), someTxn(16, 1), someTxn(17, 1), someTxn(64, 1), someTxn(65, 1), writesTo(5, 5), writesTo(-1)}
}

// TestJournalArgumentsStay also checks that no result depends on what is behind an argument.
func TestJournalArgumentsStay(t *testing.T) {
	for name, call := range journalCalls() {
		for _, d := range journalDisks() {
			for _, list := range journalLists() {
				steps := append(wantRecovery(list), oddSteps()...)
				partDisk, wholeDisk := roomyDisk(d)
				partList, wholeList := roomyList(list)
				partSteps := append(slices.Clone(steps), stepList(writesTo(0)...)...)[:len(steps)]
				diskBefore, listBefore, stepsBefore := cloneDisk(wholeDisk), slices.Clone(wholeList), slices.Clone(partSteps[:len(steps)+2])
				want := call(d, list, steps)
				got := call(partDisk, partList, partSteps)
				if !equalResults(got, want) {
					t.Errorf("%s of %s and %s depends on the room behind them", name, nameDisk(d), nameList(list))
				}
				expect := want.clone()
				got.spoil()
				if !equalDisks(wholeDisk, diskBefore) || !slices.Equal(wholeList, listBefore) || !slices.Equal(partSteps[:len(steps)+2], stepsBefore) {
					t.Errorf("%s of %s and %s, or a change of its result, changes them", name, nameDisk(d), nameList(list))
				}
				got = call(partDisk, partList, partSteps)
				spoilDisk(partDisk)
				spoilList(partList)
				spoilSteps(partSteps)
				if !equalResults(got, expect) {
					t.Errorf("the result of %s changes with %s and %s", name, nameDisk(d), nameList(list))
				}
			}
		}
	}
}

// TestJournalResultsAreNew changes a result, of the same arguments: another one stays as it is.
func TestJournalResultsAreNew(t *testing.T) {
	for name, call := range journalCalls() {
		for _, d := range journalDisks() {
			for _, list := range journalLists() {
				first, other := call(d, list, oddSteps()), call(d, list, oddSteps())
				want := first.clone()
				first.spoil()
				if again := call(d, list, oddSteps()); !equalResults(other, want) || !equalResults(again, want) {
					t.Errorf("the results of %s for %s and %s share memory", name, nameDisk(d), nameList(list))
				}
			}
		}
	}
}
