package tests

import (
	"math"
	"slices"
	"strconv"
	"strings"
	"testing"

	"loop.example/g00817/impl"
)

// sector returns s with as many bytes 0 as a sector has beyond it.
func sector(s string) string { return s + strings.Repeat("\x00", 32-len(s)) }

// busyDisk returns a disk with n different sectors and k different pending writes, many of them to the same few sectors.
func busyDisk(n int, k int) impl.Disk {
	var d impl.Disk
	for i := range n {
		d.Sectors = append(d.Sectors, sector("stored "+strconv.Itoa(i)))
	}
	for i := range k {
		target := []int{n - 1, 0, n / 2, i * 37 % n, i % n}[i%5]
		d.Pending = append(d.Pending, impl.Write{Sector: target, Data: sector("written " + strconv.Itoa(i))})
	}
	return d
}

func validDisks() []impl.Disk {
	disks := []impl.Disk{{}, {Sectors: []string{}, Pending: []impl.Write{}}}
	for _, n := range []int{1, 2, 3, 399, 400} {
		for _, k := range []int{0, 1, 2, 7, 399, 400} {
			disks = append(disks, busyDisk(n, k))
		}
	}
	// 32 bytes that are 16 runes, and ones that are no text in UTF-8.
	runes, bytes := strings.Repeat("é", 16), strings.Repeat("\xff\x00", 16)
	return append(disks, impl.Disk{Sectors: []string{runes, bytes}, Pending: []impl.Write{{Sector: 0, Data: bytes}, {Sector: 1, Data: runes}}})
}

// invalidDisks returns disks each of which has only one fault, and some with several.
func invalidDisks() []impl.Disk {
	var disks []impl.Disk
	add := func(n int, k int, spoil func(d impl.Disk)) {
		d := busyDisk(n, k)
		spoil(d)
		disks = append(disks, d)
	}
	for _, s := range []string{"", "x", sector("a")[:31], sector("a") + "\x00", sector("a") + sector("b"), strings.Repeat("é", 32)} {
		add(1, 0, func(d impl.Disk) { d.Sectors[0] = s })
		for i := range 3 {
			add(3, 0, func(d impl.Disk) { d.Sectors[i] = s })
			add(3, 4, func(d impl.Disk) { d.Sectors[i] = s })
			add(400, 400, func(d impl.Disk) { d.Sectors[399-i] = s })
		}
		for k := range 4 {
			add(3, 4, func(d impl.Disk) { d.Pending[k].Data = s })
			add(400, 400, func(d impl.Disk) { d.Pending[399-k].Data = s })
		}
	}
	for _, i := range sizes() {
		for k := range 4 {
			if i < 0 || i > 2 {
				add(3, 4, func(d impl.Disk) { d.Pending[k].Sector = i })
			}
		}
	}
	add(400, 400, func(d impl.Disk) { d.Pending[399].Sector = 400 })
	for _, c := range [][2]int{{401, 0}, {401, 1}, {401, 400}, {1, 401}, {400, 401}, {401, 401}, {1000, 0}, {3, 1000}} {
		add(c[0], c[1], func(impl.Disk) {})
	}
	return append(disks, impl.Disk{Pending: busyDisk(1, 1).Pending}, impl.Disk{Sectors: []string{}, Pending: busyDisk(1, 400).Pending},
		impl.Disk{Sectors: make([]string, 3)}, impl.Disk{Pending: make([]impl.Write, 1)})
}

// equalDisks compares all fields, without the program's own SameDisk.
func equalDisks(a impl.Disk, b impl.Disk) bool {
	return slices.Equal(a.Sectors, b.Sectors) && slices.Equal(a.Pending, b.Pending)
}

// nameDisk describes a disk by its lengths, as most of them are too long to be printed.
func nameDisk(d impl.Disk) string {
	if len(d.Sectors) > 4 || len(d.Pending) > 4 {
		return "a disk with " + strconv.Itoa(len(d.Sectors)) + " sectors and " + strconv.Itoa(len(d.Pending)) + " pending writes"
	}
	text := "the disk"
	for _, s := range d.Sectors {
		text += " " + strconv.Quote(s)
	}
	for _, w := range d.Pending {
		text += " " + strconv.Itoa(w.Sector) + ":" + strconv.Quote(w.Data)
	}
	return text
}

// wantSector returns what a read of a valid disk should find in a sector that exists.
func wantSector(d impl.Disk, i int) string {
	s := d.Sectors[i]
	for _, w := range d.Pending {
		if w.Sector == i {
			s = w.Data
		}
	}
	return s
}

// wantCrash looks for each sector backwards, for the last write to it that survives.
func wantCrash(d impl.Disk, keep []bool) impl.Disk {
	var want impl.Disk
	for i, s := range d.Sectors {
		for k := len(d.Pending) - 1; k >= 0; k-- {
			if d.Pending[k].Sector == i && k < len(keep) && keep[k] {
				s = d.Pending[k].Data
				break
			}
		}
		want.Sectors = append(want.Sectors, s)
	}
	return want
}

func wantFlush(d impl.Disk) impl.Disk {
	return wantCrash(d, slices.Repeat([]bool{true}, len(d.Pending)))
}

// someChoices returns lists of choices that are shorter than, as long as and longer than a list of n writes.
func someChoices(n int) [][]bool {
	lists := [][]bool{nil, {}, {true}, {false}, {false, true}, {true, false, true}}
	for _, length := range []int{n - 1, n, n + 1, n + 5, 2 * n} {
		if length < 0 {
			continue
		}
		yes := slices.Repeat([]bool{true}, length)
		odd, last := make([]bool, length), make([]bool, length)
		for k := range length {
			odd[k] = k%2 == 1
			last[k] = k == n-1
		}
		lists = append(lists, yes, make([]bool, length), odd, last)
	}
	return lists
}

// allChoices returns every list of at most n choices.
func allChoices(n int) [][]bool {
	var lists [][]bool
	for _, s := range allTexts("01", n) {
		keep := make([]bool, len(s))
		for k := range keep {
			keep[k] = s[k] == '1'
		}
		lists = append(lists, keep)
	}
	return lists
}

func TestDiskLimits(t *testing.T) {
	if impl.SectorSize != 32 || impl.MaxSectors != 400 || impl.MaxPending != 400 {
		t.Errorf("the limits are %d, %d and %d", impl.SectorSize, impl.MaxSectors, impl.MaxPending)
	}
}

func TestIsDisk(t *testing.T) {
	for _, d := range validDisks() {
		if !impl.IsDisk(d) {
			t.Errorf("%s is not valid", nameDisk(d))
		}
	}
	for _, d := range invalidDisks() {
		if impl.IsDisk(d) {
			t.Errorf("%s is valid", nameDisk(d))
		}
	}
}

func TestNewDisk(t *testing.T) {
	for _, n := range append(sizes(), 2, 100, 186, 399, 400, 401, 402) {
		want := impl.Disk{}
		if n >= 0 && n <= 400 {
			want.Sectors = slices.Repeat([]string{strings.Repeat("\x00", 32)}, n)
		}
		got := impl.NewDisk(n)
		if !equalDisks(got, want) || !impl.IsDisk(got) {
			t.Errorf("NewDisk(%d) is %s", n, nameDisk(got))
		}
	}
}

func TestReadSector(t *testing.T) {
	for _, d := range validDisks() {
		for i := range d.Sectors {
			if got := impl.ReadSector(d, i); got != wantSector(d, i) {
				t.Errorf("ReadSector(%s, %d) is %q", nameDisk(d), i, got)
			}
		}
		for _, i := range append(sizes(), -1, len(d.Sectors), len(d.Sectors)+1, 399, 400, 401) {
			if got := impl.ReadSector(d, i); (i < 0 || i >= len(d.Sectors)) && got != "" {
				t.Errorf("ReadSector(%s, %d) is %q", nameDisk(d), i, got)
			}
		}
	}
	for _, d := range invalidDisks() {
		for _, i := range append(sizes(), 399, 400, 401) {
			if got := impl.ReadSector(d, i); got != "" {
				t.Errorf("ReadSector(%s, %d) is %q", nameDisk(d), i, got)
			}
		}
	}
}

// expectWrite checks that a write is appended, or else that it is refused and nothing changes.
func expectWrite(t *testing.T, d impl.Disk, i int, data string, wantOk bool) {
	t.Helper()
	want := d
	if wantOk {
		want.Pending = append(slices.Clone(d.Pending), impl.Write{Sector: i, Data: data})
	}
	got, ok := impl.WriteSector(d, i, data)
	if ok != wantOk || !equalDisks(got, want) {
		t.Errorf("WriteSector(%s, %d, %q) is %s, %v", nameDisk(d), i, data, nameDisk(got), ok)
	}
	if wantOk && impl.ReadSector(got, i) != data {
		t.Errorf("after WriteSector(%s, %d, %q) the sector reads as %q", nameDisk(d), i, data, impl.ReadSector(got, i))
	}
}

func TestWriteSector(t *testing.T) {
	for _, d := range validDisks() {
		places := append(sizes(), len(d.Sectors)-2, len(d.Sectors)-1, len(d.Sectors), len(d.Sectors)+1, 399, 400, 401)
		for _, i := range places {
			can := i >= 0 && i < len(d.Sectors) && len(d.Pending) < 400
			for _, data := range []string{sector(""), sector("new"), strings.Repeat("\xff", 32), strings.Repeat("é", 16)} {
				expectWrite(t, d, i, data, can)
			}
			for _, data := range []string{"", "x", sector("x")[:31], sector("x") + "\x00", strings.Repeat("é", 32), strings.Repeat("x", 3200)} {
				expectWrite(t, d, i, data, false)
			}
		}
	}
	for _, d := range invalidDisks() {
		for _, i := range []int{math.MinInt, -1, 0, 1, 2, 3, 399, 400, math.MaxInt} {
			expectWrite(t, d, i, sector("new"), false)
			expectWrite(t, d, i, "", false)
		}
	}
}

func TestTheCacheIsFullAtItsLimit(t *testing.T) {
	d := impl.NewDisk(3)
	for k := range 400 {
		var ok bool
		if d, ok = impl.WriteSector(d, k%3, sector(strconv.Itoa(k))); !ok || len(d.Pending) != k+1 {
			t.Fatalf("write %d of 400 is %v, with %d pending", k, ok, len(d.Pending))
		}
	}
	expectWrite(t, d, 0, sector("more"), false)
	if impl.ReadSector(d, 0) != sector("399") || impl.ReadSector(d, 1) != sector("397") || impl.ReadSector(d, 2) != sector("398") {
		t.Error("the full cache does not read as what was written last")
	}
	expectWrite(t, impl.FlushDisk(d), 0, sector("more"), true)
	expectWrite(t, impl.CrashDisk(d, nil), 0, sector("more"), true)
}

func TestFlushDisk(t *testing.T) {
	for _, d := range validDisks() {
		got := impl.FlushDisk(d)
		if len(got.Pending) != 0 || !equalDisks(got, wantFlush(d)) || !impl.IsDisk(got) {
			t.Errorf("FlushDisk(%s) is %s", nameDisk(d), nameDisk(got))
		}
		for i := range d.Sectors {
			if impl.ReadSector(got, i) != impl.ReadSector(d, i) {
				t.Errorf("after FlushDisk(%s) sector %d reads as %q", nameDisk(d), i, impl.ReadSector(got, i))
			}
		}
		if again := impl.FlushDisk(got); !equalDisks(again, got) {
			t.Errorf("a second FlushDisk(%s) is %s", nameDisk(got), nameDisk(again))
		}
	}
	for _, d := range invalidDisks() {
		if got := impl.FlushDisk(d); !equalDisks(got, d) {
			t.Errorf("FlushDisk(%s) is %s", nameDisk(d), nameDisk(got))
		}
	}
}

func TestCrashDisk(t *testing.T) {
	for _, d := range validDisks() {
		for _, keep := range someChoices(len(d.Pending)) {
			if got := impl.CrashDisk(d, keep); !equalDisks(got, wantCrash(d, keep)) || !impl.IsDisk(got) {
				t.Errorf("CrashDisk(%s, %v) is %s", nameDisk(d), keep, nameDisk(got))
			}
		}
	}
	for _, d := range invalidDisks() {
		for _, keep := range someChoices(len(d.Pending)) {
			if got := impl.CrashDisk(d, keep); !equalDisks(got, d) {
				t.Errorf("CrashDisk(%s, %v) is %s", nameDisk(d), keep, nameDisk(got))
			}
		}
	}
}

func TestCrashesOfAFewWrites(t *testing.T) {
	d := impl.NewDisk(3)
	for _, w := range []impl.Write{{Sector: 1, Data: sector("a")}, {Sector: 2, Data: sector("b")}, {Sector: 1, Data: sector("c")}} {
		d, _ = impl.WriteSector(d, w.Sector, w.Data)
	}
	for _, c := range []struct {
		keep []bool
		want [3]string
	}{
		{nil, [3]string{"", "", ""}}, {[]bool{}, [3]string{"", "", ""}}, {[]bool{false}, [3]string{"", "", ""}}, {[]bool{true}, [3]string{"", "a", ""}},
		{[]bool{false, true}, [3]string{"", "", "b"}}, {[]bool{true, true}, [3]string{"", "a", "b"}}, {[]bool{false, false, true}, [3]string{"", "c", ""}},
		{[]bool{true, false, true}, [3]string{"", "c", ""}}, {[]bool{true, true, false}, [3]string{"", "a", "b"}},
		{[]bool{true, true, true}, [3]string{"", "c", "b"}}, {[]bool{false, false, false}, [3]string{"", "", ""}},
		{[]bool{true, false, false, true}, [3]string{"", "a", ""}}, {[]bool{false, true, true, true, true}, [3]string{"", "c", "b"}},
	} {
		got := impl.CrashDisk(d, c.keep)
		if len(got.Pending) != 0 || !slices.Equal(got.Sectors, []string{sector(c.want[0]), sector(c.want[1]), sector(c.want[2])}) {
			t.Errorf("CrashDisk with %v is %s", c.keep, nameDisk(got))
		}
	}
}

// TestAllShortHistories makes all lists of at most 4 writes of 2 texts to 2 sectors, and all crashes of each.
func TestAllShortHistories(t *testing.T) {
	choices := allChoices(6)
	for _, history := range allTexts("abcd", 4) {
		d := impl.NewDisk(2)
		last := []string{sector(""), sector("")}
		for k := range len(history) {
			i, data := int(history[k]-'a')/2, sector(strconv.Itoa(k)+history[k:k+1])
			var ok bool
			d, ok = impl.WriteSector(d, i, data)
			last[i] = data
			if !ok || impl.ReadSector(d, 0) != last[0] || impl.ReadSector(d, 1) != last[1] {
				t.Fatalf("write %d of the history %s is %v: %s", k, history, ok, nameDisk(d))
			}
		}
		if flushed := impl.FlushDisk(d); !equalDisks(flushed, impl.Disk{Sectors: last}) {
			t.Errorf("the flush of the history %s is %s", history, nameDisk(flushed))
		}
		for _, keep := range choices {
			if got := impl.CrashDisk(d, keep); !equalDisks(got, wantCrash(d, keep)) {
				t.Errorf("the crash %v of the history %s is %s", keep, history, nameDisk(got))
			}
		}
	}
}

// TestLongHistories mixes writes, refused ones among them, with flushes and crashes, and compares each disk with a model of it.
func TestLongHistories(t *testing.T) {
	number := uint32(1)
	next := func(n int) int {
		number = number*1664525 + 1013904223
		return int(number>>8) % n
	}
	for _, n := range []int{1, 2, 5, 186, 400} {
		d := impl.NewDisk(n)
		model := impl.Disk{Sectors: slices.Repeat([]string{sector("")}, n)}
		for step := range 3000 {
			data := sector(strconv.Itoa(step))
			switch action := next(400); {
			case action < 8:
				d, model = impl.FlushDisk(d), wantFlush(model)
			case action < 12:
				keep := make([]bool, next(len(model.Pending)+3))
				for k := range keep {
					keep[k] = next(2) == 0
				}
				d, model = impl.CrashDisk(d, keep), wantCrash(model, keep)
			case action < 20:
				d, _ = impl.WriteSector(d, n+next(3), data)
				d, _ = impl.WriteSector(d, next(n), data[1:])
			default:
				i := next(n)
				d, _ = impl.WriteSector(d, i, data)
				if len(model.Pending) < 400 {
					model.Pending = append(model.Pending, impl.Write{Sector: i, Data: data})
				}
			}
			if i := next(n); !equalDisks(d, model) || impl.ReadSector(d, i) != wantSector(model, i) {
				t.Fatalf("after step %d on %d sectors: %s", step, n, nameDisk(d))
			}
		}
	}
}

// differentDisks returns disks that are all different, and differ in as little as possible.
func differentDisks() []impl.Disk {
	a, b := sector("a"), sector("b")
	one, two := impl.Write{Sector: 0, Data: a}, impl.Write{Sector: 1, Data: a}
	lists := [][]impl.Write{nil, {one}, {two}, {{Sector: 0, Data: b}}, {one, two}, {two, one}, {one, one}, {{}}, {{Sector: -1, Data: a}}, {{Data: "a"}}}
	var disks []impl.Disk
	for _, sectors := range [][]string{nil, {a}, {b}, {a, a}, {a, b}, {b, a}, {a, b, a}, {""}, {"", ""}, {"a"}, {a + "\x00"}, {sector("A")}} {
		for _, list := range lists {
			disks = append(disks, impl.Disk{Sectors: sectors, Pending: list})
		}
	}
	return append(disks, busyDisk(400, 400), busyDisk(399, 400), busyDisk(400, 399), busyDisk(401, 400), busyDisk(400, 401))
}

func TestSameDisk(t *testing.T) {
	disks := differentDisks()
	for i, a := range disks {
		for k, b := range disks {
			if got := impl.SameDisk(a, b); got != (i == k) {
				t.Errorf("SameDisk(%s, %s) is %v", nameDisk(a), nameDisk(b), got)
			}
		}
	}
	for _, d := range append(validDisks(), invalidDisks()...) {
		c := impl.Disk{Sectors: append([]string{}, d.Sectors...), Pending: append([]impl.Write{}, d.Pending...)}
		if !impl.SameDisk(d, c) || !impl.SameDisk(c, d) || !impl.SameDisk(d, d) {
			t.Errorf("%s is not the same as its copy", nameDisk(d))
		}
		for i := range c.Sectors {
			c.Sectors[i] += "x"
			if impl.SameDisk(d, c) {
				t.Errorf("%s is the same with another sector %d", nameDisk(d), i)
			}
			c.Sectors[i] = d.Sectors[i]
		}
		for k := range c.Pending {
			c.Pending[k].Sector++
			if impl.SameDisk(d, c) {
				t.Errorf("%s is the same with another pending write %d", nameDisk(d), k)
			}
			c.Pending[k] = d.Pending[k]
		}
	}
}

// diskCalls returns the exported calls of a disk, by their names; those that return no disk return an empty one.
func diskCalls(keep []bool) map[string]func(d impl.Disk) impl.Disk {
	first := func(d impl.Disk, _ bool) impl.Disk { return d }
	return map[string]func(d impl.Disk) impl.Disk{
		"IsDisk":         func(d impl.Disk) impl.Disk { impl.IsDisk(d); return impl.Disk{} },
		"ReadSector":     func(d impl.Disk) impl.Disk { impl.ReadSector(d, 0); return impl.Disk{} },
		"WriteSector":    func(d impl.Disk) impl.Disk { return first(impl.WriteSector(d, 0, sector("new"))) },
		"refused write":  func(d impl.Disk) impl.Disk { return first(impl.WriteSector(d, 0, "new")) },
		"FlushDisk":      func(d impl.Disk) impl.Disk { return impl.FlushDisk(d) },
		"CrashDisk":      func(d impl.Disk) impl.Disk { return impl.CrashDisk(d, keep) },
		"SameDisk":       func(d impl.Disk) impl.Disk { impl.SameDisk(d, d); return impl.Disk{} },
		"lossless crash": func(d impl.Disk) impl.Disk { return impl.CrashDisk(d, slices.Repeat([]bool{true}, len(d.Pending))) },
	}
}

// roomyDisk returns d with room behind its lists, and the whole of these: what is there would be valid, too.
func roomyDisk(d impl.Disk) (part impl.Disk, whole impl.Disk) {
	spare := []string{sector("spare"), sector("room")}
	whole.Sectors = append(slices.Clone(d.Sectors), spare...)
	whole.Pending = append(slices.Clone(d.Pending), impl.Write{Sector: 0, Data: spare[0]}, impl.Write{Sector: 0, Data: spare[1]})
	return impl.Disk{Sectors: whole.Sectors[:len(d.Sectors)], Pending: whole.Pending[:len(d.Pending)]}, whole
}

func cloneDisk(d impl.Disk) impl.Disk {
	return impl.Disk{Sectors: slices.Clone(d.Sectors), Pending: slices.Clone(d.Pending)}
}

// spoilDisk overwrites the lists of d and the room behind them.
func spoilDisk(d impl.Disk) {
	sectors, pending := d.Sectors[:cap(d.Sectors)], d.Pending[:cap(d.Pending)]
	for i := range sectors {
		sectors[i] = "spoiled"
	}
	for k := range pending {
		pending[k] = impl.Write{Sector: -7, Data: "spoiled"}
	}
}

func TestDiskArgumentsStay(t *testing.T) {
	for _, d := range append(validDisks(), invalidDisks()...) {
		keep := []bool{true, false, true, true, true}
		for name, call := range diskCalls(keep[:3]) {
			part, whole := roomyDisk(d)
			before := cloneDisk(whole)
			want := call(d)
			got := call(part)
			if !equalDisks(whole, before) || !slices.Equal(keep, []bool{true, false, true, true, true}) {
				t.Errorf("%s changed %s", name, nameDisk(d))
			}
			if !equalDisks(got, want) {
				t.Errorf("%s of %s depends on the room behind it: %s", name, nameDisk(d), nameDisk(got))
			}
		}
	}
}

func TestDiskResultsAreNew(t *testing.T) {
	for _, d := range append(validDisks(), invalidDisks()...) {
		for name, call := range diskCalls([]bool{true, false, true}) {
			part, whole := roomyDisk(d)
			before := cloneDisk(whole)
			spoilDisk(call(part))
			if !equalDisks(whole, before) {
				t.Errorf("the result of %s shares memory with %s", name, nameDisk(d))
			}
			got := call(part)
			want := cloneDisk(got)
			spoilDisk(part)
			if !equalDisks(got, want) {
				t.Errorf("the result of %s changes with %s", name, nameDisk(d))
			}
		}
	}
}

func TestNewDisksAreNew(t *testing.T) {
	for _, n := range []int{0, 1, 2, 400} {
		first := impl.NewDisk(n)
		want := cloneDisk(first)
		other := impl.NewDisk(n)
		spoilDisk(first)
		if again := impl.NewDisk(n); !equalDisks(other, want) || !equalDisks(again, want) {
			t.Errorf("after a change of NewDisk(%d) it is %s", n, nameDisk(again))
		}
	}
}

// TestChoicesAreNotKept also has choices in the room behind the list, which are none.
func TestChoicesAreNotKept(t *testing.T) {
	d := busyDisk(3, 4)
	keep := []bool{true, false, true, true, true, true}
	got := impl.CrashDisk(d, keep[:2])
	want := wantCrash(d, []bool{true})
	clear(keep)
	if !equalDisks(got, want) {
		t.Errorf("a crash that keeps the first write is %s", nameDisk(got))
	}
}

// TestDiskBranches continues one disk in two ways: neither write may appear in the other result.
func TestDiskBranches(t *testing.T) {
	for _, k := range []int{0, 1, 2, 3, 7, 8, 100, 399} {
		d, _ := impl.WriteSector(busyDisk(3, k), 1, sector("start"))
		left, okLeft := impl.WriteSector(d, 1, sector("left"))
		right, okRight := impl.WriteSector(d, 1, sector("right"))
		if okLeft != (k < 399) || okRight != (k < 399) {
			t.Errorf("the writes after %d others are %v and %v", k+1, okLeft, okRight)
		}
		if okLeft && (impl.ReadSector(left, 1) != sector("left") || impl.ReadSector(right, 1) != sector("right")) {
			t.Errorf("the branches after %d writes are %s and %s", k+1, nameDisk(left), nameDisk(right))
		}
		if impl.ReadSector(d, 1) != sector("start") || len(d.Pending) != k+1 {
			t.Errorf("the start of the branches after %d writes is %s", k+1, nameDisk(d))
		}
	}
}

// TestDiskCallsKeepNothing makes the same calls for several disks at once, as one that keeps something would mix them up.
func TestDiskCallsKeepNothing(t *testing.T) {
	run := func(n int) impl.Disk {
		d := impl.NewDisk(n)
		for step := range 500 {
			d, _ = impl.WriteSector(d, step*7%n, sector(strconv.Itoa(n*step)))
			if step%40 == 39 {
				d = impl.CrashDisk(d, []bool{false, true, true, n%2 == 0})
			} else if step%9 == 8 {
				d = impl.FlushDisk(d)
			}
		}
		return d
	}
	lengths := []int{1, 2, 3, 100, 399, 400}
	results := make([]chan impl.Disk, len(lengths))
	for i, n := range lengths {
		results[i] = make(chan impl.Disk, 1)
		go func() { results[i] <- run(n) }()
	}
	for i, n := range lengths {
		if got := <-results[i]; !equalDisks(got, run(n)) {
			t.Errorf("the calls for %d sectors depend on other calls", n)
		}
	}
}
