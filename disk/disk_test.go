package disk_test

import (
	"bytes"
	"fmt"
	"math"
	"math/rand"
	"slices"
	"strings"
	"testing"

	"steading/api"
	"steading/disk"
)

const (
	sectorSize = 128
	maxSectors = 4096
)

// model is a disk as the chapter's words say it: of each sector what is flushed, and behind it the pending writes, as texts.
type model struct {
	sectors [][]string
	writes  int64
}

var noughts = strings.Repeat("\x00", sectorSize)

func newModel(sectors int) *model {
	m := &model{}
	for range sectors {
		m.sectors = append(m.sectors, []string{noughts})
	}
	return m
}

func (m *model) none(sector int) bool { return sector < 0 || sector > len(m.sectors)-1 }

func (m *model) read(sector int) (string, api.Errno) {
	if m.none(sector) {
		return "", api.ErrArg
	}
	l := m.sectors[sector]
	return l[len(l)-1], api.OK
}

func (m *model) flushed(sector int) (string, api.Errno) {
	if m.none(sector) {
		return "", api.ErrArg
	}
	return m.sectors[sector][0], api.OK
}

func (m *model) pending(sector int) int {
	if m.none(sector) {
		return 0
	}
	return len(m.sectors[sector]) - 1
}

func (m *model) write(sector int, b string) api.Errno {
	if m.none(sector) || len(b) != sectorSize {
		return api.ErrArg
	}
	m.sectors[sector] = append(m.sectors[sector], b)
	m.writes++
	return api.OK
}

func (m *model) flush(from, n int) api.Errno {
	if from < 0 || n < 0 || uint64(from)+uint64(n) > uint64(len(m.sectors)) {
		return api.ErrArg
	}
	for i := range n {
		b, _ := m.read(from + i)
		m.sectors[from+i] = []string{b}
	}
	return api.OK
}

func (m *model) dirty() []api.Keep {
	var l []api.Keep
	for sector := range m.sectors {
		if n := m.pending(sector); n > 0 {
			l = append(l, api.Keep{Sector: sector, Writes: n})
		}
	}
	return l
}

func (m *model) crash(keep ...api.Keep) (*model, api.Errno) {
	for i, k := range keep {
		again := slices.ContainsFunc(keep[:i], func(o api.Keep) bool { return o.Sector == k.Sector })
		if again || m.none(k.Sector) || k.Writes < 0 || k.Writes > m.pending(k.Sector) {
			return nil, api.ErrArg
		}
	}
	left := m.copy()
	for sector, l := range left.sectors {
		at := 0
		if i := slices.IndexFunc(keep, func(k api.Keep) bool { return k.Sector == sector }); i >= 0 {
			at = keep[i].Writes
		}
		left.sectors[sector] = []string{l[at]}
	}
	return left, api.OK
}

func (m *model) bytes() string {
	var b strings.Builder
	for _, l := range m.sectors {
		b.WriteString(l[0])
	}
	return b.String()
}

func (m *model) copy() *model {
	c := &model{writes: m.writes}
	for _, l := range m.sectors {
		c.sectors = append(c.sectors, slices.Clone(l))
	}
	return c
}

// full is a sector full of a byte.
func full(c byte) []byte { return bytes.Repeat([]byte{c}, sectorSize) }

// odd is a sector whose bytes hang on a number, each on its place, too.
func odd(n int) []byte {
	b := make([]byte, sectorSize)
	for i := range b {
		b[i] = byte((n+1)*(2*i+7) + n>>8)
	}
	return b
}

// numbers are around what a disk has, and far from it.
func numbers(around ...int) []int {
	l := []int{math.MinInt, math.MinInt + 1, math.MinInt32, -maxSectors, -2, -1, 0, 1, 2, 1 << 16, math.MaxInt32, 1 << 32, math.MaxInt - maxSectors, math.MaxInt - 1, math.MaxInt}
	for _, n := range around {
		l = append(l, n-1, n, n+1)
	}
	slices.Sort(l)
	return slices.Compact(l)
}

// wants fails if an answer is not that one.
func wants(t *testing.T, what string, got, want any) {
	t.Helper()
	if got != want {
		t.Errorf("%s: %v, should be %v", what, got, want)
	}
}

// wantsBytes fails if an answer is not these bytes, said with that.
func wantsBytes(t *testing.T, what string, got []byte, e api.Errno, want string, wantE api.Errno) {
	t.Helper()
	if string(got) != want || e != wantE || e != api.OK && got != nil {
		t.Errorf("%s: % x, %v; should be % x, %v", what, got, e, want, wantE)
	}
}

// both is a disk and its model.
type both struct {
	t *testing.T
	d *disk.Disk
	m *model
}

// made is a disk of noughts, and its model.
func made(t *testing.T, sectors int) both {
	t.Helper()
	d, e := disk.New(sectors)
	if d == nil || e != api.OK {
		t.Fatalf("New(%d): %v, %v", sectors, d, e)
	}
	return both{t, d, newModel(sectors)}
}

// some is a disk of five sectors with three, no, one, no, and two writes pending, and others flushed.
func some(t *testing.T) both {
	t.Helper()
	b := made(t, 5)
	for i, sector := range []int{0, 1, 0, 4} {
		b.write(sector, odd(i))
	}
	b.flush(0, 5)
	for i, sector := range []int{4, 0, 2, 0, 4, 0} {
		b.write(sector, odd(10+i))
	}
	return b
}

func (b both) copy() both { return both{b.t, b.d.Copy(), b.m.copy()} }

func (b both) write(sector int, s []byte) api.Errno {
	b.t.Helper()
	e, want := b.d.Write(sector, s), b.m.write(sector, string(s))
	wants(b.t, fmt.Sprintf("Write(%d, %d bytes)", sector, len(s)), e, want)
	return e
}

func (b both) flush(from, n int) api.Errno {
	b.t.Helper()
	e, want := b.d.Flush(from, n), b.m.flush(from, n)
	wants(b.t, fmt.Sprintf("Flush(%d, %d)", from, n), e, want)
	return e
}

// crash is both behind a crash, and whether it went.
func (b both) crash(keep ...api.Keep) (both, bool) {
	b.t.Helper()
	given := slices.Clone(keep)
	d, e := b.d.Crash(keep...)
	m, want := b.m.crash(keep...)
	if e != want || (d == nil) != (e != api.OK) || d == b.d {
		b.t.Fatalf("Crash(%v): %v, should be %v", keep, e, want)
	}
	if !slices.Equal(given, keep) {
		b.t.Errorf("Crash(%v): what is kept is changed to %v", given, keep)
	}
	return both{b.t, d, m}, e == api.OK
}

// told is what Dirty goes over.
func told(d *disk.Disk) []api.Keep {
	var l []api.Keep
	for sector, writes := range d.Dirty() {
		l = append(l, api.Keep{Sector: sector, Writes: writes})
	}
	return l
}

// same holds all that a disk tells against its model, and what the chapter says follows of any disk.
func (b both) same(what string) {
	t, d, m := b.t, b.d, b.m
	t.Helper()
	wants(t, what+": Size", d.Size(), len(m.sectors))
	wants(t, what+": Writes", d.Writes(), m.writes)
	if got := d.Bytes(); string(got) != m.bytes() {
		t.Errorf("%s: Bytes: % x, should be % x", what, got, m.bytes())
	}
	if l, want := told(d), m.dirty(); !slices.Equal(l, want) {
		t.Errorf("%s: Dirty: %v, should be %v", what, l, want)
	}
	for sector := range m.sectors {
		b.sector(what, sector)
	}
	for _, sector := range numbers(len(m.sectors), maxSectors) {
		b.sector(what, sector)
	}
	if t.Failed() {
		t.FailNow()
	}
}

// sector holds what a disk tells of one sector against its model.
func (b both) sector(what string, sector int) {
	b.t.Helper()
	what = fmt.Sprintf("%s: of sector %d: ", what, sector)
	got, e := b.d.Read(sector)
	want, wantE := b.m.read(sector)
	wantsBytes(b.t, what+"Read", got, e, want, wantE)
	got, e = b.d.Flushed(sector)
	want, wantE = b.m.flushed(sector)
	wantsBytes(b.t, what+"Flushed", got, e, want, wantE)
	wants(b.t, what+"Pending", b.d.Pending(sector), b.m.pending(sector))
}

// P9.1 to P9.4: the chapter's examples.
func TestExamples(t *testing.T) {
	if d, e := disk.New(0); d != nil || e != api.ErrArg {
		t.Errorf("New(0): %v, %v", d, e)
	}
	d := made(t, 3).d
	wants(t, "Write(3, a sector)", d.Write(3, full('a')), api.ErrArg)
	wants(t, "Write(0, one byte)", d.Write(0, []byte{1}), api.ErrArg)
	got, e := d.Read(-1)
	wantsBytes(t, "Read(-1)", got, e, "", api.ErrArg)
	wants(t, "Write(1, a's)", d.Write(1, full('a')), api.OK)
	wants(t, "Write(1, b's)", d.Write(1, full('b')), api.OK)
	wants(t, "Pending(1)", d.Pending(1), 2)
	read := func(what string, d *disk.Disk, e api.Errno, want byte) {
		t.Helper()
		wants(t, what, e, api.OK)
		got, e := d.Read(1)
		wantsBytes(t, what+": Read(1)", got, e, string(full(want)), api.OK)
	}
	read("d", d, api.OK, 'b')
	got, e = d.Flushed(1)
	wantsBytes(t, "Flushed(1)", got, e, noughts, api.OK)
	one, e := d.Crash(api.Keep{Sector: 1, Writes: 1})
	read("Crash(1: 1)", one, e, 'a')
	none, e := d.Crash()
	read("Crash()", none, e, 0)
	if c, e := d.Crash(api.Keep{Sector: 1, Writes: 3}); c != nil || e != api.ErrArg {
		t.Errorf("Crash(1: 3): %v, %v", c, e)
	}
	if c, e := d.Crash(api.Keep{Sector: 1, Writes: 1}, api.Keep{Sector: 1, Writes: 1}); c != nil || e != api.ErrArg {
		t.Errorf("Crash(1: 1, 1: 1): %v, %v", c, e)
	}
	wants(t, "Flush(0, 4)", d.Flush(0, 4), api.ErrArg)
	wants(t, "Flush(1, 1)", d.Flush(1, 1), api.OK)
	last, e := d.Crash()
	read("Crash() behind Flush(1, 1)", last, e, 'b')
}

// P9.1: a new disk has so many sectors, noughts, and nothing else.
func TestNew(t *testing.T) {
	for _, n := range []int{1, 2, 3, 127, 128, 129, 1000, maxSectors - 1, maxSectors} {
		b := made(t, n)
		b.same(fmt.Sprintf("New(%d)", n))
		wants(t, "Write to the last one", b.write(n-1, odd(n)), api.OK)
		wants(t, "Write behind the last one", b.write(n, odd(n)), api.ErrArg)
		b.same(fmt.Sprintf("New(%d), behind a write", n))
	}
}

// P9.1: disks that may not be.
func TestNoNew(t *testing.T) {
	for _, n := range append(numbers(maxSectors+1, 2*maxSectors, 1<<20), -128, math.MaxInt/sectorSize, math.MaxInt/sectorSize+1) {
		if n >= 1 && n <= maxSectors {
			continue
		}
		if d, e := disk.New(n); d != nil || e != api.ErrArg {
			t.Errorf("New(%d): %v, %v", n, d, e)
		}
	}
}

// P9.1: Of's bytes are flushed, each in its place.
func TestOf(t *testing.T) {
	for _, n := range []int{1, 2, 3, 300, maxSectors - 1, maxSectors} {
		var b []byte
		m := newModel(n)
		for i := range n {
			b = append(b, odd(i)...)
			m.sectors[i][0] = string(odd(i))
		}
		given := slices.Clone(b)
		d, e := disk.Of(b)
		if d == nil || e != api.OK {
			t.Fatalf("Of of %d sectors: %v, %v", n, d, e)
		}
		both{t, d, m}.same(fmt.Sprintf("Of of %d sectors", n))
		if !bytes.Equal(b, given) {
			t.Error("Of changes what is handed in")
		}
		clear(b)
		both{t, d, m}.same("Of, when what was handed in is changed")
		if again, e := disk.Of(d.Bytes()); e != api.OK || !disk.Same(again, d) {
			t.Errorf("Of of Bytes: %v", e)
		}
	}
}

// P9.1: bytes that are no sectors, or too many of them.
func TestNoOf(t *testing.T) {
	many := make([]byte, 2*maxSectors*sectorSize)
	for _, n := range []int{0, 1, 2, 64, 127, 129, 255, 257, maxSectors - 1, maxSectors*sectorSize - 1, maxSectors*sectorSize + 1, maxSectors*sectorSize + sectorSize, 2 * maxSectors * sectorSize} {
		if d, e := disk.Of(many[:n]); d != nil || e != api.ErrArg {
			t.Errorf("Of of %d bytes: %v, %v", n, d, e)
		}
	}
	if d, e := disk.Of(nil); d != nil || e != api.ErrArg {
		t.Errorf("Of of nil: %v, %v", d, e)
	}
}

// P9.2: what was written last is seen, and is pending behind the others.
func TestWrite(t *testing.T) {
	b := made(t, 4)
	for i, sector := range []int{1, 3, 1, 0, 1, 3, 0, 1, 1} {
		wants(t, "Write", b.write(sector, odd(i)), api.OK)
		b.same(fmt.Sprint("behind write ", i))
	}
	wants(t, "Pending(1)", b.d.Pending(1), 5)
	// The same once more is a write of its own.
	wants(t, "Write of the same", b.write(1, odd(8)), api.OK)
	wants(t, "Write of noughts", b.write(2, []byte(noughts)), api.OK)
	wants(t, "Pending(1)", b.d.Pending(1), 6)
	wants(t, "Pending(2)", b.d.Pending(2), 1)
	b.same("behind all")
}

// P9.2: any byte of a sector is kept as it is.
func TestBytesOfSectors(t *testing.T) {
	b := made(t, 2)
	for i := range 256 {
		s := full(byte(i))
		s[i%sectorSize] = byte(i + 1)
		wants(t, "Write", b.write(1, s), api.OK)
		got, e := b.d.Read(1)
		wantsBytes(t, "Read", got, e, string(s), api.OK)
	}
	b.same("behind the writes")
	wants(t, "Flush", b.flush(1, 1), api.OK)
	b.same("behind the flush")
}

// P9.2: sectors that there are not, and bytes that are no sector.
func TestNoWrite(t *testing.T) {
	b := some(t)
	for _, sector := range numbers(5, maxSectors) {
		for _, n := range []int{0, 1, 64, 127, 129, 255, 256, 5 * sectorSize, maxSectors * sectorSize} {
			wants(t, fmt.Sprintf("Write(%d, %d bytes)", sector, n), b.d.Write(sector, make([]byte, n)), api.ErrArg)
		}
		wants(t, fmt.Sprintf("Write(%d, nil)", sector), b.d.Write(sector, nil), api.ErrArg)
		if sector < 0 || sector > 4 {
			wants(t, fmt.Sprintf("Write(%d, a sector)", sector), b.d.Write(sector, full(1)), api.ErrArg)
		}
	}
	b.same("behind writes that may not be")
	// Spare room behind what is handed in is not looked at.
	wants(t, "Write of 127 bytes and room", b.d.Write(0, make([]byte, 127, 500)), api.ErrArg)
	wants(t, "Write of a sector and room", b.write(0, append(make([]byte, 0, 500), odd(3)...)), api.OK)
	b.same("behind a write with room")
}

// P9.2: all that may be flushed, of a small disk.
func TestFlush(t *testing.T) {
	for from := -1; from <= 7; from++ {
		for n := -1; n <= 7; n++ {
			b := some(t)
			e := b.flush(from, n)
			may := from >= 0 && n >= 0 && from+n <= 5
			wants(t, fmt.Sprintf("Flush(%d, %d) goes", from, n), e == api.OK, may)
			b.same(fmt.Sprintf("behind Flush(%d, %d)", from, n))
			b.flush(from, n)
			b.same(fmt.Sprintf("behind Flush(%d, %d) again", from, n))
			for sector := range 5 {
				b.write(sector, odd(100+sector))
			}
			b.same(fmt.Sprintf("written behind Flush(%d, %d)", from, n))
			b.flush(0, 5)
			b.same(fmt.Sprintf("flushed behind Flush(%d, %d)", from, n))
		}
	}
}

// P9.2: a flush that may not be flushes nothing, whatever the numbers together go round to.
func TestNoFlush(t *testing.T) {
	b := some(t)
	for _, from := range numbers(5, maxSectors) {
		for _, n := range numbers(5, maxSectors) {
			if from < 0 || n < 0 || from > 5 || n > 5-from {
				wants(t, fmt.Sprintf("Flush(%d, %d)", from, n), b.d.Flush(from, n), api.ErrArg)
			}
		}
	}
	b.same("behind flushes that may not be")
	wants(t, "Flush(5, 0)", b.flush(5, 0), api.OK)
	wants(t, "Flush(0, 0)", b.flush(0, 0), api.OK)
	wants(t, "Flush(4, 0)", b.flush(4, 0), api.OK)
	b.same("behind flushes of nothing")
}

// P9.2: the greatest disk is flushed as a whole, or in parts.
func TestFlushAll(t *testing.T) {
	b := made(t, maxSectors)
	for sector := range maxSectors {
		for i := range sector % 3 {
			b.write(sector, odd(sector+i))
		}
	}
	b.same("written")
	wants(t, "Flush of one too many", b.flush(0, maxSectors+1), api.ErrArg)
	wants(t, "Flush of one too many", b.flush(1, maxSectors), api.ErrArg)
	wants(t, "Flush of a part", b.flush(1000, 2000), api.OK)
	b.same("flushed in part")
	wants(t, "Flush", b.flush(0, maxSectors), api.OK)
	b.same("flushed")
	wants(t, "Dirty", len(told(b.d)), 0)
}

// P9.2, P9.3: sectors that there are not.
func TestNoSectors(t *testing.T) {
	b := some(t)
	for _, sector := range numbers(5, maxSectors) {
		if sector >= 0 && sector < 5 {
			continue
		}
		got, e := b.d.Read(sector)
		wantsBytes(t, fmt.Sprintf("Read(%d)", sector), got, e, "", api.ErrArg)
		got, e = b.d.Flushed(sector)
		wantsBytes(t, fmt.Sprintf("Flushed(%d)", sector), got, e, "", api.ErrArg)
		wants(t, fmt.Sprintf("Pending(%d)", sector), b.d.Pending(sector), 0)
	}
	b.same("behind sectors that there are not")
}

// P9.3: what is flushed stays as it was while writes are pending, and none of them is told by Bytes.
func TestFlushed(t *testing.T) {
	b := made(t, 3)
	b.write(1, odd(1))
	b.write(1, odd(2))
	got, e := b.d.Flushed(1)
	wantsBytes(t, "Flushed", got, e, noughts, api.OK)
	wants(t, "Bytes", string(b.d.Bytes()), noughts+noughts+noughts)
	b.flush(0, 2)
	got, e = b.d.Flushed(1)
	wantsBytes(t, "Flushed behind a flush", got, e, string(odd(2)), api.OK)
	b.write(1, odd(3))
	got, e = b.d.Flushed(1)
	wantsBytes(t, "Flushed behind a write", got, e, string(odd(2)), api.OK)
	wants(t, "Bytes", string(b.d.Bytes()), noughts+string(odd(2))+noughts)
	b.same("at the end")
}

// P9.3: Dirty goes over sectors rising, in whatever order they were written, as far and as often as one likes.
func TestDirty(t *testing.T) {
	b := made(t, 300)
	for range b.d.Dirty() {
		t.Error("Dirty of a new disk tells something")
	}
	for i := range 200 {
		for range 1 + i%4 {
			b.write((i*37+290)%300, odd(i))
		}
	}
	b.flush(40, 7)
	all, want := b.d.Dirty(), b.m.dirty()
	for most := range len(want) + 1 {
		var l []api.Keep
		for sector, writes := range all {
			if len(l) == most {
				break
			}
			l = append(l, api.Keep{Sector: sector, Writes: writes})
		}
		if !slices.Equal(l, want[:most]) {
			t.Fatalf("the first %d of Dirty: %v, should be %v", most, l, want[:most])
		}
	}
	// One within another.
	n := 0
	for range all {
		for range all {
			n++
		}
	}
	wants(t, "Dirty within Dirty", n, len(want)*len(want))
	b.same("behind Dirty")
}

// P9.3: Dirty tells what is when one begins to go, whatever is done on the way.
func TestDirtyAsItIs(t *testing.T) {
	b := some(t)
	all := b.d.Dirty()
	b.write(1, odd(50))
	b.flush(4, 1)
	for round := range 3 {
		want := b.m.dirty()
		var l []api.Keep
		for sector, writes := range all {
			l = append(l, api.Keep{Sector: sector, Writes: writes})
			b.write(3-round, odd(60))
			b.write(4, odd(61))
			b.write(sector, odd(62))
			b.flush(2, 2)
		}
		if len(want) < 3 || !slices.Equal(l, want) {
			t.Errorf("Dirty, round %d: %v, should be %v", round, l, want)
		}
	}
	b.same("behind Dirty")
	b.flush(0, 5)
	for range all {
		t.Error("Dirty of a flushed disk tells something")
	}
}

// P9.3: only Writes that were OK count, and they go on counting behind a crash and in a copy.
func TestWrites(t *testing.T) {
	b := made(t, 2)
	wants(t, "Writes of a new disk", b.d.Writes(), int64(0))
	b.write(0, odd(1))
	b.write(2, odd(1))
	b.write(0, odd(1)[1:])
	b.write(-1, nil)
	b.write(1, odd(2))
	b.write(1, odd(2))
	wants(t, "Writes", b.d.Writes(), int64(3))
	b.flush(0, 2)
	b.flush(0, 3)
	wants(t, "Writes behind flushes", b.d.Writes(), int64(3))
	b.write(1, odd(3))
	c, _ := b.crash()
	wants(t, "Writes behind a crash", c.d.Writes(), int64(4))
	k, _ := b.crash(api.Keep{Sector: 1, Writes: 1})
	wants(t, "Writes behind a crash that keeps one", k.d.Writes(), int64(4))
	c.write(0, odd(4))
	c.write(0, odd(5))
	wants(t, "Writes that go on", c.d.Writes(), int64(6))
	o := c.copy()
	o.write(0, odd(6))
	wants(t, "Writes of the copy", o.d.Writes(), int64(7))
	wants(t, "Writes of what was copied", c.d.Writes(), int64(6))
	wants(t, "Writes of what crashed", b.d.Writes(), int64(4))
	of, _ := disk.Of(o.d.Bytes())
	wants(t, "Writes of Of", of.Writes(), int64(0))
	many := made(t, 1)
	for range 70000 {
		if e := many.d.Write(0, odd(1)); e != api.OK {
			t.Fatalf("Write: %v", e)
		}
		if many.d.Writes()%100 == 0 {
			many.d.Flush(0, 1)
		}
	}
	wants(t, "Writes of many", many.d.Writes(), int64(70000))
}

// P9.4: each number of writes that a crash may keep, of each sector, in any order; the disk stays.
func TestCrash(t *testing.T) {
	b := some(t)
	for zero := range 4 {
		for two := range 2 {
			for four := range 3 {
				keep := []api.Keep{{Sector: 4, Writes: four}, {Sector: 0, Writes: zero}, {Sector: 2, Writes: two}, {Sector: 3}, {Sector: 1}}
				for most := range len(keep) + 1 {
					c, ok := b.crash(keep[:most]...)
					wants(t, "Crash goes", ok, true)
					c.same(fmt.Sprintf("behind Crash(%v)", keep[:most]))
				}
				slices.Reverse(keep)
				c, _ := b.crash(keep...)
				c.same(fmt.Sprintf("behind Crash(%v)", keep))
			}
		}
	}
	b.same("behind crashes")
	for _, none := range [][]api.Keep{nil, {}} {
		c, _ := b.crash(none...)
		c.same("behind a crash that keeps nothing")
	}
}

// P9.4: what a crash may not keep.
func TestNoCrash(t *testing.T) {
	b := some(t)
	keep := func(l ...int) []api.Keep {
		var keep []api.Keep
		for i := 0; i+1 < len(l); i += 2 {
			keep = append(keep, api.Keep{Sector: l[i], Writes: l[i+1]})
		}
		return keep
	}
	const least, most = math.MinInt, math.MaxInt
	for _, k := range [][]api.Keep{
		keep(-1, 0), keep(5, 0), keep(5, 1), keep(-1, 1), keep(least, 0), keep(most, 0), keep(1<<32, 0), keep(maxSectors, 0),
		keep(0, -1), keep(0, 4), keep(1, 1), keep(1, -1), keep(2, 2), keep(3, 1), keep(4, 3), keep(0, least), keep(0, most), keep(0, 1<<32), keep(1, 1<<32),
		keep(0, 1, 0, 1), keep(0, 0, 0, 0), keep(0, 3, 0, 2), keep(0, 0, 0, 1), keep(1, 0, 1, 0), keep(3, 0, 4, 2, 3, 0), keep(0, 1, 2, 1, 4, 1, 0, 1),
		keep(0, 1, 5, 0), keep(5, 0, 0, 1), keep(0, 1, 2, 2), keep(2, 2, 0, 1), keep(0, 1, 2, 1, 4, 1, 3, -1), keep(0, 1, -1, 0),
		make([]api.Keep, 2), make([]api.Keep, 1<<16),
	} {
		if c, ok := b.crash(k...); ok {
			t.Errorf("Crash(%v): %v", k, c.d)
		}
	}
	b.same("behind crashes that may not be")
}

// P9.4: a crash of many sectors, each with a number of its own, of the greatest disk.
func TestCrashAll(t *testing.T) {
	b := made(t, maxSectors)
	var keep []api.Keep
	for sector := range maxSectors {
		for i := range sector % 4 {
			b.write(sector, odd(3*sector+i))
		}
		keep = append(keep, api.Keep{Sector: sector, Writes: sector % 4 * (sector % 3) / 2})
	}
	rand.New(rand.NewSource(9)).Shuffle(len(keep), func(i, j int) { keep[i], keep[j] = keep[j], keep[i] })
	d, e := b.d.Crash(keep...)
	if d == nil || e != api.OK {
		t.Fatalf("Crash: %v", e)
	}
	for _, k := range keep {
		want := b.m.sectors[k.Sector][k.Writes]
		got, e := d.Read(k.Sector)
		wantsBytes(t, fmt.Sprintf("Read(%d)", k.Sector), got, e, want, api.OK)
		got, e = d.Flushed(k.Sector)
		wantsBytes(t, fmt.Sprintf("Flushed(%d)", k.Sector), got, e, want, api.OK)
	}
	wants(t, "Dirty", len(told(d)), 0)
	b.same("behind the crash")
	if _, e := b.d.Crash(append(keep, api.Keep{Sector: maxSectors})...); e != api.ErrArg {
		t.Errorf("Crash of one too many: %v", e)
	}
	if _, e := b.d.Crash(append(keep, api.Keep{})...); e != api.ErrArg {
		t.Errorf("Crash of one twice: %v", e)
	}
}

// P9.4: a copy stands as its disk does, and both go on apart.
func TestCopy(t *testing.T) {
	b := some(t)
	c := b.copy()
	if c.d == nil || c.d == b.d {
		t.Fatal("Copy is no other disk")
	}
	c.same("the copy")
	wants(t, "Same", disk.Same(b.d, c.d), true)
	b.write(0, odd(70))
	c.same("the copy behind a write")
	b.same("the disk behind a write")
	c.write(0, odd(71))
	c.write(3, odd(72))
	b.same("the disk behind a write of the copy")
	c.same("the copy behind a write of its own")
	b.flush(0, 3)
	c.same("the copy behind a flush")
	c.flush(2, 3)
	b.same("the disk behind a flush of the copy")
	d := c.copy()
	c.write(0, odd(73))
	c.flush(0, 5)
	d.same("the copy's copy")
	for i := range 40 {
		b.write(4, odd(i))
		d.write(4, odd(40+i))
		e := b.copy()
		b.write(4, odd(i+90))
		e.write(4, odd(i+99))
		e.same("a copy amid writes")
	}
	b.same("the disk behind writes of both")
	d.same("the copy behind writes of both")
}

// P9.4: what was left by a crash goes on apart from what crashed.
func TestCrashApart(t *testing.T) {
	b := some(t)
	c, _ := b.crash(api.Keep{Sector: 0, Writes: 2}, api.Keep{Sector: 2, Writes: 1})
	b.write(0, odd(80))
	b.write(1, odd(81))
	b.flush(0, 2)
	c.same("left by a crash, behind changes of what crashed")
	c.write(0, odd(82))
	c.write(4, odd(83))
	c.flush(4, 1)
	b.same("crashed, behind changes of what was left")
	c.same("left by a crash, behind its own changes")
	d, _ := c.crash(api.Keep{Sector: 0, Writes: 1})
	d.same("left by a crash of what was left")
}

// P9.4: Same asks for the size, for what is flushed, and for what is pending.
func TestSame(t *testing.T) {
	b := some(t)
	for i, change := range []func(d *disk.Disk){
		func(d *disk.Disk) { d.Write(0, odd(1)) },
		func(d *disk.Disk) { d.Write(0, odd(15)) },
		func(d *disk.Disk) { d.Write(1, odd(1)) },
		func(d *disk.Disk) { d.Write(1, []byte(noughts)) },
		func(d *disk.Disk) { s, _ := d.Read(1); d.Write(1, s) },
		func(d *disk.Disk) { d.Flush(0, 1) },
		func(d *disk.Disk) { d.Flush(2, 1) },
		func(d *disk.Disk) { d.Flush(0, 5) },
		func(d *disk.Disk) { d.Write(3, []byte(noughts)); d.Flush(3, 1); d.Write(3, []byte(noughts)) },
	} {
		c := b.d.Copy()
		change(c)
		wants(t, fmt.Sprintf("Same behind change %d", i), disk.Same(b.d, c), false)
		wants(t, fmt.Sprintf("Same behind change %d, turned about", i), disk.Same(c, b.d), false)
		wants(t, fmt.Sprintf("Same of itself behind change %d", i), disk.Same(c, c), true)
		k := b.d.Copy()
		change(k)
		wants(t, fmt.Sprintf("Same of two behind change %d", i), disk.Same(c, k), true)
	}
	// A flush of what has nothing pending, and writes that were flushed as it was, change nothing but Writes.
	c := b.d.Copy()
	c.Flush(1, 1)
	c.Write(3, odd(5))
	c.Write(3, []byte(noughts))
	c.Flush(3, 1)
	wants(t, "Same with other Writes", disk.Same(b.d, c), true)
	wants(t, "Writes behind Same", c.Writes()-b.d.Writes(), int64(2))
	// Each byte counts, flushed and pending.
	for i := range sectorSize {
		s := odd(1)
		s[i] ^= 1
		x, y := made(t, 2).d, made(t, 2).d
		x.Write(1, s)
		y.Write(1, odd(1))
		wants(t, fmt.Sprintf("Same, pending, byte %d", i), disk.Same(x, y), false)
		x.Write(1, odd(2))
		y.Write(1, odd(2))
		wants(t, fmt.Sprintf("Same, pending before, byte %d", i), disk.Same(x, y), false)
		p, _ := disk.Of(s)
		q, _ := disk.Of(odd(1))
		wants(t, fmt.Sprintf("Same, flushed, byte %d", i), disk.Same(p, q), false)
	}
	// The order of pending writes counts, of one sector, not of several.
	x, y := made(t, 2).d, made(t, 2).d
	x.Write(0, odd(1))
	x.Write(1, odd(2))
	y.Write(1, odd(2))
	y.Write(0, odd(1))
	wants(t, "Same, written in another order", disk.Same(x, y), true)
	x.Write(0, odd(3))
	x.Write(0, odd(4))
	y.Write(0, odd(4))
	y.Write(0, odd(3))
	wants(t, "Same, with writes of a sector in another order", disk.Same(x, y), false)
	p, _ := disk.Of(slices.Concat(odd(1), odd(2)))
	q, _ := disk.Of(slices.Concat(odd(2), odd(1)))
	wants(t, "Same, with sectors in another order", disk.Same(p, q), false)
	for _, sizes := range [][2]int{{1, 2}, {3, 4}, {maxSectors, 1}} {
		wants(t, fmt.Sprint("Same of sizes ", sizes), disk.Same(made(t, sizes[0]).d, made(t, sizes[1]).d), false)
		wants(t, fmt.Sprint("Same of sizes ", sizes, " turned about"), disk.Same(made(t, sizes[1]).d, made(t, sizes[0]).d), false)
		wants(t, fmt.Sprint("Same of size ", sizes[0]), disk.Same(made(t, sizes[0]).d, made(t, sizes[0]).d), true)
	}
	x, y = made(t, 2).d, made(t, 2).d
	x.Write(0, odd(1))
	y.Write(1, odd(1))
	wants(t, "Same, with another sector pending", disk.Same(x, y), false)
	b.same("behind Same")
}

// P9.1 to P9.4: of no disk all is refused, of nil, of a zero one, of one that New, Of or Crash refused.
func TestNoDisk(t *testing.T) {
	var none *disk.Disk
	refused, _ := disk.New(0)
	odds, _ := disk.Of([]byte{1})
	crashed, _ := some(t).d.Crash(api.Keep{Sector: 9})
	noDisks := map[string]*disk.Disk{"nil": none, "zero": {}, "new": new(disk.Disk), "refused": refused, "Of refused": odds, "Crash refused": crashed, "a copy of nil": none.Copy(), "a copy of zero": new(disk.Disk).Copy()}
	for what, d := range noDisks {
		for _, n := range numbers(maxSectors) {
			got, e := d.Read(n)
			wantsBytes(t, what+": Read", got, e, "", api.ErrNil)
			got, e = d.Flushed(n)
			wantsBytes(t, what+": Flushed", got, e, "", api.ErrNil)
			wants(t, what+": Write", d.Write(n, full(1)), api.ErrNil)
			wants(t, what+": Write", d.Write(n, nil), api.ErrNil)
			wants(t, what+": Flush", d.Flush(n, 0), api.ErrNil)
			wants(t, what+": Flush", d.Flush(0, n), api.ErrNil)
			wants(t, what+": Pending", d.Pending(n), 0)
			if c, e := d.Crash(api.Keep{Sector: n, Writes: n}); c != nil || e != api.ErrNil {
				t.Errorf("%s: Crash: %v, %v", what, c, e)
			}
		}
		if c, e := d.Crash(); c != nil || e != api.ErrNil {
			t.Errorf("%s: Crash: %v, %v", what, c, e)
		}
		wants(t, what+": Size", d.Size(), 0)
		wants(t, what+": Writes", d.Writes(), int64(0))
		wants(t, what+": Bytes", d.Bytes() == nil, true)
		wants(t, what+": Copy", d.Copy() == nil, true)
		all := d.Dirty()
		if all == nil {
			t.Fatalf("%s: Dirty is not there", what)
		}
		for range all {
			t.Errorf("%s: Dirty tells something", what)
		}
		some := made(t, 1).d
		wants(t, what+": Same as one", disk.Same(d, some), false)
		wants(t, what+": one Same as it", disk.Same(some, d), false)
		for other, o := range noDisks {
			wants(t, what+": Same as "+other, disk.Same(d, o), true)
		}
	}
}

// P9.2 to P9.4: what is handed in is not changed and not kept, and each answer is memory of its own, spare room included.
func TestMemory(t *testing.T) {
	b := some(t)
	given := append(make([]byte, 0, 2*sectorSize), odd(30)...)
	b.write(1, given)
	b.write(3, given)
	wants(t, "what was written", string(given), string(odd(30)))
	wants(t, "the room behind what was written", string(given[sectorSize:cap(given)]), noughts)
	clear(given)
	b.same("when what was written is changed")
	spoil := func(l []byte) {
		for i := range l[:cap(l)] {
			l[:cap(l)][i] ^= 255
		}
	}
	for sector := range 5 {
		for what, ask := range map[string]func() []byte{
			"Read":    func() []byte { l, _ := b.d.Read(sector); return l },
			"Flushed": func() []byte { l, _ := b.d.Flushed(sector); return l },
			"Bytes":   b.d.Bytes,
		} {
			one, two := ask(), ask()
			want := string(two)
			spoil(one)
			wants(t, fmt.Sprintf("%s of %d, when another answer is changed", what, sector), string(two), want)
			b.same(fmt.Sprintf("when %s of %d is changed", what, sector))
			b.write(sector, odd(40+sector))
			wants(t, fmt.Sprintf("%s of %d behind a write", what, sector), string(two), want)
			b.flush(sector, 1)
			wants(t, fmt.Sprintf("%s of %d behind a flush", what, sector), string(two), want)
			b.write(sector, odd(50+sector))
		}
	}
	keep := []api.Keep{{Sector: 0, Writes: 1}, {Sector: 1, Writes: 1}, {Sector: 9, Writes: 9}}
	c, _ := b.crash(keep[:2]...)
	wants(t, "what was kept, and behind it", fmt.Sprint(keep), "[{0 1} {1 1} {9 9}]")
	clear(keep)
	c.same("when what was kept is changed")
	b.same("at the end")
}

// P9.2, P9.4: what is refused changes nothing that is told, in a copy either.
func TestRefused(t *testing.T) {
	b := some(t)
	before := b.d.Copy()
	b.d.Write(5, full(1))
	b.d.Write(0, full(1)[1:])
	b.d.Flush(0, 6)
	b.d.Flush(-1, 2)
	b.d.Flush(2, -1)
	b.d.Read(5)
	b.d.Flushed(-1)
	b.d.Crash(api.Keep{Sector: 0, Writes: 1}, api.Keep{Sector: 0, Writes: 4})
	b.d.Crash(api.Keep{Sector: 0, Writes: 1}, api.Keep{Sector: 6})
	wants(t, "Same", disk.Same(before, b.d), true)
	wants(t, "Writes", b.d.Writes(), before.Writes())
	b.same("behind what was refused")
}

// P9.5: what was flushed lasts, each sector is what it was since its last flush, and a crash of a flushed disk, or of a crashed one, is that disk.
func TestLasts(t *testing.T) {
	r := rand.New(rand.NewSource(95))
	for range 200 {
		n := 1 + r.Intn(12)
		d := made(t, n).d
		was := make([][]string, n) // what each sector was, at each moment since its last flush
		for sector := range was {
			was[sector] = []string{noughts}
		}
		for range r.Intn(60) {
			if sector := r.Intn(n); r.Intn(4) > 0 {
				s := odd(r.Intn(9))
				d.Write(sector, s)
				was[sector] = append(was[sector], string(s))
			} else {
				d.Flush(sector, 1)
				was[sector] = was[sector][len(was[sector])-1:]
			}
		}
		var keep []api.Keep
		for sector, writes := range d.Dirty() {
			if r.Intn(3) > 0 {
				keep = append(keep, api.Keep{Sector: sector, Writes: r.Intn(writes + 1)})
			}
		}
		left, e := d.Crash(keep...)
		if e != api.OK {
			t.Fatalf("Crash(%v): %v", keep, e)
		}
		for sector, l := range was {
			s, e := left.Read(sector)
			if e != api.OK || !slices.Contains(l, string(s)) {
				t.Fatalf("behind Crash(%v) sector %d is what it never was: % x, %v", keep, sector, s, e)
			}
			if len(l) == 1 && string(s) != l[0] {
				t.Fatalf("behind Crash(%v) sector %d was flushed, and is lost", keep, sector)
			}
		}
		wantsCrash(t, "a crash of what a crash left", left)
		d.Flush(0, n)
		wantsCrash(t, "a crash of a flushed disk", d)
	}
}

// wantsCrash fails unless a crash of a disk is that disk, with nothing kept, or with none of any sector.
func wantsCrash(t *testing.T, what string, d *disk.Disk) {
	t.Helper()
	var keep []api.Keep
	for sector := range d.Size() {
		keep = append(keep, api.Keep{Sector: sector})
	}
	for most := range len(keep) + 1 {
		left, e := d.Crash(keep[:most]...)
		if e != api.OK || !disk.Same(left, d) || left.Writes() != d.Writes() {
			t.Fatalf("%s is another one: %v", what, e)
		}
	}
}

// step does to both what some numbers say; a crash leaves other ones.
func (b both) step(op, x, y byte) both {
	b.t.Helper()
	size := len(b.m.sectors)
	sector := int(x)%(size+2) - 1
	switch op % 8 {
	case 0, 1, 2, 3:
		s := odd(int(y) % 5)
		if y >= 250 {
			s = s[:y-200]
		}
		b.write(sector, s)
	case 4:
		b.flush(sector, int(y)%(size+2)-1)
	case 5:
		b.flush(sector, 1)
	case 6:
		var keep []api.Keep
		for i, k := range b.m.dirty() {
			if writes := (int(x)*(i+3) + int(y)) % (k.Writes + 2); y >= 200 || writes <= k.Writes {
				keep = append(keep, api.Keep{Sector: k.Sector, Writes: writes})
			}
		}
		if left, ok := b.crash(keep...); ok {
			left.same("what a crash left")
			b.same("what crashed")
			if y%2 > 0 {
				return left
			}
		}
	case 7:
		b.crash(api.Keep{Sector: sector, Writes: int(y)%4 - 1}, api.Keep{Sector: int(y) % (size + 1)})
		wants(b.t, "Same of a copy", disk.Same(b.d, b.d.Copy()), true)
	}
	return b
}

// plays does many steps to a disk and its model, and to copies of both on the way.
func (b both) plays(steps []byte) {
	b.t.Helper()
	for i := 0; i+2 < len(steps); i += 3 {
		b = b.step(steps[i], steps[i+1], steps[i+2])
		if b.t.Failed() {
			b.t.FailNow()
		}
		if i%60 > 0 {
			continue
		}
		b.same(fmt.Sprint("behind step ", i/3))
		if i%120 > 0 {
			continue
		}
		c := b.copy()
		for j := i; j+2 < min(len(steps), i+30); j += 3 {
			c = c.step(steps[j+2], steps[j], steps[j+1])
		}
		c.same(fmt.Sprint("the copy of step ", i/3))
		b.same(fmt.Sprint("behind the copy of step ", i/3))
	}
	b.same("at the end")
}

// P9.5: whatever is done, the disk is as the words say it.
func TestFollows(t *testing.T) {
	r := rand.New(rand.NewSource(9))
	for range 60 {
		steps := make([]byte, 1200)
		r.Read(steps)
		made(t, 1+r.Intn(9)).plays(steps)
	}
}

// FuzzSteps plays any steps on a small disk.
func FuzzSteps(f *testing.F) {
	f.Add([]byte{0, 1, 0, 0, 2, 1, 4, 1, 2, 6, 1, 3, 5, 1, 0, 7, 1, 2})
	f.Fuzz(func(t *testing.T, steps []byte) {
		made(t, 4).plays(steps[:min(len(steps), 1200)])
	})
}
