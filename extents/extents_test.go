package extents_test

import (
	"fmt"
	"math"
	"math/rand"
	"slices"
	"strings"
	"testing"

	"steading/api"
	"steading/disk"
	"steading/extents"
)

const (
	sectorSize  = 128
	maxSectors  = 4096
	maxAccounts = 8
)

// model is extents as the chapter's words say it: of each account a list of what is taken, and a disk of its own on which the same is done.
type model struct {
	parts [][]bool
	d     *disk.Disk
}

func newModel(d *disk.Disk, quotas ...int) *model {
	m := &model{d: d.Copy()}
	for _, q := range quotas {
		m.parts = append(m.parts, make([]bool, q))
	}
	return m
}

func (m *model) none(account int) bool { return account < 0 || account > len(m.parts)-1 }

// first is where an account's part begins on the disk.
func (m *model) first(account int) int {
	first := 0
	for _, p := range m.parts[:account] {
		first += len(p)
	}
	return first
}

func (m *model) quota(account int) int {
	if m.none(account) {
		return 0
	}
	return len(m.parts[account])
}

// all: are these sectors of the account's there, and each of them taken, or each free?
func (m *model) all(account, first, n int, taken bool) bool {
	size := m.quota(account)
	if first < 0 || first > size || n > size-first {
		return false
	}
	return !slices.Contains(m.parts[account][first:first+n], !taken)
}

func (m *model) set(account, first, n int, taken bool) {
	for i := range n {
		m.parts[account][first+i] = taken
	}
}

func (m *model) take(account, n int) (int, api.Errno) {
	if m.none(account) || n < 1 {
		return 0, api.ErrArg
	}
	for first := range m.parts[account] {
		if m.all(account, first, n, false) {
			m.set(account, first, n, true)
			return first, api.OK
		}
	}
	return 0, api.ErrFull
}

func (m *model) give(account, first, n int) api.Errno {
	if m.none(account) || n < 1 || first < 0 {
		return api.ErrArg
	}
	if !m.all(account, first, n, true) {
		return api.ErrNone
	}
	m.set(account, first, n, false)
	return api.OK
}

func (m *model) taken(account int) int {
	n := 0
	for sector := range m.quota(account) {
		if m.parts[account][sector] {
			n++
		}
	}
	return n
}

func (m *model) runs(account int) []api.Stretch {
	if m.none(account) {
		return nil
	}
	var text strings.Builder
	for _, taken := range m.parts[account] {
		if taken {
			text.WriteByte('#')
		} else {
			text.WriteByte('.')
		}
	}
	var l []api.Stretch
	at := 0
	for _, run := range strings.Split(text.String(), ".") {
		if run != "" {
			l = append(l, api.Stretch{First: at, Count: len(run)})
		}
		at += len(run) + 1
	}
	return l
}

// refused is why a sector of an account's is neither read nor written, if it is not.
func (m *model) refused(account, sector int) api.Errno {
	if m.none(account) {
		return api.ErrArg
	}
	if !m.all(account, sector, 1, true) {
		return api.ErrNone
	}
	return api.OK
}

func (m *model) read(account, sector int) (string, api.Errno) {
	if e := m.refused(account, sector); e != api.OK {
		return "", e
	}
	b, e := m.d.Read(m.first(account) + sector)
	return string(b), e
}

func (m *model) write(account, sector int, b []byte) api.Errno {
	if e := m.refused(account, sector); e != api.OK {
		return e
	}
	return m.d.Write(m.first(account)+sector, b)
}

func (m *model) flush(account int) api.Errno {
	if m.none(account) {
		return api.ErrArg
	}
	for i := range m.parts[account] {
		m.d.Flush(m.first(account)+i, 1)
	}
	return api.OK
}

func (m *model) owner(sector int) (int, int, bool) {
	at := 0
	for account, p := range m.parts {
		for own := range p {
			if at == sector {
				return account, own, true
			}
			at++
		}
	}
	return 0, 0, false
}

func (m *model) keeps(account int, keep []api.Keep) ([]api.Keep, api.Errno) {
	if m.none(account) {
		return nil, api.ErrArg
	}
	var l []api.Keep
	for _, k := range keep {
		if k.Sector < 0 || k.Sector >= len(m.parts[account]) {
			return nil, api.ErrArg
		}
		l = append(l, api.Keep{Sector: m.first(account) + k.Sector, Writes: k.Writes})
	}
	return l, api.OK
}

// over is a model of the same, of another disk.
func (m *model) over(d *disk.Disk) *model {
	o := &model{d: d.Copy()}
	for _, p := range m.parts {
		o.parts = append(o.parts, slices.Clone(p))
	}
	return o
}

// full is a sector full of a byte.
func full(c byte) []byte { return []byte(strings.Repeat(string(rune(c)), sectorSize)) }

// odd is a sector whose bytes hang on a number, each on its place, too.
func odd(n int) []byte {
	b := make([]byte, sectorSize)
	for i := range b {
		b[i] = byte((n+1)*(2*i+7) + n>>8)
	}
	return b
}

// numbers are around what extents have, and far from it.
func numbers(around ...int) []int {
	l := []int{math.MinInt, math.MinInt + 1, math.MinInt32, -maxSectors, -64, -2, -1, 0, 1, 2, 63, 64, 65, 1 << 16, math.MaxInt32, 1 << 32, math.MaxInt - maxSectors, math.MaxInt - 1, math.MaxInt}
	for _, n := range around {
		l = append(l, n-1, n, n+1)
	}
	slices.Sort(l)
	return slices.Compact(l)
}

// accounts are all numbers that accounts may have, and others.
func accounts() []int {
	return numbers(1, 2, 3, 4, 5, 6, maxAccounts, 16, maxSectors)
}

// wants fails if an answer is not that one.
func wants(t *testing.T, what string, got, want any) {
	t.Helper()
	if got != want {
		t.Errorf("%s: %v, should be %v", what, got, want)
	}
}

// wantsBytes fails if an answer is not these bytes, said with that.
func wantsBytes(t *testing.T, what string, got []byte, e api.Errno, want string, wantE api.Errno) {
	t.Helper()
	if string(got) != want || e != wantE || e != api.OK && got != nil {
		t.Errorf("%s: % x, %v; should be % x, %v", what, got, e, want, wantE)
	}
}

// both is extents and their model.
type both struct {
	t *testing.T
	x *extents.Extents
	m *model
}

// newDisk is a disk of so many sectors, some of them flushed, written, or both.
func newDisk(t *testing.T, sectors int) *disk.Disk {
	t.Helper()
	d, e := disk.New(sectors)
	if e != api.OK {
		t.Fatalf("disk.New(%d): %v", sectors, e)
	}
	for i := range min(sectors, 40) {
		d.Write(i, odd(500+i))
		if i%3 > 0 {
			d.Flush(i, 1)
		}
		if i%2 > 0 {
			d.Write(i, odd(600+i))
		}
	}
	return d
}

// made is extents over a disk of so many sectors, and their model.
func made(t *testing.T, sectors int, quotas ...int) both {
	t.Helper()
	d := newDisk(t, sectors)
	m := newModel(d, quotas...)
	given := slices.Clone(quotas)
	x, e := extents.New(d, quotas...)
	if x == nil || e != api.OK {
		t.Fatalf("New(%d sectors, %v): %v, %v", sectors, quotas, x, e)
	}
	if !slices.Equal(given, quotas) {
		t.Errorf("New(%v) changes the quotas to %v", given, quotas)
	}
	if x.Disk() != d {
		t.Errorf("New(%d sectors, %v): another disk", sectors, quotas)
	}
	return both{t, x, m}
}

// pattern takes just those sectors of an account's, of which none is, whose bits are set.
func (b both) pattern(account int, set uint64) both {
	b.t.Helper()
	n := b.m.quota(account)
	if n > 0 {
		b.take(account, n)
	}
	for sector := range n {
		if set>>sector&1 == 0 {
			b.give(account, sector, 1)
		}
	}
	return b
}

// some is three accounts with five, no, and four sectors of twelve; of the first one the second and third are taken, of the last one all but the first.
func some(t *testing.T) both {
	t.Helper()
	b := made(t, 12, 5, 0, 4).pattern(0, 0b00110).pattern(2, 0b1110)
	b.write(0, 1, odd(1))
	b.write(2, 3, odd(2))
	b.flush(0)
	b.write(0, 2, odd(3))
	b.write(2, 1, odd(4))
	b.write(2, 1, odd(5))
	return b
}

func (b both) take(account, n int) (int, api.Errno) {
	b.t.Helper()
	at, e := b.x.Take(account, n)
	want, wantE := b.m.take(account, n)
	if at != want || e != wantE {
		b.t.Errorf("Take(%d, %d): %d, %v; should be %d, %v", account, n, at, e, want, wantE)
	}
	return at, e
}

func (b both) give(account, first, n int) api.Errno {
	b.t.Helper()
	e := b.x.Give(account, first, n)
	wants(b.t, fmt.Sprintf("Give(%d, %d, %d)", account, first, n), e, b.m.give(account, first, n))
	return e
}

func (b both) write(account, sector int, s []byte) api.Errno {
	b.t.Helper()
	e := b.x.Write(account, sector, s)
	wants(b.t, fmt.Sprintf("Write(%d, %d, %d bytes)", account, sector, len(s)), e, b.m.write(account, sector, s))
	return e
}

func (b both) flush(account int) api.Errno {
	b.t.Helper()
	e := b.x.Flush(account)
	wants(b.t, fmt.Sprintf("Flush(%d)", account), e, b.m.flush(account))
	return e
}

func (b both) read(account, sector int) {
	b.t.Helper()
	got, e := b.x.Read(account, sector)
	want, wantE := b.m.read(account, sector)
	wantsBytes(b.t, fmt.Sprintf("Read(%d, %d)", account, sector), got, e, want, wantE)
}

func (b both) keeps(account int, keep ...api.Keep) ([]api.Keep, api.Errno) {
	b.t.Helper()
	given := slices.Clone(keep)
	l, e := b.x.Keeps(account, keep...)
	want, wantE := b.m.keeps(account, keep)
	if !slices.Equal(l, want) || e != wantE || e != api.OK && l != nil {
		b.t.Errorf("Keeps(%d, %v): %v, %v; should be %v, %v", account, keep, l, e, want, wantE)
	}
	if !slices.Equal(given, keep) {
		b.t.Errorf("Keeps(%d, %v): what is kept is changed to %v", account, given, keep)
	}
	return l, e
}

// over is both over another disk, of which a copy is the model's.
func (b both) over(d *disk.Disk) both {
	b.t.Helper()
	m := b.m.over(d)
	x, e := b.x.Over(d)
	if x == nil || x == b.x || e != api.OK || x.Disk() != d {
		b.t.Fatalf("Over: %v, %v", x, e)
	}
	return both{b.t, x, m}
}

// account holds what is told of one account, taken or not, against the model.
func (b both) account(what string, account int) {
	t, x, m := b.t, b.x, b.m
	t.Helper()
	what = fmt.Sprintf("%s: of account %d: ", what, account)
	wants(t, what+"Quota", x.Quota(account), m.quota(account))
	wants(t, what+"Taken", x.Taken(account), m.taken(account))
	first, count, ok := x.Part(account)
	want := [3]any{0, 0, false}
	if !m.none(account) {
		want = [3]any{m.first(account), m.quota(account), true}
	}
	wants(t, what+"Part", [3]any{first, count, ok}, want)
	if l, want := slices.Collect(x.Runs(account)), m.runs(account); !slices.Equal(l, want) {
		t.Errorf("%sRuns: %v, should be %v", what, l, want)
	}
}

// same holds all that extents tell against their model, but what is read, for which the disks are held against each other.
func (b both) same(what string) {
	t, x, m := b.t, b.x, b.m
	t.Helper()
	for account := -1; account <= maxAccounts; account++ {
		b.account(what, account)
	}
	for sector := -1; sector <= m.d.Size(); sector++ {
		account, own, ok := x.Owner(sector)
		wantA, wantO, wantOk := m.owner(sector)
		if account != wantA || own != wantO || ok != wantOk {
			t.Errorf("%s: Owner(%d): %d, %d, %v; should be %d, %d, %v", what, sector, account, own, ok, wantA, wantO, wantOk)
		}
	}
	if !disk.Same(x.Disk(), m.d) || x.Disk().Writes() != m.d.Writes() {
		t.Errorf("%s: the disk is another one", what)
	}
	if t.Failed() {
		t.FailNow()
	}
}

// P10.1 to P10.4: the chapter's examples.
func TestExamples(t *testing.T) {
	d, _ := disk.New(10)
	if x, e := extents.New(d, 8, 3); x != nil || e != api.ErrFull {
		t.Errorf("New(d, 8, 3): %v, %v", x, e)
	}
	if x, e := extents.New(d); x != nil || e != api.ErrArg {
		t.Errorf("New(d): %v, %v", x, e)
	}
	x, e := extents.New(d, 4, 3)
	wants(t, "New(d, 4, 3)", e, api.OK)
	first, count, ok := x.Part(1)
	wants(t, "Part(1)", [3]any{first, count, ok}, [3]any{4, 3, true})
	account, own, ok := x.Owner(5)
	wants(t, "Owner(5)", [3]any{account, own, ok}, [3]any{1, 1, true})
	account, own, ok = x.Owner(8)
	wants(t, "Owner(8)", [3]any{account, own, ok}, [3]any{0, 0, false})
	take := func(account, n, want int, wantE api.Errno) {
		t.Helper()
		at, e := x.Take(account, n)
		wants(t, fmt.Sprintf("Take(%d, %d)", account, n), [2]any{at, e}, [2]any{want, wantE})
	}
	take(0, 2, 0, api.OK)
	take(0, 1, 2, api.OK)
	wants(t, "Give(0, 0, 2)", x.Give(0, 0, 2), api.OK)
	take(0, 1, 0, api.OK)
	wants(t, "Runs(0)", fmt.Sprint(slices.Collect(x.Runs(0))), "[{0 1} {2 1}]")
	take(0, 2, 0, api.ErrFull)
	take(1, 3, 0, api.OK)
	take(2, 1, 0, api.ErrArg)
	wants(t, "Give(0, 1, 1)", x.Give(0, 1, 1), api.ErrNone)
	wants(t, "Write(0, 1, a sector)", x.Write(0, 1, full('a')), api.ErrNone)
	wants(t, "Write(1, 2, a sector)", x.Write(1, 2, full('a')), api.OK)
	wants(t, "Pending(6)", d.Pending(6), 1)
}

// P10.1: all lists of three quotas that have room, on a small disk, which is kept, and not changed.
func TestNew(t *testing.T) {
	for a := range 6 {
		made(t, 5, a).same(fmt.Sprintf("New(%d)", a))
		for b := range 6 - a {
			made(t, 5, a, b).same(fmt.Sprintf("New(%d, %d)", a, b))
			for c := range 6 - a - b {
				made(t, 5, a, b, c).same(fmt.Sprintf("New(%d, %d, %d)", a, b, c))
			}
		}
	}
}

// P10.1: the smallest and the greatest disk, and as many accounts as may be.
func TestNewBounds(t *testing.T) {
	for _, quotas := range [][]int{{0}, {1}, {0, 1}, {1, 0}, make([]int, maxAccounts), {0, 0, 0, 0, 0, 0, 0, 1}} {
		made(t, 1, quotas...).same(fmt.Sprint("one sector, of ", quotas))
	}
	for _, quotas := range [][]int{{0}, {maxSectors}, {maxSectors - 1, 1}, {1, maxSectors - 1}, {512, 512, 512, 512, 512, 512, 512, 512}, {0, 0, 0, 0, 0, 0, 0, maxSectors}, {1, 63, 64, 65, 0, 127, 128, 1000}} {
		b := made(t, maxSectors, quotas...)
		for account, q := range quotas {
			if q > 0 {
				at, e := b.take(account, q)
				wants(t, "the whole part is taken", [2]any{at, e}, [2]any{0, api.OK})
				wants(t, "its last sector is written", b.write(account, q-1, odd(account)), api.OK)
				wants(t, "the one behind is written", b.write(account, q, odd(account)), api.ErrNone)
				wants(t, "the one behind is given back", b.give(account, q, 1), api.ErrNone)
				wants(t, "the last and the one behind are given back", b.give(account, q-1, 2), api.ErrNone)
				b.read(account, q)
				b.read(account, q-1)
			}
		}
		b.same(fmt.Sprint("the greatest disk, of ", quotas))
	}
}

// P10.1: extents that may not be, by the first thing that is wrong.
func TestNoNew(t *testing.T) {
	zero, none := &disk.Disk{}, (*disk.Disk)(nil)
	d := newDisk(t, 10)
	was := d.Copy()
	huge := slices.Repeat([]int{math.MaxInt}, maxAccounts)
	cases := map[api.Errno][][]int{
		api.ErrArg: {
			{}, nil, {-1}, {math.MinInt}, {0, -1}, {-1, 0}, {3, 4, -1}, {11, -1}, {-1, 11}, {math.MaxInt, math.MaxInt, 2, -1}, {1, 2, 3, 4, 5, 6, 7, -8},
			make([]int, maxAccounts+1), make([]int, 100), append(huge, 0), append(huge, math.MaxInt), {0, 0, 0, 0, 0, 0, 0, 0, -1},
		},
		api.ErrFull: {
			{11}, {10, 1}, {1, 10}, {8, 3}, {0, 11}, {11, 0}, {5, 5, 1}, {2, 2, 2, 2, 2, 2, 2, 2}, {1, 1, 1, 1, 1, 1, 1, 4}, {maxSectors}, {maxSectors + 1},
			{math.MaxInt}, {1, math.MaxInt}, {math.MaxInt, 1}, {math.MaxInt, math.MaxInt}, {math.MaxInt, math.MaxInt, 2}, {math.MaxInt, math.MaxInt, 3}, {10, math.MaxInt, math.MaxInt, 2}, {1 << 32}, {1 << 62, 1 << 62, 1 << 62, 1 << 62}, huge,
		},
	}
	for want, l := range cases {
		for _, quotas := range l {
			if x, e := extents.New(d, quotas...); x != nil || e != want {
				t.Errorf("New(10 sectors, %v): %v, %v; should be %v", quotas, x, e, want)
			}
			for what, no := range map[string]*disk.Disk{"nil": none, "zero": zero} {
				if x, e := extents.New(no, quotas...); x != nil || e != api.ErrNil {
					t.Errorf("New(%s, %v): %v, %v", what, quotas, x, e)
				}
			}
		}
	}
	for _, quotas := range [][]int{{0}, {1}, make([]int, maxAccounts)} {
		if x, e := extents.New(none, quotas...); x != nil || e != api.ErrNil {
			t.Errorf("New(nil, %v): %v, %v", quotas, x, e)
		}
		if x, e := extents.New(zero, quotas...); x != nil || e != api.ErrNil {
			t.Errorf("New(zero, %v): %v, %v", quotas, x, e)
		}
	}
	wants(t, "the disk is as it was", disk.Same(d, was), true)
}

// P10.1: numbers that are no account's, and sectors that are in no part.
func TestLooks(t *testing.T) {
	b := some(t)
	b.same("some")
	for _, account := range accounts() {
		b.account("some", account)
	}
	for _, sector := range numbers(5, 9, 12, maxSectors) {
		if sector >= 0 && sector < 9 {
			continue
		}
		account, own, ok := b.x.Owner(sector)
		wants(t, fmt.Sprintf("Owner(%d)", sector), [3]any{account, own, ok}, [3]any{0, 0, false})
	}
	first, count, ok := b.x.Part(1)
	wants(t, "Part of an account without sectors", [3]any{first, count, ok}, [3]any{5, 0, true})
	e := api.OK
	if _, e = b.take(1, 1); e != api.ErrFull {
		t.Errorf("Take of an account without sectors: %v", e)
	}
	wants(t, "Read of it", b.m.refused(1, 0), api.ErrNone)
	b.read(1, 0)
	wants(t, "Flush of it", b.flush(1), api.OK)
	b.same("behind looks")
}

// P10.2: the lowest run that has room is taken, of whatever is taken already.
func TestTake(t *testing.T) {
	for set := range uint64(1 << 7) {
		for n := 1; n <= 9; n++ {
			b := made(t, 11, 2, 7, 2).pattern(1, set)
			b.take(0, 1)
			_, e := b.take(1, n)
			again, eAgain := b.take(1, n)
			if e != api.OK && eAgain == api.OK {
				t.Errorf("of %b Take(%d) is refused, and again it is %d", set, n, again)
			}
			b.same(fmt.Sprintf("of %b, behind Take(%d)", set, n))
		}
	}
}

// P10.2: parts of many sectors, with gaps that lie around the sixty-fourths, and up to the part's end.
func TestTakeLong(t *testing.T) {
	for _, quota := range []int{63, 64, 65, 127, 128, 129, 200} {
		for first := max(0, quota-140); first < quota; first += 3 {
			for _, n := range []int{1, 2, 61, 64, 65, 130} {
				b := made(t, 250, 3, quota)
				b.take(1, quota)
				gap := min(n, quota-first)
				b.give(1, first, gap)
				b.take(1, gap+1)
				b.take(1, gap)
				b.same(fmt.Sprintf("of %d, when %d from %d on were free", quota, gap, first))
			}
		}
	}
	b := made(t, maxSectors, 5, maxSectors-5)
	for n := 1; ; n += 7 {
		if _, e := b.take(1, n); e != api.OK {
			break
		}
	}
	for first := 0; first < maxSectors; first += 100 {
		b.give(1, first, 1+first%40)
	}
	for n := 40; n > 0; n-- {
		b.take(1, n)
		b.take(1, n)
	}
	b.same("many")
}

// P10.2: what may not be taken, by the first thing that is wrong, changes nothing.
func TestNoTake(t *testing.T) {
	b := some(t)
	for _, account := range accounts() {
		for _, n := range numbers(4, 5, 12, maxSectors) {
			if account >= 0 && account < 3 && n >= 1 && n <= 2 {
				continue
			}
			at, e := b.x.Take(account, n)
			want := api.ErrFull
			if account < 0 || account > 2 || n < 1 {
				want = api.ErrArg
			}
			wants(t, fmt.Sprintf("Take(%d, %d)", account, n), [2]any{at, e}, [2]any{0, want})
		}
	}
	b.same("behind what is refused")
}

// P10.2: what is taken is free again, of whatever is taken, and nothing beside it is.
func TestGive(t *testing.T) {
	for set := range uint64(1 << 6) {
		for first := -1; first <= 7; first++ {
			for n := -1; n <= 8; n++ {
				b := made(t, 10, 2, 6, 2).pattern(1, set)
				b.take(0, 2)
				b.take(2, 2)
				b.give(1, first, n)
				b.same(fmt.Sprintf("of %b, behind Give(%d, %d)", set, first, n))
			}
		}
	}
}

// P10.2: sectors around the sixty-fourths.
func TestGiveLong(t *testing.T) {
	for _, first := range []int{0, 1, 62, 63, 64, 65, 127, 128, 190, 199} {
		for _, n := range []int{1, 2, 63, 64, 65, 66, 128, 129, 137, 138, 199, 200, 201} {
			b := made(t, 210, 5, 200, 5)
			b.take(0, 5)
			b.take(1, 200)
			b.take(2, 5)
			b.give(1, first, n)
			b.same(fmt.Sprintf("behind Give(%d, %d)", first, n))
			b.give(1, 60, 10)
			b.give(1, 0, 200)
			b.same(fmt.Sprintf("behind Give(%d, %d), and others", first, n))
		}
	}
}

// P10.2: what may not be given back, by the first thing that is wrong, changes nothing.
func TestNoGive(t *testing.T) {
	b := some(t)
	for _, account := range accounts() {
		for _, first := range numbers(4, 5, 12, maxSectors) {
			for _, n := range numbers(4, 5, 12, maxSectors) {
				want := api.ErrNone
				switch {
				case account < 0 || account > 2 || n < 1 || first < 0:
					want = api.ErrArg
				case b.m.all(account, first, n, true):
					continue
				}
				wants(t, fmt.Sprintf("Give(%d, %d, %d)", account, first, n), b.x.Give(account, first, n), want)
			}
		}
	}
	b.same("behind what is refused")
}

// P10.2: Runs may be left at any time, and gone through as often as one likes.
func TestRunsLeft(t *testing.T) {
	b := made(t, 12, 2, 9).pattern(1, 0b101110011)
	all := b.x.Runs(1)
	want := []api.Stretch{{First: 0, Count: 2}, {First: 4, Count: 3}, {First: 8, Count: 1}}
	for most := range 5 {
		var l []api.Stretch
		for s := range all {
			if len(l) == most {
				break
			}
			l = append(l, s)
		}
		if !slices.Equal(l, want[:min(most, 3)]) {
			t.Errorf("left behind %d: %v", most, l)
		}
		if l := slices.Collect(all); !slices.Equal(l, want) {
			t.Errorf("once more: %v", l)
		}
	}
	for range all {
		for s := range all {
			wants(t, "the first one within another go", s, want[0])
			break
		}
	}
	b.same("at the end")
}

// P10.2: Runs tells what is taken when it begins, whatever is done while it goes.
func TestRunsWhen(t *testing.T) {
	b := made(t, 12, 2, 9).pattern(1, 0b000000011)
	all := b.x.Runs(1)
	b.give(1, 0, 2)
	b.take(1, 9)
	b.give(1, 1, 1)
	b.give(1, 5, 2)
	var l []api.Stretch
	for s := range all {
		if l = append(l, s); len(l) == 1 {
			b.give(1, 2, 3)
			b.give(1, 8, 1)
			b.take(1, 1)
		}
	}
	wants(t, "Runs, changed while it goes", fmt.Sprint(l), "[{0 1} {2 3} {7 2}]")
	wants(t, "Runs, once more", fmt.Sprint(slices.Collect(all)), "[{0 2} {7 1}]")
	b.same("at the end")
}

// P10.2: the longest runs, of whatever is taken, however it was taken.
func TestRuns(t *testing.T) {
	for set := range uint64(1 << 9) {
		made(t, 14, 3, 9, 2).pattern(1, set).same(fmt.Sprintf("of %b", set))
	}
	b := made(t, 200, 200)
	for range 130 {
		b.take(0, 1)
	}
	wants(t, "Runs, taken one by one", fmt.Sprint(slices.Collect(b.x.Runs(0))), "[{0 130}]")
	b.take(0, 70)
	wants(t, "Runs of all", fmt.Sprint(slices.Collect(b.x.Runs(0))), "[{0 200}]")
	b.give(0, 64, 64)
	wants(t, "Runs at sixty-fourths", fmt.Sprint(slices.Collect(b.x.Runs(0))), "[{0 64} {128 72}]")
	b.same("at the end")
}

// P10.3: each taken sector is written and read apart from all others, and flushed with its part.
func TestWrite(t *testing.T) {
	b := made(t, 14, 4, 0, 3, 5)
	for _, account := range []int{0, 2, 3} {
		b.take(account, b.m.quota(account))
	}
	n := 0
	for _, account := range []int{0, 2, 3, 2, 0} {
		for sector := range b.m.quota(account) {
			n++
			wants(t, "Write", b.write(account, sector, odd(n)), api.OK)
			got, e := b.x.Read(account, sector)
			wantsBytes(t, "Read", got, e, string(odd(n)), api.OK)
			b.same(fmt.Sprintf("behind Write(%d, %d)", account, sector))
		}
	}
	for _, account := range []int{2, 1, 0, 3} {
		for _, reader := range []int{0, 2, 3} {
			for sector := range b.m.quota(reader) {
				b.read(reader, sector)
			}
		}
		wants(t, "Flush", b.flush(account), api.OK)
		b.same(fmt.Sprintf("behind Flush(%d)", account))
	}
	b.give(0, 1, 1)
	b.take(0, 1)
	b.read(0, 1)
	got, e := b.x.Read(0, 1)
	wantsBytes(t, "Read of what was given back, and taken again", got, e, string(odd(n-2)), api.OK)
}

// P10.3: the whole part is flushed, also what is not taken any more, and nothing beside it.
func TestFlush(t *testing.T) {
	for account := range 3 {
		b := made(t, 12, 3, 4, 2)
		for a := range 3 {
			b.take(a, b.m.quota(a))
			for sector := range b.m.quota(a) {
				b.write(a, sector, odd(10*a+sector))
			}
			b.give(a, 0, 2)
		}
		b.x.Disk().Write(11, odd(99))
		b.m.d.Write(11, odd(99))
		first, count, _ := b.x.Part(account)
		wants(t, "Flush", b.flush(account), api.OK)
		for sector := range 12 {
			in := sector >= first && sector < first+count
			if pending := b.x.Disk().Pending(sector); in && pending > 0 || !in && sector < 9 && pending == 0 {
				t.Errorf("behind Flush(%d) of sector %d there are %d pending", account, sector, pending)
			}
		}
		b.same(fmt.Sprintf("behind Flush(%d)", account))
	}
}

// P10.3: what may not be read, written, flushed, by the first thing that is wrong, changes nothing.
func TestNoWrite(t *testing.T) {
	b := some(t)
	for _, account := range accounts() {
		for _, sector := range numbers(4, 5, 9, 12, maxSectors) {
			want := b.m.refused(account, sector)
			if want != api.OK {
				wants(t, fmt.Sprintf("Write(%d, %d, a sector)", account, sector), b.x.Write(account, sector, full(1)), want)
				got, e := b.x.Read(account, sector)
				wantsBytes(t, fmt.Sprintf("Read(%d, %d)", account, sector), got, e, "", want)
			} else {
				want = api.ErrArg
			}
			for _, n := range []int{0, 1, 127, 129, 256, 5 * sectorSize} {
				wants(t, fmt.Sprintf("Write(%d, %d, %d bytes)", account, sector, n), b.x.Write(account, sector, make([]byte, n)), want)
			}
			wants(t, fmt.Sprintf("Write(%d, %d, nil)", account, sector), b.x.Write(account, sector, nil), want)
		}
		if account < 0 || account > 2 {
			wants(t, fmt.Sprintf("Flush(%d)", account), b.x.Flush(account), api.ErrArg)
		}
	}
	wants(t, "Write of 127 bytes and room", b.x.Write(0, 1, make([]byte, 127, 500)), api.ErrArg)
	b.same("behind what is refused")
}

// P10.4: the disk's own numbers of an account's sectors, taken or not, in the order in which they are told.
func TestKeeps(t *testing.T) {
	b := some(t)
	for account := range 3 {
		var every []api.Keep
		for sector := range b.m.quota(account) {
			every = append(every, api.Keep{Sector: sector, Writes: 10*sector + 1})
			b.keeps(account, every...)
			b.keeps(account, every[sector])
		}
		slices.Reverse(every)
		b.keeps(account, every...)
		b.keeps(account, slices.Repeat(every, 3)...)
		b.keeps(account)
		b.keeps(account, []api.Keep{}...)
	}
	l, e := b.keeps(2, api.Keep{Sector: 3, Writes: 7}, api.Keep{Sector: 0, Writes: -1}, api.Keep{Sector: 3, Writes: math.MaxInt})
	wants(t, "Keeps(2)", fmt.Sprint(l, e), fmt.Sprint([]api.Keep{{Sector: 8, Writes: 7}, {Sector: 5, Writes: -1}, {Sector: 8, Writes: math.MaxInt}}, api.OK))
	b.same("behind Keeps")
	// Ahead of its own two writes one of the disk's beginning is pending of the sector 1.
	l, e = b.x.Keeps(2, api.Keep{Sector: 1, Writes: 2}, api.Keep{Sector: 3, Writes: 1})
	wants(t, "Keeps for a crash", e, api.OK)
	left, e := b.x.Disk().Crash(l...)
	wants(t, "the crash", e, api.OK)
	o := b.over(left)
	got, e := o.x.Read(2, 1)
	wantsBytes(t, "Read(2, 1) behind the crash", got, e, string(odd(4)), api.OK)
	got, e = o.x.Read(2, 3)
	wantsBytes(t, "Read(2, 3) behind the crash", got, e, string(odd(2)), api.OK)
	got, e = o.x.Read(0, 1)
	wantsBytes(t, "Read(0, 1) behind the crash", got, e, string(odd(1)), api.OK)
	o.same("behind the crash")
	b.same("what crashed")
}

// P10.4: accounts and sectors that there are not.
func TestNoKeeps(t *testing.T) {
	b := some(t)
	good := api.Keep{Sector: 0, Writes: 1}
	for _, account := range accounts() {
		for _, sector := range numbers(4, 5, 9, 12, maxSectors) {
			one := api.Keep{Sector: sector, Writes: 1}
			b.keeps(account, one)
			b.keeps(account, good, one)
			b.keeps(account, one, good)
			b.keeps(account, good, one, good)
		}
		b.keeps(account)
	}
	if _, e := b.keeps(1, good); e != api.ErrArg {
		t.Errorf("Keeps of an account without sectors: %v", e)
	}
	if _, e := b.keeps(0, api.Keep{Sector: 5}); e != api.ErrArg {
		t.Errorf("Keeps of a sector that is another account's: %v", e)
	}
	if _, e := b.keeps(3); e != api.ErrArg {
		t.Errorf("Keeps of no account: %v", e)
	}
	b.same("behind Keeps")
}

// P10.4: the same over another disk, which goes on apart.
func TestOver(t *testing.T) {
	b := some(t)
	d := newDisk(t, 12)
	d.Write(6, odd(77))
	was := d.Copy()
	o := b.over(d)
	wants(t, "the disk is as it was", disk.Same(d, was), true)
	o.same("Over")
	got, e := o.x.Read(2, 1)
	wantsBytes(t, "Read(2, 1) of the other disk", got, e, string(odd(77)), api.OK)
	b.same("what Over was asked of")
	o.take(0, 2)
	o.give(2, 1, 2)
	o.write(2, 3, odd(31))
	o.flush(2)
	b.same("behind what was done to the other")
	b.take(0, 1)
	b.give(2, 3, 1)
	b.write(0, 1, odd(32))
	b.flush(0)
	o.same("behind what was done to the first")
	b.same("at the end")
	again := o.over(b.x.Disk().Copy())
	again.same("over again")
	same, e := b.x.Over(b.x.Disk())
	wants(t, "Over of the disk itself", [2]any{e, same != b.x && same.Disk() == b.x.Disk()}, [2]any{api.OK, true})
	same.Take(0, 1)
	b.same("behind Over of the disk itself")
	wants(t, "Write by the other", same.Write(0, 1, odd(33)), api.OK)
	got, e = b.x.Read(0, 1)
	wantsBytes(t, "Read of a shared disk", got, e, string(odd(33)), api.OK)
}

// P10.4: disks that are none, or of another size.
func TestNoOver(t *testing.T) {
	b := some(t)
	var noX *extents.Extents
	for _, n := range []int{1, 9, 11, 13, maxSectors} {
		if o, e := b.x.Over(newDisk(t, n)); o != nil || e != api.ErrArg {
			t.Errorf("Over of %d sectors: %v, %v", n, o, e)
		}
		if o, e := noX.Over(newDisk(t, n)); o != nil || e != api.ErrNil {
			t.Errorf("Over of no extents: %v, %v", o, e)
		}
	}
	for _, d := range []*disk.Disk{nil, {}} {
		for _, x := range []*extents.Extents{b.x, nil, {}} {
			if o, e := x.Over(d); o != nil || e != api.ErrNil {
				t.Errorf("Over of no disk: %v, %v", o, e)
			}
		}
	}
	b.same("behind what is refused")
}

// P10.1 to P10.4: extents that are not there tell nothing, and do nothing.
func TestNil(t *testing.T) {
	var none *extents.Extents
	refused, _ := extents.New(newDisk(t, 3), 4)
	over, _ := some(t).x.Over(nil)
	for what, x := range map[string]*extents.Extents{"nil": none, "zero": {}, "new": new(extents.Extents), "refused": refused, "Over refused": over} {
		for _, account := range accounts() {
			for _, n := range []int{math.MinInt, -1, 0, 1, math.MaxInt} {
				nothing(t, fmt.Sprintf("%s: of %d and %d: ", what, account, n), x, account, n)
			}
		}
		if d := x.Disk(); d != nil {
			t.Errorf("%s: Disk: %v", what, d)
		}
		if o, e := x.Over(newDisk(t, 3)); o != nil || e != api.ErrNil {
			t.Errorf("%s: Over: %v, %v", what, o, e)
		}
	}
}

// nothing fails unless extents that are not there tell nothing of an account and a number.
func nothing(t *testing.T, what string, x *extents.Extents, account, n int) {
	t.Helper()
	wants(t, what+"Quota", x.Quota(account), 0)
	first, count, ok := x.Part(account)
	wants(t, what+"Part", [3]any{first, count, ok}, [3]any{0, 0, false})
	at, e := x.Take(account, n)
	wants(t, what+"Take", [2]any{at, e}, [2]any{0, api.ErrNil})
	wants(t, what+"Give", x.Give(account, n, n), api.ErrNil)
	wants(t, what+"Taken", x.Taken(account), 0)
	all := x.Runs(account)
	if all == nil {
		t.Fatal(what + "Runs is not there")
	}
	for s := range all {
		t.Error(what+"Runs tells", s)
	}
	b, e := x.Read(account, n)
	wantsBytes(t, what+"Read", b, e, "", api.ErrNil)
	wants(t, what+"Write", x.Write(account, n, full(1)), api.ErrNil)
	wants(t, what+"Write", x.Write(account, n, nil), api.ErrNil)
	wants(t, what+"Flush", x.Flush(account), api.ErrNil)
	owner, own, ok := x.Owner(n)
	wants(t, what+"Owner", [3]any{owner, own, ok}, [3]any{0, 0, false})
	if l, e := x.Keeps(account, api.Keep{Sector: n}); l != nil || e != api.ErrNil {
		t.Errorf("%sKeeps: %v, %v", what, l, e)
	}
	if l, e := x.Keeps(account); l != nil || e != api.ErrNil {
		t.Errorf("%sKeeps: %v, %v", what, l, e)
	}
}

// P10.1 to P10.4: what is handed in is not changed and not kept, and each answer is memory of its own, spare room included.
func TestMemory(t *testing.T) {
	quotas := []int{5, 0, 4, 9, 9}
	b := made(t, 12, quotas[:3]...).pattern(0, 0b00110)
	wants(t, "the quotas, and behind them", fmt.Sprint(quotas), "[5 0 4 9 9]")
	clear(quotas)
	b.same("when the quotas are changed")
	given := append(make([]byte, 0, 2*sectorSize), odd(30)...)
	b.write(0, 1, given)
	wants(t, "what was written", string(given), string(odd(30)))
	wants(t, "the room behind what was written", string(given[sectorSize:cap(given)]), string(make([]byte, sectorSize)))
	clear(given)
	b.same("when what was written is changed")
	one, _ := b.x.Read(0, 1)
	two, _ := b.x.Read(0, 1)
	clear(one[:cap(one)])
	wants(t, "Read, when another answer is changed", string(two), string(odd(30)))
	b.same("when what was read is changed")
	keep := []api.Keep{{Sector: 1, Writes: 1}, {Sector: 2, Writes: 2}, {Sector: 9, Writes: 9}}
	first, _ := b.keeps(2, keep[:2]...)
	second, _ := b.keeps(2, keep[:2]...)
	wants(t, "what was kept, and behind it", fmt.Sprint(keep), "[{1 1} {2 2} {9 9}]")
	clear(keep)
	clear(first[:cap(first)])
	wants(t, "Keeps, when all else is changed", fmt.Sprint(second), "[{6 1} {7 2}]")
	b.same("at the end")
}

// P10.5: no two accounts have one sector: each that is in a part is there once, and its owner's.
func TestNoTwo(t *testing.T) {
	r := rand.New(rand.NewSource(105))
	for range 200 {
		n := 1 + r.Intn(300)
		var quotas []int
		left := n
		for range 1 + r.Intn(maxAccounts) {
			q := r.Intn(left + 1)
			quotas = append(quotas, q)
			left -= q
		}
		x, e := extents.New(newDisk(t, n), quotas...)
		wants(t, fmt.Sprint("New of ", quotas), e, api.OK)
		whose := map[int]int{}
		for account := range quotas {
			first, count, ok := x.Part(account)
			wants(t, "Part is as great as Quota", [2]any{count, ok}, [2]any{x.Quota(account), true})
			for own := range count {
				whose[first+own]++
				a, o, ok := x.Owner(first + own)
				wants(t, "Owner", [3]any{a, o, ok}, [3]any{account, own, true})
			}
		}
		for sector := range n {
			_, _, ok := x.Owner(sector)
			if whose[sector] > 1 || ok != (whose[sector] == 1) {
				t.Fatalf("of %v the sector %d is in %d parts", quotas, sector, whose[sector])
			}
		}
	}
}

// step does to both, of one account, what some numbers say.
func (b both) step(account int, op, x, y byte) {
	b.t.Helper()
	size := b.m.quota(account)
	sector := int(x)%(size+3) - 1
	switch op % 9 {
	case 0, 1:
		b.take(account, int(y)%(size/2+3))
	case 2:
		b.take(account, 1)
	case 3:
		b.give(account, sector, int(y)%(size+2))
	case 4:
		b.give(account, sector, 1)
	case 5, 6:
		s := odd(int(y) % 5)
		if y >= 250 {
			s = s[:y-200]
		}
		b.write(account, sector, s)
	case 7:
		b.read(account, sector)
	case 8:
		b.flush(account)
		b.keeps(account, api.Keep{Sector: sector, Writes: int(y)}, api.Keep{Sector: int(y) % (size + 1)})
	}
}

// bounded fails unless Taken is at most Quota, and Take of 1, asked of others over the same disk, is refused just where it is Quota.
func (b both) bounded(account int) {
	b.t.Helper()
	o, _ := b.x.Over(b.x.Disk())
	taken, quota := o.Taken(account), o.Quota(account)
	_, e := o.Take(account, 1)
	if taken > quota || (e != api.OK) != (taken == quota) {
		b.t.Errorf("of account %d %d of %d are taken, and Take of 1 is %v", account, taken, quota, e)
	}
}

// plays does many steps to extents and their model, and to others over copies of the disk on the way.
func (b both) plays(steps []byte) {
	b.t.Helper()
	for i := 0; i+3 < len(steps); i += 4 {
		account := int(steps[i+3])%(len(b.m.parts)+2) - 1
		b.step(account, steps[i], steps[i+1], steps[i+2])
		b.bounded(account)
		if b.t.Failed() {
			b.t.FailNow()
		}
		if i%80 > 0 {
			continue
		}
		b.same(fmt.Sprint("behind step ", i/4))
		o := b.over(b.x.Disk().Copy())
		for j := i; j+3 < min(len(steps), i+24); j += 4 {
			o.step(int(steps[j])%(len(o.m.parts)+1), steps[j+3], steps[j+2], steps[j+1])
		}
		o.same(fmt.Sprint("the others of step ", i/4))
		b.same(fmt.Sprint("behind the others of step ", i/4))
	}
	b.same("at the end")
}

// P10.5: whatever is done, the extents are as the words say it.
func TestFollows(t *testing.T) {
	r := rand.New(rand.NewSource(10))
	for range 40 {
		steps := make([]byte, 1600)
		r.Read(steps)
		quotas := []int{r.Intn(9), r.Intn(9), 0, r.Intn(150)}[:1+r.Intn(4)]
		made(t, 170, quotas...).plays(steps)
	}
}

// P10.5: an account's answers are the same, whatever another one does.
func TestApart(t *testing.T) {
	r := rand.New(rand.NewSource(1005))
	for range 60 {
		quiet, loud := made(t, 40, 6, 9, 8, 5), made(t, 40, 6, 9, 8, 5)
		own := r.Intn(4)
		for range 150 {
			op, x, y := byte(r.Intn(256)), byte(r.Intn(256)), byte(r.Intn(256))
			quiet.step(own, op, x, y)
			loud.step(own, op, x, y)
			loud.step((own+1+r.Intn(3))%4, byte(r.Intn(256)), byte(r.Intn(256)), byte(r.Intn(256)))
		}
		quiet.same("the quiet one")
		loud.same("the loud one")
		apart(t, quiet.x, loud.x, own)
	}
}

// apart fails unless of an account both tell the same.
func apart(t *testing.T, a, b *extents.Extents, account int) {
	t.Helper()
	wants(t, "Taken", a.Taken(account), b.Taken(account))
	wants(t, "Runs", fmt.Sprint(slices.Collect(a.Runs(account))), fmt.Sprint(slices.Collect(b.Runs(account))))
	first, count, _ := a.Part(account)
	for sector := range count {
		one, e := a.Read(account, sector)
		two, f := b.Read(account, sector)
		wants(t, fmt.Sprintf("Read(%d)", sector), string(one), string(two))
		wants(t, fmt.Sprintf("Read(%d)", sector), e, f)
		wants(t, "pending", a.Disk().Pending(first+sector), b.Disk().Pending(first+sector))
	}
	at, e := a.Take(account, 1)
	at2, e2 := b.Take(account, 1)
	wants(t, "Take(1)", [2]any{at, e}, [2]any{at2, e2})
}

// FuzzSteps plays any steps on small extents.
func FuzzSteps(f *testing.F) {
	f.Add([]byte{0, 1, 3, 1, 5, 1, 2, 1, 8, 1, 0, 1, 3, 0, 2, 1, 2, 0, 0, 3, 4, 1, 0, 3})
	f.Fuzz(func(t *testing.T, steps []byte) {
		made(t, 90, 4, 3, 70).plays(steps[:min(len(steps), 1600)])
	})
}
