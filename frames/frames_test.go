package frames_test

import (
	"bytes"
	"fmt"
	"math"
	"math/rand"
	"slices"
	"testing"

	"steading/api"
	"steading/frames"
)

const (
	pageSize  = 256
	maxFrames = 256
	mostHolds = 65535
)

// model is a pool as the chapter's words say it: what is owned stands in it, nothing else.
type model struct {
	frames int
	quotas []int
	owned  map[int]owned
	bytes  map[[2]int]byte // by frame and place; what is not there is zero
}

type owned struct{ owner, holds int }

func newModel(frames int, quotas ...int) *model {
	return &model{frames: frames, quotas: slices.Clone(quotas), owned: map[int]owned{}, bytes: map[[2]int]byte{}}
}

func (m *model) used(account int) int {
	n := 0
	for _, o := range m.owned {
		if o.owner == account {
			n++
		}
	}
	return n
}

func (m *model) quota(account int) int {
	if account < 0 || account >= len(m.quotas) {
		return 0
	}
	return m.quotas[account]
}

func (m *model) grant(account int) (int, api.Errno) {
	if account < 0 || account >= len(m.quotas) {
		return 0, api.ErrArg
	}
	if m.used(account) == m.quotas[account] {
		return 0, api.ErrFull
	}
	n := 0
	for m.owned[n].holds > 0 {
		n++
	}
	m.owned[n] = owned{account, 1}
	return n, api.OK
}

func (m *model) hold(frame int) api.Errno {
	o, ok := m.owned[frame]
	if !ok {
		return api.ErrNone
	}
	if o.holds == mostHolds {
		return api.ErrFull
	}
	m.owned[frame] = owned{o.owner, o.holds + 1}
	return api.OK
}

func (m *model) free(frame int) {
	delete(m.owned, frame)
	for at := range pageSize {
		delete(m.bytes, [2]int{frame, at})
	}
}

func (m *model) drop(frame int) (bool, api.Errno) {
	o, ok := m.owned[frame]
	if !ok {
		return false, api.ErrNone
	}
	if o.holds == 1 {
		m.free(frame)
		return true, api.OK
	}
	m.owned[frame] = owned{o.owner, o.holds - 1}
	return false, api.OK
}

func (m *model) drops(account int) (int, api.Errno) {
	if account < 0 || account >= len(m.quotas) {
		return 0, api.ErrArg
	}
	n := 0
	for frame := range m.frames {
		if o, ok := m.owned[frame]; ok && o.owner == account {
			m.free(frame)
			n++
		}
	}
	return n, api.OK
}

func (m *model) byte(frame, at int) (byte, api.Errno) {
	if at < 0 || at > pageSize-1 {
		return 0, api.ErrArg
	}
	if _, ok := m.owned[frame]; !ok {
		return 0, api.ErrNone
	}
	return m.bytes[[2]int{frame, at}], api.OK
}

func (m *model) put(frame, at int, b []byte) api.Errno {
	if at < 0 || at > pageSize-1 || at+len(b) > pageSize {
		return api.ErrArg
	}
	if _, ok := m.owned[frame]; !ok {
		return api.ErrNone
	}
	for i, x := range b {
		m.bytes[[2]int{frame, at + i}] = x
	}
	return api.OK
}

func (m *model) page(frame int) ([]byte, api.Errno) {
	if _, ok := m.owned[frame]; !ok {
		return nil, api.ErrNone
	}
	b := make([]byte, pageSize)
	for at := range b {
		b[at] = m.bytes[[2]int{frame, at}]
	}
	return b, api.OK
}

func (m *model) copy(from, to int) api.Errno {
	b, e := m.page(from)
	if e != api.OK {
		return e
	}
	return m.put(to, 0, b)
}

func (m *model) all() []api.Frame {
	var l []api.Frame
	for frame := range m.frames {
		if o, ok := m.owned[frame]; ok {
			l = append(l, api.Frame{Number: frame, Owner: o.owner, Holds: o.holds})
		}
	}
	return l
}

func (m *model) clone() *model {
	c := newModel(m.frames, m.quotas...)
	for k, o := range m.owned {
		c.owned[k] = o
	}
	for k, b := range m.bytes {
		c.bytes[k] = b
	}
	return c
}

// made is a pool that may be, and its model.
func made(t *testing.T, n int, quotas ...int) (*frames.Pool, *model) {
	t.Helper()
	p, e := frames.New(n, quotas...)
	if p == nil || e != api.OK {
		t.Fatalf("New(%d, %v): %v, %v", n, quotas, p, e)
	}
	return p, newModel(n, quotas...)
}

// numbers are around what a pool has, and far from it.
func numbers(around ...int) []int {
	l := []int{math.MinInt, math.MinInt + 1, math.MinInt32, -256, -2, -1, 0, 1, 2, 1 << 16, math.MaxInt32, 1 << 32, math.MaxInt - 255, math.MaxInt - 1, math.MaxInt}
	for _, n := range around {
		l = append(l, n-1, n, n+1)
	}
	slices.Sort(l)
	return slices.Compact(l)
}

// same holds all that a pool tells against its model, and what the chapter says follows.
func same(t *testing.T, what string, p *frames.Pool, m *model) {
	t.Helper()
	l := slices.Collect(p.All())
	if want := m.all(); !slices.Equal(l, want) {
		t.Fatalf("%s: All: %v, should be %v", what, l, want)
	}
	if n := p.Free(); n != m.frames-len(l) {
		t.Fatalf("%s: Free: %d, should be %d", what, n, m.frames-len(l))
	}
	sum := 0
	for _, account := range numbers(len(m.quotas), 3, 5, 7) {
		used, quota := p.Used(account), p.Quota(account)
		if used != m.used(account) || quota != m.quota(account) || used > quota {
			t.Fatalf("%s: Used, Quota of %d: %d, %d; should be %d, %d", what, account, used, quota, m.used(account), m.quota(account))
		}
	}
	for account := range m.quotas {
		sum += p.Used(account)
	}
	if sum+p.Free() != m.frames {
		t.Fatalf("%s: %d used and %d free of %d", what, sum, p.Free(), m.frames)
	}
	for frame := range m.frames {
		sameFrame(t, what, p, m, frame)
	}
	for _, frame := range numbers(m.frames) {
		sameFrame(t, what, p, m, frame)
	}
}

// sameFrame holds what a pool tells of one frame against its model.
func sameFrame(t *testing.T, what string, p *frames.Pool, m *model, frame int) {
	t.Helper()
	var want api.Frame
	wantE := api.ErrNone
	if o, ok := m.owned[frame]; ok {
		want, wantE = api.Frame{Number: frame, Owner: o.owner, Holds: o.holds}, api.OK
	}
	if f, e := p.Of(frame); f != want || e != wantE {
		t.Fatalf("%s: Of(%d): %v, %v; should be %v, %v", what, frame, f, e, want, wantE)
	}
	b, e := p.Page(frame)
	wantB, _ := m.page(frame)
	if !bytes.Equal(b, wantB) || e != wantE || e != api.OK && b != nil {
		t.Fatalf("%s: Page(%d): %v, %v; should be %v, %v", what, frame, b, e, wantB, wantE)
	}
	for _, at := range []int{0, 1, 127, 128, 254, 255} {
		b, e := p.Byte(frame, at)
		if want, wantE := m.byte(frame, at); b != want || e != wantE {
			t.Fatalf("%s: Byte(%d, %d): %d, %v; should be %d, %v", what, frame, at, b, e, want, wantE)
		}
	}
}

// wants fails if an answer is not that one.
func wants(t *testing.T, what string, got, want any) {
	t.Helper()
	if got != want {
		t.Errorf("%s: %v, should be %v", what, got, want)
	}
}

// number is an answer of two parts as one thing: a number, a byte or a flag, and what is said beside it.
type number struct {
	n int
	e api.Errno
}

func num(n int, e api.Errno) number { return number{n, e} }

func byt(b byte, e api.Errno) number { return number{int(b), e} }

func flag(ok bool, e api.Errno) number {
	if ok {
		return number{1, e}
	}
	return number{0, e}
}

// P5.1 to P5.3: the chapter's examples.
func TestExamples(t *testing.T) {
	for _, x := range [][]int{{4, 3, 2}, {0}} {
		if p, e := frames.New(x[0], x[1:]...); p != nil || e != api.ErrArg {
			t.Errorf("New%v: %v, %v", x, p, e)
		}
	}
	p, _ := made(t, 4, 2, 1)
	wants(t, "Grant(0)", num(p.Grant(0)), number{0, api.OK})
	wants(t, "Grant(0)", num(p.Grant(0)), number{1, api.OK})
	wants(t, "Grant(0)", num(p.Grant(0)), number{0, api.ErrFull})
	wants(t, "Grant(1)", num(p.Grant(1)), number{2, api.OK})
	wants(t, "Grant(2)", num(p.Grant(2)), number{0, api.ErrArg})
	wants(t, "Put(1, 255, 7)", p.Put(1, 255, 7), api.OK)
	wants(t, "Put(1, 255, 7, 8)", p.Put(1, 255, 7, 8), api.ErrArg)
	wants(t, "Byte(1, 255)", byt(p.Byte(1, 255)), number{7, api.OK})
	wants(t, "Hold(1)", p.Hold(1), api.OK)
	wants(t, "Drop(1)", flag(p.Drop(1)), number{0, api.OK})
	wants(t, "Drop(1)", flag(p.Drop(1)), number{1, api.OK})
	wants(t, "Drop(1)", flag(p.Drop(1)), number{0, api.ErrNone})
	wants(t, "Grant(0)", num(p.Grant(0)), number{1, api.OK})
	wants(t, "Byte(1, 255)", byt(p.Byte(1, 255)), number{0, api.OK})
	wants(t, "Free", p.Free(), 1)
	wants(t, "Used(0)", p.Used(0), 2)
}

// P5.1: pools that may be.
func TestNew(t *testing.T) {
	for _, x := range [][]int{
		{1, 0}, {1, 1}, {2, 2}, {2, 1, 1}, {2, 0, 2}, {2, 2, 0}, {4, 2, 1}, {7, 1, 1, 1, 1, 1, 1, 1}, {8, 1, 1, 1, 1, 1, 1, 1, 1}, {3, 0, 0, 0, 0, 0, 0, 0, 3},
		{255, 255}, {256, 0}, {256, 256}, {256, 255, 1}, {256, 100}, {256, 32, 32, 32, 32, 32, 32, 32, 32}, {256, 0, 0, 0, 0, 0, 0, 0, 0},
	} {
		p, m := made(t, x[0], x[1:]...)
		same(t, fmt.Sprint("New", x), p, m)
		wants(t, fmt.Sprint("Free of New", x), p.Free(), x[0])
		for account, quota := range x[1:] {
			wants(t, fmt.Sprintf("Quota(%d) of New%v", account, x), p.Quota(account), quota)
			wants(t, fmt.Sprintf("Used(%d) of New%v", account, x), p.Used(account), 0)
		}
	}
}

// P5.1: pools that may not be.
func TestNoPools(t *testing.T) {
	const least, most = math.MinInt, math.MaxInt
	for _, x := range [][]int{
		{0}, {1}, {256}, {-1}, {257}, {least}, {most},
		{0, 0}, {-1, 0}, {-1, -1}, {257, 0}, {257, 1}, {512, 1}, {1 << 32, 1}, {least, 0}, {most, 0}, {most, most}, {least, least},
		{1, 2}, {4, 5}, {4, 3, 2}, {4, 2, 3}, {4, 0, 5}, {4, 1, 1, 1, 1, 1}, {256, 257}, {256, 256, 1}, {256, 1, 256},
		{4, -1}, {4, 1, -1}, {4, -1, 1}, {4, 5, -1}, {4, -1, 5}, {4, 1, 1, 1, 1, 1, 1, 1, -4}, {4, least}, {4, 1, least},
		{4, most}, {4, 1, most}, {4, most, most}, {4, most, most, 2}, {4, most, most, 3}, {4, most, 1, most, 1}, {4, 1 << 62, 1 << 62, 1 << 62, 1 << 62}, {4, least, least}, {4, most, least}, {4, least, most, 1},
		{9, 1, 1, 1, 1, 1, 1, 1, 1, 1}, {256, 0, 0, 0, 0, 0, 0, 0, 0, 0}, {9, 1, 1, 1, 1, 1, 1, 1, 1, 0},
	} {
		if p, e := frames.New(x[0], x[1:]...); p != nil || e != api.ErrArg {
			t.Errorf("New%v: %v, %v", x, p, e)
		}
	}
	if p, e := frames.New(256, make([]int, 1<<16)...); p != nil || e != api.ErrArg {
		t.Errorf("New with many quotas: %v, %v", p, e)
	}
	for _, none := range [][]int{nil, {}} {
		if p, e := frames.New(4, none...); p != nil || e != api.ErrArg {
			t.Errorf("New with no quotas: %v, %v", p, e)
		}
	}
}

// P5.1: quotas that are handed in are not changed and not kept.
func TestQuotasApart(t *testing.T) {
	given := []int{2, 1, 7, 8, 9}
	p, m := made(t, 4, given[:2]...)
	q := p.Clone()
	given[0], given[1] = 4, 4
	p.Grant(0)
	m.grant(0)
	p.Grant(0)
	m.grant(0)
	wants(t, "Grant(0)", num(p.Grant(0)), number{0, api.ErrFull})
	wants(t, "Quota(1) of the clone", q.Quota(1), 1)
	same(t, "behind a change of the quotas", p, m)
	if !slices.Equal(given, []int{4, 4, 7, 8, 9}) {
		t.Errorf("quotas: %v", given)
	}
}

// P5.1, P5.2: accounts that the pool has not.
func TestNoAccounts(t *testing.T) {
	p, m := made(t, 8, 2, 0, 3)
	for range 2 {
		for account := range 3 {
			p.Grant(account)
			m.grant(account)
		}
	}
	for _, account := range numbers(8) {
		if account >= 0 && account < 3 {
			continue
		}
		wants(t, fmt.Sprintf("Grant(%d)", account), num(p.Grant(account)), number{0, api.ErrArg})
		wants(t, fmt.Sprintf("Drops(%d)", account), num(p.Drops(account)), number{0, api.ErrArg})
		wants(t, fmt.Sprintf("Used(%d)", account), p.Used(account), 0)
		wants(t, fmt.Sprintf("Quota(%d)", account), p.Quota(account), 0)
	}
	wants(t, "Grant(3)", num(p.Grant(3)), number{0, api.ErrArg})
	wants(t, "Drops(3)", num(p.Drops(3)), number{0, api.ErrArg})
	same(t, "behind accounts that are none", p, m)
}

// P5.2: the lowest free frame is granted, up to the quota, whatever others have.
func TestGrant(t *testing.T) {
	p, m := made(t, 9, 3, 0, 4)
	for i, x := range []struct{ account, frame int }{{2, 0}, {0, 1}, {0, 2}, {2, 3}, {0, 4}, {2, 5}, {2, 6}} {
		wants(t, fmt.Sprint("Grant ", i), num(p.Grant(x.account)), number{x.frame, api.OK})
		m.grant(x.account)
		if f, e := p.Of(x.frame); f != (api.Frame{Number: x.frame, Owner: x.account, Holds: 1}) || e != api.OK {
			t.Errorf("Grant %d: %v, %v", i, f, e)
		}
	}
	for account := range 3 {
		wants(t, "Grant of a used quota", num(p.Grant(account)), number{0, api.ErrFull})
	}
	wants(t, "Free", p.Free(), 2)
	// Holes are taken first, the lowest ahead, by whoever asks.
	for _, frame := range []int{6, 1, 3, 4} {
		wants(t, "Drop", flag(p.Drop(frame)), number{1, api.OK})
		m.drop(frame)
	}
	for i, x := range []struct{ account, frame int }{{2, 1}, {0, 3}, {2, 4}, {0, 6}} {
		wants(t, fmt.Sprint("Grant of a hole ", i), num(p.Grant(x.account)), number{x.frame, api.OK})
		m.grant(x.account)
	}
	for account := range 3 {
		wants(t, "Grant of a used quota", num(p.Grant(account)), number{0, api.ErrFull})
	}
	same(t, "behind grants", p, m)
}

// P5.2, P5.5: all frames of the greatest pool are granted to whom they are, and zero each time.
func TestGrantAll(t *testing.T) {
	quotas := []int{100, 1, 0, 55, 50, 25, 5, 20}
	p, m := made(t, maxFrames, quotas...)
	full := bytes.Repeat([]byte{255}, pageSize)
	for round := range 3 {
		for n := 0; n < maxFrames; {
			for account := range quotas {
				frame, e := p.Grant(account)
				if want, wantE := m.grant(account); frame != want || e != wantE {
					t.Fatalf("round %d: Grant(%d): %d, %v; should be %d, %v", round, account, frame, e, want, wantE)
				}
				if e != api.OK {
					continue
				}
				if b, e := p.Page(frame); !bytes.Equal(b, make([]byte, pageSize)) || e != api.OK {
					t.Fatalf("round %d: frame %d is granted as %v, %v", round, frame, b, e)
				}
				wants(t, "Put", p.Put(frame, 0, full...), api.OK)
				m.put(frame, 0, full)
				n++
			}
		}
		wants(t, "Free", p.Free(), 0)
		same(t, fmt.Sprint("round ", round), p, m)
		for account, quota := range quotas {
			if account%2 == round%2 {
				wants(t, "Drops", num(p.Drops(account)), number{quota, api.OK})
				m.drops(account)
			}
		}
		for _, f := range slices.Collect(p.All()) {
			wants(t, "Drop", flag(p.Drop(f.Number)), number{1, api.OK})
			m.drop(f.Number)
		}
		wants(t, "Free", p.Free(), maxFrames)
		same(t, fmt.Sprint("behind round ", round), p, m)
	}
}

// P5.2: a quota is of frames, not of holds.
func TestHolds(t *testing.T) {
	p, m := made(t, 3, 2, 1)
	p.Grant(0)
	m.grant(0)
	p.Put(0, 9, 1, 2)
	m.put(0, 9, []byte{1, 2})
	for holds := 2; holds <= mostHolds; holds++ {
		if e := p.Hold(0); e != api.OK {
			t.Fatalf("Hold to %d: %v", holds, e)
		}
		m.hold(0)
	}
	for range 3 {
		wants(t, "Hold beyond", p.Hold(0), api.ErrFull)
	}
	same(t, "held as often as may be", p, m)
	wants(t, "Used", p.Used(0), 1)
	wants(t, "Grant", num(p.Grant(0)), number{1, api.OK})
	m.grant(0)
	wants(t, "Drop", flag(p.Drop(0)), number{0, api.OK})
	wants(t, "Hold", p.Hold(0), api.OK)
	wants(t, "Hold beyond", p.Hold(0), api.ErrFull)
	for holds := mostHolds - 1; holds > 0; holds-- {
		if free, e := p.Drop(0); free || e != api.OK {
			t.Fatalf("Drop to %d: %v, %v", holds, free, e)
		}
		m.drop(0)
	}
	same(t, "held once", p, m)
	wants(t, "the last Drop", flag(p.Drop(0)), number{1, api.OK})
	m.drop(0)
	wants(t, "Drop of a free one", flag(p.Drop(0)), number{0, api.ErrNone})
	wants(t, "Hold of a free one", p.Hold(0), api.ErrNone)
	same(t, "let go of", p, m)
	// Who has it next holds it once.
	wants(t, "Grant", num(p.Grant(1)), number{0, api.OK})
	m.grant(1)
	same(t, "granted anew", p, m)
}

// P5.2: Drops lets go of one account's frames, whoever holds them, and of no other's.
func TestDrops(t *testing.T) {
	p, m := made(t, 10, 4, 3, 2)
	for i := range 9 {
		account := []int{0, 1, 2, 0, 1, 0, 2, 0, 1}[i]
		n, _ := p.Grant(account)
		m.grant(account)
		for range i {
			p.Hold(n)
			m.hold(n)
		}
		p.Put(n, i, 1, 2, 3)
		m.put(n, i, []byte{1, 2, 3})
	}
	wants(t, "Drops(1)", num(p.Drops(1)), number{3, api.OK})
	m.drops(1)
	same(t, "behind Drops(1)", p, m)
	wants(t, "Drops(1) again", num(p.Drops(1)), number{0, api.OK})
	wants(t, "Drops(0)", num(p.Drops(0)), number{4, api.OK})
	m.drops(0)
	same(t, "behind Drops(0)", p, m)
	wants(t, "Drop of one", flag(p.Drop(0)), number{0, api.ErrNone})
	wants(t, "Drop of account 2's", flag(p.Drop(2)), number{0, api.OK})
	m.drop(2)
	for i, want := range []int{0, 1, 3, 4} {
		account := []int{1, 0, 1, 1}[i]
		wants(t, "Grant behind Drops", num(p.Grant(account)), number{want, api.OK})
		m.grant(account)
	}
	same(t, "granted anew", p, m)
	q, _ := made(t, 3, 0, 3)
	wants(t, "Drops of who has none", num(q.Drops(0)), number{0, api.OK})
	wants(t, "Drops of who has none yet", num(q.Drops(1)), number{0, api.OK})
}

// P5.2 to P5.4: frames that are free, or that there are not.
func TestNoFrames(t *testing.T) {
	p, m := made(t, 5, 2, 2)
	for i := range 4 {
		p.Grant(i % 2)
		m.grant(i % 2)
	}
	p.Drop(1)
	m.drop(1)
	for _, frame := range numbers(5, 256) {
		if _, ok := m.owned[frame]; ok {
			continue
		}
		what := fmt.Sprintf("of frame %d", frame)
		wants(t, "Hold "+what, p.Hold(frame), api.ErrNone)
		wants(t, "Drop "+what, flag(p.Drop(frame)), number{0, api.ErrNone})
		wants(t, "Byte "+what, byt(p.Byte(frame, 0)), number{0, api.ErrNone})
		wants(t, "Byte "+what, byt(p.Byte(frame, 255)), number{0, api.ErrNone})
		wants(t, "Put "+what, p.Put(frame, 0, 1), api.ErrNone)
		wants(t, "Put of nothing "+what, p.Put(frame, 255), api.ErrNone)
		wants(t, "Put of all "+what, p.Put(frame, 0, make([]byte, pageSize)...), api.ErrNone)
		wants(t, "Copy from "+what, p.Copy(frame, 0), api.ErrNone)
		wants(t, "Copy to "+what, p.Copy(0, frame), api.ErrNone)
		wants(t, "Copy from and to "+what, p.Copy(frame, frame), api.ErrNone)
		wants(t, "Copy from 1 "+what, p.Copy(1, frame), api.ErrNone)
		if f, e := p.Of(frame); f != (api.Frame{}) || e != api.ErrNone {
			t.Errorf("Of %s: %v, %v", what, f, e)
		}
		if b, e := p.Page(frame); b != nil || e != api.ErrNone {
			t.Errorf("Page %s: %v, %v", what, b, e)
		}
	}
	same(t, "behind frames that are none", p, m)
}

// P5.3: each byte is what was put there last, and nothing else is changed.
func TestBytes(t *testing.T) {
	p, m := made(t, 3, 1, 2)
	for i := range 3 {
		p.Grant(min(i, 1))
		m.grant(min(i, 1))
	}
	for at := range pageSize {
		b := byte(at*7 + 1)
		wants(t, "Put", p.Put(1, at, b), api.OK)
		m.put(1, at, []byte{b})
	}
	same(t, "behind each byte", p, m)
	for at := range pageSize {
		got, e := p.Byte(1, at)
		if want, _ := m.byte(1, at); got != want || e != api.OK {
			t.Errorf("Byte(1, %d): %d, %v; should be %d", at, got, e, want)
		}
	}
	for n := range pageSize + 3 {
		for _, at := range []int{0, 1, 7, 128, 254, 255} {
			b := bytes.Repeat([]byte{byte(n)}, n)
			e, want := p.Put(2, at, b...), m.put(2, at, b)
			if e != want || (e == api.OK) != (at+n <= pageSize) {
				t.Fatalf("Put(2, %d) of %d bytes: %v, should be %v", at, n, e, want)
			}
		}
		same(t, fmt.Sprintf("behind %d bytes", n), p, m)
	}
}

// P5.3: a place that is none, and bytes beyond the frame, are told ahead of a frame that is none.
func TestNoPlaces(t *testing.T) {
	p, m := made(t, 3, 2)
	p.Grant(0)
	m.grant(0)
	p.Put(0, 0, 1, 2, 3)
	m.put(0, 0, []byte{1, 2, 3})
	long := bytes.Repeat([]byte{9}, 70000)
	for _, frame := range []int{0, 1, 2, 3, -1, math.MaxInt, math.MinInt} {
		for _, at := range numbers(256, 512) {
			if at >= 0 && at <= 255 {
				continue
			}
			what := fmt.Sprintf("(%d, %d)", frame, at)
			wants(t, "Byte"+what, byt(p.Byte(frame, at)), number{0, api.ErrArg})
			wants(t, "Put of nothing"+what, p.Put(frame, at), api.ErrArg)
			wants(t, "Put"+what, p.Put(frame, at, 9), api.ErrArg)
			wants(t, "Put of many"+what, p.Put(frame, at, long...), api.ErrArg)
		}
		for _, at := range []int{0, 1, 200, 254, 255} {
			what := fmt.Sprintf("(%d, %d)", frame, at)
			wants(t, "Put of one too many"+what, p.Put(frame, at, long[:pageSize-at+1]...), api.ErrArg)
			wants(t, "Put of many"+what, p.Put(frame, at, long...), api.ErrArg)
		}
	}
	same(t, "behind places that are none", p, m)
}

// P5.3: Put of nothing changes nothing, a nil list and an empty one.
func TestPutNothing(t *testing.T) {
	p, m := made(t, 2, 2)
	p.Grant(0)
	m.grant(0)
	p.Put(0, 0, bytes.Repeat([]byte{5}, pageSize)...)
	m.put(0, 0, bytes.Repeat([]byte{5}, pageSize))
	for _, at := range []int{0, 1, 254, 255} {
		wants(t, "Put", p.Put(0, at), api.OK)
		wants(t, "Put of nil", p.Put(0, at, nil...), api.OK)
		wants(t, "Put of an empty list", p.Put(0, at, []byte{}...), api.OK)
		wants(t, "Put of nothing in a free frame", p.Put(1, at), api.ErrNone)
	}
	same(t, "behind nothing", p, m)
}

// P5.3: a copy has the bytes as they are, and goes on apart.
func TestCopy(t *testing.T) {
	p, m := made(t, 4, 2, 2)
	for i := range 4 {
		p.Grant(i / 2)
		m.grant(i / 2)
		b := bytes.Repeat([]byte{byte(i + 1), 0, 200}, 85)
		p.Put(i, i, b...)
		m.put(i, i, b)
	}
	p.Hold(1)
	m.hold(1)
	for _, x := range [][2]int{{0, 1}, {1, 2}, {3, 1}, {2, 2}, {0, 3}} {
		wants(t, fmt.Sprint("Copy ", x), p.Copy(x[0], x[1]), api.OK)
		m.copy(x[0], x[1])
		same(t, fmt.Sprint("behind Copy ", x), p, m)
		p.Put(x[0], 100, 77)
		m.put(x[0], 100, []byte{77})
		p.Put(x[1], 101, 78)
		m.put(x[1], 101, []byte{78})
		same(t, fmt.Sprint("written behind Copy ", x), p, m)
	}
	// A free frame's bytes are nobody's, and do not come back.
	p.Drop(0)
	m.drop(0)
	wants(t, "Copy of a free one", p.Copy(0, 1), api.ErrNone)
	wants(t, "Copy to a free one", p.Copy(1, 0), api.ErrNone)
	p.Grant(0)
	m.grant(0)
	wants(t, "Copy of zeros", p.Copy(0, 1), api.OK)
	m.copy(0, 1)
	same(t, "behind a copy of zeros", p, m)
}

// P5.2, P5.5: a frame is zero when it is granted, however it was let go of.
func TestZeroAnew(t *testing.T) {
	for what, free := range map[string]func(*frames.Pool, *model){
		"Drop":      func(p *frames.Pool, m *model) { p.Drop(0); m.drop(0) },
		"Drops":     func(p *frames.Pool, m *model) { p.Drops(0); m.drops(0) },
		"held":      func(p *frames.Pool, m *model) { p.Hold(0); p.Hold(0); p.Drops(0); m.drops(0) },
		"copied to": func(p *frames.Pool, m *model) { p.Copy(1, 0); p.Drop(0); m.drop(0) },
	} {
		p, m := made(t, 2, 1, 1)
		p.Grant(0)
		m.grant(0)
		p.Grant(1)
		m.grant(1)
		for frame := range 2 {
			b := bytes.Repeat([]byte{byte(frame + 3)}, pageSize)
			p.Put(frame, 0, b...)
			m.put(frame, 0, b)
		}
		free(p, m)
		same(t, what, p, m)
		p.Put(0, 3, 9)
		p.Copy(1, 0)
		c := p.Clone()
		for _, q := range []*frames.Pool{p, c} {
			wants(t, what+": Grant", num(q.Grant(0)), number{0, api.OK})
			if b, e := q.Page(0); !bytes.Equal(b, make([]byte, pageSize)) || e != api.OK {
				t.Errorf("%s: granted as %v, %v", what, b, e)
			}
		}
	}
}

// P5.3: what is handed in and what is answered is nobody else's memory.
func TestMemory(t *testing.T) {
	p, m := made(t, 2, 2)
	p.Grant(0)
	m.grant(0)
	given := []byte{1, 2, 3, 4, 5, 6}
	p.Put(0, 10, given[1:3]...)
	m.put(0, 10, []byte{2, 3})
	if !bytes.Equal(given, []byte{1, 2, 3, 4, 5, 6}) {
		t.Errorf("what was put is %v", given)
	}
	clear(given)
	same(t, "behind a change of what was put", p, m)
	a, _ := p.Page(0)
	b, _ := p.Page(0)
	for i := range a[:cap(a)] {
		a[:cap(a)][i] = 99
	}
	if want, _ := m.page(0); !bytes.Equal(b, want) {
		t.Errorf("two pages share memory: %v", b)
	}
	same(t, "behind a change of an answer", p, m)
	p.Put(0, 0, 50)
	if b[0] != 0 {
		t.Error("an answer changes with the pool")
	}
}

// P5.4: All goes over what is owned, by numbers, as often as one likes, as far as one likes.
func TestAll(t *testing.T) {
	p, m := made(t, 8, 4, 4)
	for range p.All() {
		t.Error("All of a new pool tells something")
	}
	for i := range 7 {
		p.Grant(i % 2)
		m.grant(i % 2)
	}
	for _, n := range []int{1, 4} {
		p.Drop(n)
		m.drop(n)
	}
	p.Hold(3)
	m.hold(3)
	all, want := p.All(), m.all()
	for most := range len(want) + 1 {
		var l []api.Frame
		for f := range all {
			if len(l) == most {
				break
			}
			l = append(l, f)
		}
		if !slices.Equal(l, want[:most]) {
			t.Errorf("the first %d of All: %v, should be %v", most, l, want[:most])
		}
	}
	if l := slices.Collect(all); !slices.Equal(l, want) {
		t.Errorf("All again: %v, should be %v", l, want)
	}
	// One within another.
	n := 0
	for range all {
		n += len(slices.Collect(all))
	}
	wants(t, "All within All", n, len(want)*len(want))
	same(t, "behind All", p, m)
}

// P5.4: All tells what was when it was called, whatever was done since, on the way too.
func TestAllThen(t *testing.T) {
	p, m := made(t, 5, 3, 2)
	for i := range 4 {
		p.Grant(i % 2)
		m.grant(i % 2)
	}
	before, want := p.All(), m.all()
	p.Drop(2)
	m.drop(2)
	p.Hold(0)
	m.hold(0)
	if l := slices.Collect(before); !slices.Equal(l, want) {
		t.Errorf("All behind changes: %v, should be %v", l, want)
	}
	now := m.all()
	var l []api.Frame
	for f := range p.All() {
		l = append(l, f)
		p.Drops(0)
		m.drops(0)
		p.Grant(1)
		m.grant(1)
		p.Hold(3)
		m.hold(3)
	}
	if !slices.Equal(l, now) {
		t.Errorf("All amid changes: %v, should be %v", l, now)
	}
	if l := slices.Collect(before); !slices.Equal(l, want) {
		t.Errorf("All again behind changes: %v, should be %v", l, want)
	}
	same(t, "behind changes", p, m)
}

// P5.4: a clone stands as its pool does, and both go on apart.
func TestClone(t *testing.T) {
	p, m := made(t, 6, 3, 2)
	for i := range 4 {
		p.Grant(i % 2)
		m.grant(i % 2)
		p.Put(i, i, byte(i+1), 9)
		m.put(i, i, []byte{byte(i + 1), 9})
	}
	p.Hold(1)
	m.hold(1)
	p.Drop(2)
	m.drop(2)
	q, n := p.Clone(), m.clone()
	if q == p || q == nil {
		t.Fatal("Clone is no other pool")
	}
	same(t, "the clone", q, n)
	p.Put(0, 0, 100)
	m.put(0, 0, []byte{100})
	p.Hold(3)
	m.hold(3)
	p.Copy(1, 3)
	m.copy(1, 3)
	p.Drop(1)
	m.drop(1)
	same(t, "the pool", p, m)
	same(t, "the clone behind changes of the pool", q, n)
	q.Drops(0)
	n.drops(0)
	wants(t, "Grant of the clone", num(q.Grant(0)), number{0, api.OK})
	n.grant(0)
	q.Put(1, 1, 42)
	n.put(1, 1, []byte{42})
	q.Drop(3)
	n.drop(3)
	same(t, "the clone behind its own", q, n)
	same(t, "the pool behind the clone's", p, m)
	r, k := q.Clone(), n.clone()
	q.Drops(1)
	n.drops(1)
	same(t, "the clone's clone", r, k)
	same(t, "the clone", q, n)
}

// P5.1 to P5.4: of no pool all is refused, of nil, of a zero one, of one that New refused.
func TestNoPool(t *testing.T) {
	refused, _ := frames.New(4, 3, 2)
	var none *frames.Pool
	for what, p := range map[string]*frames.Pool{"nil": none, "zero": {}, "new": new(frames.Pool), "refused": refused, "a clone of nil": none.Clone(), "a clone of zero": new(frames.Pool).Clone()} {
		for _, n := range numbers(256) {
			wants(t, what+": Grant", num(p.Grant(n)), number{0, api.ErrNil})
			wants(t, what+": Drops", num(p.Drops(n)), number{0, api.ErrNil})
			wants(t, what+": Hold", p.Hold(n), api.ErrNil)
			wants(t, what+": Drop", flag(p.Drop(n)), number{0, api.ErrNil})
			wants(t, what+": Byte", byt(p.Byte(n, n)), number{0, api.ErrNil})
			wants(t, what+": Byte", byt(p.Byte(0, n)), number{0, api.ErrNil})
			wants(t, what+": Put", p.Put(n, n, 1, 2), api.ErrNil)
			wants(t, what+": Put", p.Put(0, n), api.ErrNil)
			wants(t, what+": Copy", p.Copy(n, 0), api.ErrNil)
			wants(t, what+": Used", p.Used(n), 0)
			wants(t, what+": Quota", p.Quota(n), 0)
			if b, e := p.Page(n); b != nil || e != api.ErrNil {
				t.Errorf("%s: Page: %v, %v", what, b, e)
			}
			if f, e := p.Of(n); f != (api.Frame{}) || e != api.ErrNil {
				t.Errorf("%s: Of: %v, %v", what, f, e)
			}
		}
		wants(t, what+": Free", p.Free(), 0)
		if c := p.Clone(); c != nil {
			t.Errorf("%s: Clone: %v", what, c)
		}
		all := p.All()
		if all == nil {
			t.Fatalf("%s: All is not there", what)
		}
		for f := range all {
			t.Errorf("%s: All tells %v", what, f)
		}
	}
}

// step does to both what some numbers say, and holds the answers against each other.
func step(t *testing.T, p *frames.Pool, m *model, op, a, b byte) {
	t.Helper()
	frame, other, account := int(a)%(m.frames+2)-1, int(b)%(m.frames+2)-1, int(a)%(len(m.quotas)+2)-1
	at := int(b)*2 - 100
	l := bytes.Repeat([]byte{op | 1, b}, int(b)%150)
	var what string
	var got, want number
	switch op % 10 {
	case 0, 1, 2, 3:
		what, got, want = fmt.Sprintf("Grant(%d)", account), num(p.Grant(account)), num(m.grant(account))
	case 4:
		what, got.e, want.e = fmt.Sprintf("Hold(%d)", frame), p.Hold(frame), m.hold(frame)
	case 5:
		what, got, want = fmt.Sprintf("Drop(%d)", frame), flag(p.Drop(frame)), flag(m.drop(frame))
	case 6:
		what, got.e, want.e = fmt.Sprintf("Put(%d, %d, %d bytes)", frame, at, len(l)), p.Put(frame, at, l...), m.put(frame, at, l)
	case 7:
		what, got.e, want.e = fmt.Sprintf("Copy(%d, %d)", frame, other), p.Copy(frame, other), m.copy(frame, other)
	case 8:
		what, got, want = fmt.Sprintf("Byte(%d, %d)", frame, at), byt(p.Byte(frame, at)), byt(m.byte(frame, at))
	case 9:
		if b%4 > 0 {
			return
		}
		what, got, want = fmt.Sprintf("Drops(%d)", account), num(p.Drops(account)), num(m.drops(account))
	}
	if got != want {
		t.Fatalf("%s: %v, should be %v", what, got, want)
	}
}

// plays does many steps to a pool and its model, and to clones of both on the way.
func plays(t *testing.T, p *frames.Pool, m *model, steps []byte) {
	t.Helper()
	for i := 0; i+2 < len(steps); i += 3 {
		step(t, p, m, steps[i], steps[i+1], steps[i+2])
		if i%60 > 0 {
			continue
		}
		same(t, fmt.Sprint("behind step ", i/3), p, m)
		if i%120 > 0 {
			continue
		}
		q, n := p.Clone(), m.clone()
		for j := i; j+2 < min(len(steps), i+30); j += 3 {
			step(t, q, n, steps[j+2], steps[j], steps[j+1])
		}
		same(t, fmt.Sprint("the clone of step ", i/3), q, n)
		same(t, fmt.Sprint("behind the clone of step ", i/3), p, m)
	}
	same(t, "at the end", p, m)
}

// P5.5: whatever is done, the pool is as the words say it.
func TestFollows(t *testing.T) {
	r := rand.New(rand.NewSource(5))
	for range 60 {
		n := 1 + r.Intn(24)
		quotas, left := []int{}, n
		for range 1 + r.Intn(8) {
			quota := r.Intn(min(left, 9) + 1)
			quotas = append(quotas, quota)
			left -= quota
		}
		p, m := made(t, n, quotas...)
		steps := make([]byte, 1500)
		r.Read(steps)
		plays(t, p, m, steps)
	}
}

// FuzzSteps plays any steps on a small pool.
func FuzzSteps(f *testing.F) {
	f.Add([]byte{0, 1, 0, 0, 2, 0, 6, 1, 60, 7, 1, 2, 5, 1, 0, 9, 1, 0})
	f.Fuzz(func(t *testing.T, steps []byte) {
		p, m := made(t, 5, 2, 0, 2)
		plays(t, p, m, steps[:min(len(steps), 1500)])
	})
}
