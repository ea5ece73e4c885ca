package slices_test

import (
	"fmt"
	"math"
	"math/rand"
	std "slices"
	"testing"

	"steading/api"
	"steading/slices"
)

const (
	maxAccounts = 8
	maxSlots    = 32
)

// open is an open slot as the chapter's words say it: whose it is, how many ticks there were when it was opened, its gift (nil: none), the ticks of its picks, and how often it ran.
type open struct {
	account int
	opened  int64
	gift    *open
	picks   []int64
	runs    int64
}

// model is slices: how many ticks went by, and a place for each slot, nil where none is open.
type model struct {
	ticks int64
	slots [maxSlots]*open
}

// slot is an open slot, or nil.
func (m *model) slot(n int) *open {
	if n < 0 || n >= maxSlots {
		return nil
	}
	return m.slots[n]
}

// number is an open slot's number, or -1.
func (m *model) number(o *open) int {
	if o == nil {
		return -1
	}
	return std.Index(m.slots[:], o)
}

func (m *model) open(account int) (int, api.Errno) {
	if account < 0 || account > maxAccounts-1 {
		return 0, api.ErrArg
	}
	free := std.Index(m.slots[:], nil)
	if free < 0 {
		return 0, api.ErrFull
	}
	m.slots[free] = &open{account: account, opened: m.ticks}
	return free, api.OK
}

func (m *model) close(slot int) api.Errno {
	gone := m.slot(slot)
	if gone == nil {
		return api.ErrNone
	}
	m.slots[slot] = nil
	for _, o := range m.slots {
		if o != nil && o.gift == gone {
			o.gift = nil
		}
	}
	return api.OK
}

func (m *model) give(slot, to int) api.Errno {
	from, other := m.slot(slot), m.slot(to)
	if from == nil || other == nil {
		return api.ErrNone
	}
	if from.account != other.account {
		return api.ErrRight
	}
	from.gift = nil
	if slot != to {
		from.gift = other
	}
	return api.OK
}

func (m *model) pick(slot int) (int, api.Errno) {
	o := m.slot(slot)
	if o == nil {
		return 0, api.ErrNone
	}
	m.ticks++
	o.picks = append(o.picks, m.ticks)
	runs := o
	if o.gift != nil {
		runs, o.gift = o.gift, nil
	}
	runs.runs++
	return m.number(runs), api.OK
}

// last is the tick from which a slot waits.
func (o *open) last() int64 {
	if len(o.picks) == 0 {
		return o.opened
	}
	return o.picks[len(o.picks)-1]
}

// gap is the greatest of a slot's gaps.
func (o *open) gap() int64 {
	greatest, ahead := int64(0), o.opened
	for _, tick := range o.picks {
		if tick-ahead > greatest {
			greatest = tick - ahead
		}
		ahead = tick
	}
	return greatest
}

func (m *model) tell(slot int) (api.Slot, bool) {
	o := m.slot(slot)
	if o == nil {
		return api.Slot{}, false
	}
	return api.Slot{Number: slot, Account: o.account, Gift: m.number(o.gift), Picks: int64(len(o.picks)), Runs: o.runs, Last: o.last(), Gap: o.gap()}, true
}

func (m *model) all() []api.Slot {
	var l []api.Slot
	for n := range m.slots {
		if x, ok := m.tell(n); ok {
			l = append(l, x)
		}
	}
	return l
}

func (m *model) waits() (slot int, ticks int64, ok bool) {
	for n, o := range m.slots {
		if o != nil && (!ok || o.last() < m.slots[slot].last()) {
			slot, ticks, ok = n, m.ticks-o.last(), true
		}
	}
	return slot, ticks, ok
}

func (m *model) fair(within int64) bool {
	for _, o := range m.slots {
		if o != nil && (o.gap() > within || m.ticks-o.last()+1 > within) {
			return false
		}
	}
	return true
}

func (m *model) of(account int) []int {
	var l []int
	for n, o := range m.slots {
		if o != nil && o.account == account {
			l = append(l, n)
		}
	}
	return l
}

func (m *model) copy() *model {
	o := &model{ticks: m.ticks}
	for n, s := range m.slots {
		if s != nil {
			one := *s
			one.picks = std.Clone(s.picks)
			o.slots[n] = &one
		}
	}
	for _, s := range o.slots {
		if s != nil && s.gift != nil {
			s.gift = o.slots[m.number(s.gift)]
		}
	}
	return o
}

// text is all that stands in a model.
func (m *model) text() string { return fmt.Sprint(m.ticks, m.all()) }

// numbers are around what slots and accounts may be numbered, and far from it.
func numbers() []int {
	l := []int{math.MinInt, math.MinInt + 1, math.MinInt32, -1 << 32, -256, -32, -2, 63, 64, 255, 256, 257, 1 << 16, math.MaxInt32, 1 << 32, 1<<32 + 1, math.MaxInt - 1, math.MaxInt}
	for n := -1; n <= maxSlots+1; n++ {
		l = append(l, n)
	}
	return l
}

// wants fails if an answer is not that one.
func wants(t *testing.T, what string, got, want any) {
	t.Helper()
	if got != want {
		t.Errorf("%s: %v, should be %v", what, got, want)
	}
}

// both is slices and their model; each call is done to both, and the answers are held against each other.
type both struct {
	t *testing.T
	s *slices.Slices
	m *model
}

// made is new slices with these accounts' slots open, and their model.
func made(t *testing.T, accounts ...int) both {
	t.Helper()
	s := slices.New()
	if s == nil {
		t.Fatal("New is nil")
	}
	b := both{t, s, &model{}}
	for _, account := range accounts {
		b.open(account)
	}
	return b
}

func (b both) open(account int) (int, api.Errno) {
	b.t.Helper()
	n, e := b.s.Open(account)
	want, wantE := b.m.open(account)
	wants(b.t, fmt.Sprintf("Open(%d)", account), [2]any{n, e}, [2]any{want, wantE})
	return n, e
}

func (b both) close(slot int) api.Errno {
	b.t.Helper()
	e := b.s.Close(slot)
	wants(b.t, fmt.Sprintf("Close(%d)", slot), e, b.m.close(slot))
	return e
}

func (b both) give(slot, to int) api.Errno {
	b.t.Helper()
	e := b.s.Give(slot, to)
	wants(b.t, fmt.Sprintf("Give(%d, %d)", slot, to), e, b.m.give(slot, to))
	return e
}

func (b both) pick(slot int) (int, api.Errno) {
	b.t.Helper()
	n, e := b.s.Pick(slot)
	want, wantE := b.m.pick(slot)
	wants(b.t, fmt.Sprintf("Pick(%d)", slot), [2]any{n, e}, [2]any{want, wantE})
	return n, e
}

// picks picks slots, one behind the other.
func (b both) picks(slots ...int) {
	b.t.Helper()
	for _, slot := range slots {
		b.pick(slot)
	}
}

// copy is both of a copy.
func (b both) copy() both {
	b.t.Helper()
	s := b.s.Copy()
	if s == nil || s == b.s {
		b.t.Fatal("Copy is not another one")
	}
	return both{b.t, s, b.m.copy()}
}

// same holds all that slices tell against their model.
func (b both) same(what string) {
	t, s, m := b.t, b.s, b.m
	t.Helper()
	wants(t, what+": Ticks", s.Ticks(), m.ticks)
	for _, n := range numbers() {
		x, ok := s.Tell(n)
		want, wantOK := m.tell(n)
		wants(t, fmt.Sprintf("%s: Tell(%d)", what, n), [2]any{x, ok}, [2]any{want, wantOK})
		if l, want := s.Of(n), m.of(n); !std.Equal(l, want) {
			t.Errorf("%s: Of(%d): %v, should be %v", what, n, l, want)
		}
	}
	if l, want := std.Collect(s.All()), m.all(); !std.Equal(l, want) {
		t.Errorf("%s: All: %v, should be %v", what, l, want)
	}
	slot, ticks, ok := s.Waits()
	want, wantTicks, wantOK := m.waits()
	wants(t, what+": Waits", [3]any{slot, ticks, ok}, [3]any{want, wantTicks, wantOK})
	b.sameFair(what)
	if t.Failed() {
		t.FailNow()
	}
}

// sameFair holds against the model within how many ticks slices are fair.
func (b both) sameFair(what string) {
	b.t.Helper()
	withins := []int64{math.MinInt64, math.MinInt64 + 1, math.MinInt32, -1, 0, 1, 2, 3, math.MaxInt32, 1 << 32, math.MaxInt64 - 1, math.MaxInt64}
	for _, x := range b.m.all() {
		withins = append(withins, x.Gap-1, x.Gap, x.Gap+1, b.m.ticks-x.Last, b.m.ticks-x.Last+1, b.m.ticks-x.Last+2)
	}
	for _, within := range withins {
		wants(b.t, fmt.Sprintf("%s: Fair(%d)", what, within), b.s.Fair(within), b.m.fair(within))
	}
}

// isSame fails unless both are the same just if that is wanted, whichever is named first.
func isSame(t *testing.T, what string, a, b *slices.Slices, want bool) {
	t.Helper()
	wants(t, what+": Same", slices.Same(a, b), want)
	wants(t, what+": Same, the other way", slices.Same(b, a), want)
}

// told is a slot that is open.
func (b both) told(slot int) api.Slot {
	b.t.Helper()
	x, ok := b.s.Tell(slot)
	wants(b.t, fmt.Sprintf("Tell(%d)'s flag", slot), ok, true)
	return x
}

// P13.1 to P13.4: the chapter's examples.
func TestExamples(t *testing.T) {
	s := slices.New()
	for _, x := range []struct {
		account, want int
		e             api.Errno
	}{{0, 0, api.OK}, {1, 1, api.OK}, {0, 2, api.OK}, {8, 0, api.ErrArg}} {
		n, e := s.Open(x.account)
		wants(t, fmt.Sprintf("Open(%d)", x.account), [2]any{n, e}, [2]any{x.want, x.e})
	}
	wants(t, "Give(0, 1)", s.Give(0, 1), api.ErrRight)
	wants(t, "Give(0, 2)", s.Give(0, 2), api.OK)
	for _, x := range []struct {
		slot, want int
		e          api.Errno
	}{{0, 2, api.OK}, {0, 0, api.OK}, {9, 0, api.ErrNone}} {
		n, e := s.Pick(x.slot)
		wants(t, fmt.Sprintf("Pick(%d)", x.slot), [2]any{n, e}, [2]any{x.want, x.e})
	}
	wants(t, "Ticks", s.Ticks(), int64(2))
	x, ok := s.Tell(0)
	wants(t, "Tell(0)", [2]any{x, ok}, [2]any{api.Slot{Number: 0, Account: 0, Gift: -1, Picks: 2, Runs: 1, Last: 2, Gap: 1}, true})
	x, ok = s.Tell(2)
	wants(t, "Tell(2)", [2]any{x, ok}, [2]any{api.Slot{Number: 2, Account: 0, Gift: -1, Picks: 0, Runs: 1, Last: 0, Gap: 0}, true})
	slot, ticks, ok := s.Waits()
	wants(t, "Waits", [3]any{slot, ticks, ok}, [3]any{1, int64(2), true})
	wants(t, "Fair(3)", s.Fair(3), true)
	wants(t, "Fair(2)", s.Fair(2), false)
}

// P13.1: New has nothing open; each account that may be opens the lowest free slot, and no other one does.
func TestOpen(t *testing.T) {
	b := made(t)
	b.same("at first")
	for _, account := range numbers() {
		b := made(t)
		b.open(account)
		b.same(fmt.Sprintf("Open(%d)", account))
	}
	for n := range maxSlots {
		for _, account := range []int{-1, maxAccounts, math.MinInt, math.MaxInt} {
			b.open(account)
		}
		b.same(fmt.Sprintf("with %d open", n))
		got, e := b.open(n * 5 % maxAccounts)
		wants(t, "Open of the next one", [2]any{got, e}, [2]any{n, api.OK})
	}
	b.same("with all open")
}

// P13.1: with all slots open an account that may not be is still the first error, and nothing changes.
func TestFull(t *testing.T) {
	b := made(t, make([]int, maxSlots)...)
	before := b.copy()
	for _, account := range numbers() {
		n, e := b.open(account)
		want := api.ErrFull
		if account < 0 || account >= maxAccounts {
			want = api.ErrArg
		}
		wants(t, fmt.Sprintf("Open(%d) of none free", account), [2]any{n, e}, [2]any{0, want})
	}
	b.same("when there is no room")
	isSame(t, "when there is no room", b.s, before.s, true)
	for _, slot := range []int{31, 0, 17} {
		b.close(slot)
		n, e := b.open(3)
		wants(t, "Open of the one that is free again", [2]any{n, e}, [2]any{slot, api.OK})
		_, e = b.open(3)
		wants(t, "Open of one more", e, api.ErrFull)
	}
	for _, slot := range []int{20, 5, 30, 6} {
		b.close(slot)
	}
	for _, want := range []int{5, 6, 20, 30} {
		n, _ := b.open(7)
		wants(t, "Open of the lowest", n, want)
	}
	b.same("at the end")
}

// P13.1: a slot that is not open is not closed; one that was has nothing of it left.
func TestClose(t *testing.T) {
	b := made(t, 0, 1, 0, 0, 1)
	b.give(0, 2)
	b.give(2, 0)
	b.give(3, 2)
	b.give(1, 4)
	b.picks(3, 3, 2)
	b.give(2, 3)
	b.give(3, 2)
	before := b.copy()
	for _, slot := range numbers() {
		if b.m.slot(slot) == nil {
			wants(t, fmt.Sprintf("Close(%d) of none open", slot), b.close(slot), api.ErrNone)
		}
	}
	isSame(t, "when nothing was closed", b.s, before.s, true)
	b.close(2)
	b.same("without 2")
	wants(t, "the gift of 0 to one that was closed", b.told(0).Gift, -1)
	wants(t, "the gift of 3 to one that was closed", b.told(3).Gift, -1)
	wants(t, "the gift of 1 to another one", b.told(1).Gift, 4)
	wants(t, "Close once more", b.close(2), api.ErrNone)
	b.open(0)
	wants(t, "the slot opened anew", b.told(2), api.Slot{Number: 2, Gift: -1, Last: 3})
	wants(t, "the gift of 0 behind that", b.told(0).Gift, -1)
	for _, slot := range []int{0, 3} {
		n, e := b.pick(slot)
		wants(t, fmt.Sprintf("Pick(%d), whose gift is no more", slot), [2]any{n, e}, [2]any{slot, api.OK})
	}
	b.same("at the end")
}

// P13.1: what a slot gave goes with the slot, whoever it is opened for.
func TestCloseGiver(t *testing.T) {
	for _, account := range []int{0, 5} {
		b := made(t, 0, 0)
		b.give(0, 1)
		b.pick(1)
		b.close(0)
		b.same("without the giver")
		n, _ := b.open(account)
		wants(t, "the giver opened anew", b.told(n), api.Slot{Account: account, Gift: -1, Last: 1})
		n, _ = b.pick(0)
		wants(t, "Pick of it", n, 0)
		b.same("at the end")
	}
}

// P13.1: all pairs of slots, open ones and others: who gives to whom.
func TestGive(t *testing.T) {
	for _, slot := range numbers() {
		for _, to := range numbers() {
			b := made(t, 0, 1, 0, 7, 7, 0)
			b.close(2)
			b.give(0, 5)
			before := b.copy()
			if b.give(slot, to) != api.OK {
				isSame(t, "when nothing was given", b.s, before.s, true)
			}
			if x, ok := b.m.tell(slot); ok {
				wants(t, fmt.Sprintf("the gift behind Give(%d, %d)", slot, to), b.told(slot), x)
			}
		}
	}
}

// P13.1: a slot that is not open goes ahead of one of another account; what is given to oneself, or to another one, is given no more.
func TestGiveAgain(t *testing.T) {
	b := made(t, 0, 1, 0, 0)
	for _, x := range []struct {
		slot, to int
		e        api.Errno
		gift     int
	}{{0, 2, api.OK, 2}, {0, 1, api.ErrRight, 2}, {0, 4, api.ErrNone, 2}, {0, -1, api.ErrNone, 2}, {0, 3, api.OK, 3}, {0, 3, api.OK, 3}, {0, 0, api.OK, -1}, {0, 0, api.OK, -1}, {0, 2, api.OK, 2}} {
		wants(t, fmt.Sprintf("Give(%d, %d)", x.slot, x.to), b.give(x.slot, x.to), x.e)
		wants(t, fmt.Sprintf("the gift behind Give(%d, %d)", x.slot, x.to), b.told(x.slot).Gift, x.gift)
		b.same("behind a gift")
	}
	wants(t, "Give of none to another account's", b.give(5, 1), api.ErrNone)
	wants(t, "Give of one of another account's to none", b.give(1, 5), api.ErrNone)
	wants(t, "Give of none to none", b.give(-1, 32), api.ErrNone)
	wants(t, "Give of another account's", b.give(1, 0), api.ErrRight)
	wants(t, "ticks that gifts take", b.s.Ticks(), int64(0))
}

// P13.2: which slot runs: a gift is for one slice, goes no further, and takes nothing of what the one that has it gave.
func TestPick(t *testing.T) {
	b := made(t, 0, 0, 0, 1)
	b.give(0, 1)
	b.give(1, 2)
	b.give(2, 0)
	for i, x := range [][2]int{{0, 1}, {0, 0}, {1, 2}, {1, 1}, {2, 0}, {2, 2}, {3, 3}} {
		n, e := b.pick(x[0])
		wants(t, fmt.Sprintf("Pick(%d)", x[0]), [2]any{n, e}, [2]any{x[1], api.OK})
		wants(t, "Ticks", b.s.Ticks(), int64(i+1))
		wants(t, "the gift behind it", b.told(x[0]).Gift, -1)
		b.same("behind a pick")
	}
	b.give(0, 2)
	b.give(1, 2)
	for _, x := range [][2]int{{2, 2}, {1, 2}, {0, 2}, {0, 0}} {
		n, _ := b.pick(x[0])
		wants(t, fmt.Sprintf("Pick(%d), of two that gave to one", x[0]), n, x[1])
	}
	wants(t, "one that ran more often than it was picked", b.told(2), api.Slot{Number: 2, Gift: -1, Picks: 3, Runs: 5, Last: 8, Gap: 5})
	before := b.copy()
	for _, slot := range numbers() {
		if b.m.slot(slot) == nil {
			n, e := b.pick(slot)
			wants(t, fmt.Sprintf("Pick(%d) of none open", slot), [2]any{n, e}, [2]any{0, api.ErrNone})
		}
	}
	isSame(t, "when none was picked", b.s, before.s, true)
	b.same("at the end")
}

// P13.2: each slot there may be, picked alone, and by a gift of each other one.
func TestPickEach(t *testing.T) {
	for slot := range maxSlots {
		b := made(t, make([]int, maxSlots)...)
		for to := range maxSlots {
			b.give(slot, to)
			n, e := b.pick(slot)
			wants(t, fmt.Sprintf("Pick(%d), given to %d", slot, to), [2]any{n, e}, [2]any{to, api.OK})
		}
		b.same(fmt.Sprint("of ", slot))
	}
}

// P13.3: gaps: from when it was opened to the first pick, then from each pick to the next; the greatest stays.
func TestGap(t *testing.T) {
	b := made(t, 0, 1)
	wants(t, "of no pick", b.told(0), api.Slot{Gift: -1})
	b.picks(1, 1, 1)
	wants(t, "of no pick, three ticks behind", b.told(0), api.Slot{Gift: -1})
	b.pick(0)
	wants(t, "of one pick", b.told(0), api.Slot{Gift: -1, Picks: 1, Runs: 1, Last: 4, Gap: 4})
	b.pick(0)
	wants(t, "of two, one behind the other", b.told(0), api.Slot{Gift: -1, Picks: 2, Runs: 2, Last: 5, Gap: 4})
	b.picks(1, 1, 1, 0)
	wants(t, "of a gap as great", b.told(0), api.Slot{Gift: -1, Picks: 3, Runs: 3, Last: 9, Gap: 4})
	b.picks(1, 1, 1, 1, 0, 1, 0)
	wants(t, "of a greater one, and one that is less", b.told(0), api.Slot{Gift: -1, Picks: 5, Runs: 5, Last: 16, Gap: 5})
	n, _ := b.open(2)
	wants(t, "of one opened late", b.told(n), api.Slot{Number: n, Account: 2, Gift: -1, Last: 16})
	b.picks(1, n)
	wants(t, "of one opened late, and picked", b.told(n), api.Slot{Number: n, Account: 2, Gift: -1, Picks: 1, Runs: 1, Last: 18, Gap: 2})
	b.close(n)
	b.picks(0, 0)
	b.open(2)
	b.pick(n)
	wants(t, "of one opened anew", b.told(n), api.Slot{Number: n, Account: 2, Gift: -1, Picks: 1, Runs: 1, Last: 21, Gap: 1})
	b.same("at the end")
}

// P13.3: what runs by a gift was not picked: its gap goes on.
func TestGapOfGift(t *testing.T) {
	b := made(t, 0, 0)
	for range 5 {
		b.give(0, 1)
		b.pick(0)
	}
	wants(t, "the giver", b.told(0), api.Slot{Gift: -1, Picks: 5, Last: 5, Gap: 1})
	wants(t, "the one that ran", b.told(1), api.Slot{Number: 1, Gift: -1, Runs: 5})
	slot, ticks, ok := b.s.Waits()
	wants(t, "Waits", [3]any{slot, ticks, ok}, [3]any{1, int64(5), true})
	b.give(1, 0)
	b.pick(1)
	wants(t, "the one that gave back", b.told(1), api.Slot{Number: 1, Gift: -1, Picks: 1, Runs: 5, Last: 6, Gap: 6})
	b.same("at the end")
}

// P13.3: who waits longest, the lowest of several; of none zeros.
func TestWaits(t *testing.T) {
	b := made(t, 0, 1, 2, 3)
	waits := func(what string, slot int, ticks int64) {
		t.Helper()
		got, n, ok := b.s.Waits()
		wants(t, what, [3]any{got, n, ok}, [3]any{slot, ticks, true})
	}
	waits("the lowest of all", 0, 0)
	b.pick(0)
	waits("the lowest that was not picked", 1, 1)
	b.picks(2, 1)
	waits("the last that was not picked", 3, 3)
	b.pick(3)
	waits("the one that was picked longest ago", 0, 3)
	b.close(0)
	waits("without that one", 2, 2)
	b.open(0)
	waits("with one opened since", 2, 2)
	b.pick(2)
	waits("of two between", 1, 2)
	b.picks(1, 3)
	waits("one that was opened, not picked", 0, 3)
	b.same("ahead of the closes")
	for slot := range 4 {
		b.close(slot)
	}
	slot, ticks, ok := b.s.Waits()
	wants(t, "of none", [3]any{slot, ticks, ok}, [3]any{0, int64(0), false})
	b.same("of none")
	b.open(4)
	waits("one opened late", 0, 0)
}

// P13.3: a gap that was, and one that is now, each alone make it unfair; of no slot nothing is.
func TestFair(t *testing.T) {
	fair := func(b both, what string, least int64) {
		t.Helper()
		wants(t, what+": within "+fmt.Sprint(least), b.s.Fair(least), true)
		wants(t, what+": within one less", b.s.Fair(least-1), false)
		b.same(what)
	}
	b := made(t)
	for _, within := range []int64{math.MinInt64, -1, 0, 1, math.MaxInt64} {
		wants(t, "of none open", b.s.Fair(within), true)
	}
	b.open(0)
	fair(b, "one that was just opened", 1)
	b.picks(0, 0, 0)
	fair(b, "one that is picked always", 1)
	b.open(1)
	fair(b, "another one", 1)
	b.picks(0, 0)
	fair(b, "another one that waits", 3)
	b.pick(1)
	fair(b, "one that has waited", 3)
	b.picks(0, 1, 0, 1)
	fair(b, "one that waits no more: its greatest gap stays", 3)
	b.picks(1, 1)
	fair(b, "the other one waits", 4)
	b.close(0)
	fair(b, "without the one that waits", 3)
	b.close(1)
	wants(t, "of none open any more", b.s.Fair(math.MinInt64), true)
}

// P13.3: an account's slots alone, rising, whoever's stand between.
func TestOf(t *testing.T) {
	b := made(t, 0, 3, 0, 7, 3, 0)
	b.close(2)
	for account, want := range map[int]string{0: "[0 5]", 3: "[1 4]", 7: "[3]", 1: "[]", -1: "[]", 8: "[]"} {
		wants(t, fmt.Sprintf("Of(%d)", account), fmt.Sprint(b.s.Of(account)), want)
	}
	b.open(7)
	wants(t, "Of(7), opened late", fmt.Sprint(b.s.Of(7)), "[2 3]")
	full := made(t, make([]int, maxSlots)...)
	full.same("all of one account")
	wants(t, "Of of all", len(full.s.Of(0)), maxSlots)
}

// P13.3: All may be left anywhere, gone over again, and by two at once; a slot that is told may be changed.
func TestAll(t *testing.T) {
	b := made(t, 0, 1, 2, 3, 4)
	b.close(2)
	b.picks(0, 4)
	all := b.s.All()
	want := b.m.all()
	for n := range len(want) + 1 {
		var l []api.Slot
		for x := range all {
			if len(l) == n {
				break
			}
			l = append(l, x)
			x.Picks, x.Number = 99, 99
		}
		if !std.Equal(l, want[:n]) {
			t.Errorf("All, left behind %d: %v, should be %v", n, l, want[:n])
		}
	}
	for x := range all {
		if l := std.Collect(all); !std.Equal(l, want) {
			t.Errorf("All within All, at %v: %v, should be %v", x, l, want)
		}
	}
	b.same("behind all")
	b.picks(1)
	b.open(6)
	if l := std.Collect(all); !std.Equal(l, b.m.all()) {
		t.Errorf("All, begun later: %v, should be %v", l, b.m.all())
	}
}

// P13.3: All tells the slots as they are when it begins, whatever is done by the way.
func TestAllAsItBegins(t *testing.T) {
	b := made(t, 0, 0, 0)
	b.give(2, 0)
	want := b.m.all()
	var l []api.Slot
	for x := range b.s.All() {
		l = append(l, x)
		b.open(1)
		b.picks(2, 1)
		b.give(1, 2)
		if x.Number == 0 {
			b.close(2)
			b.open(5)
			b.give(1, 0)
		}
	}
	if !std.Equal(l, want) {
		t.Errorf("All: %v, should be %v", l, want)
	}
	b.same("at the end")
}

// P13.4: a copy goes on apart, and so does what it was copied from.
func TestCopy(t *testing.T) {
	b := made(t, 0, 1, 0, 0)
	b.give(0, 2)
	b.give(2, 3)
	b.picks(1, 2)
	o := b.copy()
	o.same("the copy")
	isSame(t, "the copy", b.s, o.s, true)
	o.picks(0, 0, 3)
	o.give(3, 0)
	o.close(2)
	o.open(4)
	o.open(5)
	b.same("what it was copied from")
	o.same("the copy, gone on")
	isSame(t, "the copy, gone on", b.s, o.s, false)
	b.close(0)
	b.picks(2, 3, 1)
	b.open(6)
	o.same("the copy, at last")
	b.same("at the end")
	again := b.copy().copy()
	again.same("a copy of a copy")
	isSame(t, "a copy of a copy", b.s, again.s, true)
	made(t).copy().same("a copy of new ones")
}

// kinds are slices no two of which are the same, by what is unlike in them.
func kinds(t *testing.T) map[string]both {
	l := map[string]both{
		"none open": made(t), "one": made(t, 0), "another account's": made(t, 1), "two": made(t, 0, 0), "two of two accounts": made(t, 0, 1), "the other way": made(t, 1, 0),
		"the second alone": made(t, 0, 0), "a tick, none open": made(t, 0), "two ticks, none open": made(t, 0), "a tick, then opened": made(t, 0), "all": made(t, make([]int, maxSlots)...), "all but the last": made(t, make([]int, maxSlots-1)...),
		"all, the last of another account": made(t, append(make([]int, maxSlots-1), 1)...),
	}
	l["the second alone"].close(0)
	for _, what := range []string{"a tick, none open", "two ticks, none open", "a tick, then opened"} {
		l[what].pick(0)
		if what == "two ticks, none open" {
			l[what].pick(0)
		}
		l[what].close(0)
	}
	l["a tick, then opened"].open(0)
	// Each letter picks a slot, or, as a great one, gives the slice of the one ahead of it to that slot.
	for _, steps := range []string{"a", "b", "c", "ab", "ba", "aa", "bb", "ac", "aB", "aC", "aBa", "aBab", "aBaaB", "abC", "abA", "bAb", "bAba", "aaabbb", "bbbaaa", "ababab", "bababa"} {
		b := made(t, 0, 0, 0)
		at := 0
		for _, c := range steps {
			if c < 'a' {
				b.give(at, int(c-'A'))
				continue
			}
			at = int(c - 'a')
			b.pick(at)
		}
		l["of three, "+steps] = b
	}
	return l
}

// P13.4: the same in all, or not: a thing at a time.
func TestSame(t *testing.T) {
	one, two := kinds(t), kinds(t)
	for what, a := range one {
		for other, b := range two {
			isSame(t, what+", "+other, a.s, b.s, what == other)
			wants(t, what+", "+other+": their models", a.m.text() == b.m.text(), what == other)
		}
	}
	for what, b := range one {
		b.same(what)
	}
}

// P13.4: what once stood in a slot that is free, or was opened anew, tells nothing.
func TestSameAgain(t *testing.T) {
	a, b := made(t, 0, 3), made(t, 2, 3)
	a.give(0, 0)
	a.pick(1)
	b.pick(1)
	isSame(t, "of two accounts", a.s, b.s, false)
	a.close(0)
	b.close(0)
	isSame(t, "when they are closed", a.s, b.s, true)
	a.open(5)
	isSame(t, "when one is opened", a.s, b.s, false)
	b.open(5)
	isSame(t, "when both are opened", a.s, b.s, true)
	c := made(t, 1, 1, 1)
	c.give(0, 1)
	c.close(2)
	c.pick(0)
	d := made(t, 1, 1)
	d.give(0, 1)
	d.pick(0)
	isSame(t, "with one that was closed", c.s, d.s, true)
	c.give(0, 1)
	isSame(t, "with a gift", c.s, d.s, false)
	c.give(0, 0)
	isSame(t, "with a gift that was taken back", c.s, d.s, true)
	isSame(t, "with itself", c.s, c.s, true)
}

// noSlices are slices that are not there.
func noSlices() map[string]*slices.Slices {
	var none *slices.Slices
	return map[string]*slices.Slices{"nil": none, "zero": {}, "new": new(slices.Slices), "a copy of nil": none.Copy(), "a copy of a zero one": new(slices.Slices).Copy()}
}

// P13.1 to P13.4: slices that are not there tell nothing, and do nothing.
func TestNil(t *testing.T) {
	for what, s := range noSlices() {
		for _, n := range numbers() {
			nothing(t, fmt.Sprintf("%s, of %d: ", what, n), s, n)
		}
		wants(t, what+": Ticks", s.Ticks(), int64(0))
		slot, ticks, ok := s.Waits()
		wants(t, what+": Waits", [3]any{slot, ticks, ok}, [3]any{0, int64(0), false})
		all := s.All()
		if all == nil {
			t.Fatal(what + ": All is not there")
		}
		for x := range all {
			t.Error(what+": All tells", x)
		}
		if s.Copy() != nil {
			t.Error(what + ": Copy is there")
		}
		for other, o := range noSlices() {
			isSame(t, what+", "+other, s, o, true)
		}
		for _, b := range []both{made(t), made(t, 0), made(t, 7, 1)} {
			isSame(t, what+", and one that is there", s, b.s, false)
		}
	}
}

// nothing fails unless slices that are not there refuse a slot's or an account's number, and tell nothing of it.
func nothing(t *testing.T, what string, s *slices.Slices, n int) {
	t.Helper()
	slot, e := s.Open(n)
	wants(t, what+"Open", [2]any{slot, e}, [2]any{0, api.ErrNil})
	slot, e = s.Pick(n)
	wants(t, what+"Pick", [2]any{slot, e}, [2]any{0, api.ErrNil})
	wants(t, what+"Close", s.Close(n), api.ErrNil)
	for _, to := range []int{math.MinInt, -1, 0, n, math.MaxInt} {
		wants(t, what+"Give", s.Give(n, to), api.ErrNil)
		wants(t, what+"Give, the other way", s.Give(to, n), api.ErrNil)
	}
	x, ok := s.Tell(n)
	wants(t, what+"Tell", [2]any{x, ok}, [2]any{api.Slot{}, false})
	if l := s.Of(n); len(l) > 0 {
		t.Errorf("%sOf: %v", what, l)
	}
	wants(t, what+"Fair", s.Fair(int64(n)), false)
}

// P13.3: each answer is memory of its own, spare room included.
func TestMemory(t *testing.T) {
	b := made(t, 1, 0, 1, 1)
	one, two := b.s.Of(1), b.s.Of(1)
	for i := range one[:cap(one)] {
		one[:cap(one)][i] = 9
	}
	wants(t, "Of, when another answer is changed", fmt.Sprint(two), "[0 2 3]")
	b.close(2)
	wants(t, "Of, told before", fmt.Sprint(two), "[0 2 3]")
	b.same("when the answers are changed")
}

// step does to both what some numbers say: calls that go, and some that are refused.
func (b both) step(op, x, y byte) {
	b.t.Helper()
	slot, to := int(x)%(maxSlots+2)-1, int(y)%(maxSlots+2)-1
	if op%3 > 0 {
		if open := b.m.all(); len(open) > 0 {
			slot, to = open[int(x)%len(open)].Number, open[int(y)%len(open)].Number
		}
	}
	switch op / 3 % 10 {
	case 0, 1:
		b.open(int(x)%(maxAccounts+2) - 1)
	case 2:
		b.close(slot)
	case 3, 4, 5:
		b.give(slot, to)
	case 6:
		b.open(int(x) % 2)
	default:
		b.pick(slot)
	}
}

// plays does many steps to slices and their model, and to copies on the way.
func (b both) plays(steps []byte) {
	b.t.Helper()
	for i := 0; i+2 < len(steps); i += 3 {
		b.step(steps[i], steps[i+1], steps[i+2])
		if b.t.Failed() {
			b.t.FailNow()
		}
		if i%30 > 0 {
			continue
		}
		b.same(fmt.Sprint("behind step ", i/3))
		o := b.copy()
		for j := i; j+2 < min(len(steps), i+18); j += 3 {
			o.step(steps[j+2], steps[j], steps[j+1])
			isSame(b.t, "the copy", b.s, o.s, b.m.text() == o.m.text())
		}
		o.same(fmt.Sprint("the copy of step ", i/3))
		b.same(fmt.Sprint("behind the copy of step ", i/3))
	}
	b.same("at the end")
}

// P13.1 to P13.5: whatever is done, the slots are as the words say it.
func TestFollows(t *testing.T) {
	r := rand.New(rand.NewSource(13))
	for n := range 60 {
		steps := make([]byte, 1200)
		r.Read(steps)
		made(t, make([]int, n%5*7)...).plays(steps)
	}
}

// P13.5: picks put together, closed slots' with them, are Ticks; so are runs.
func TestSums(t *testing.T) {
	r := rand.New(rand.NewSource(135))
	for range 40 {
		b := made(t, 0, 1)
		var closed api.Slot
		for range 400 {
			slot, to := r.Intn(6), r.Intn(6)
			switch r.Intn(8) {
			case 0:
				b.open(r.Intn(2))
			case 1:
				x, _ := b.s.Tell(slot)
				closed.Picks, closed.Runs = closed.Picks+x.Picks, closed.Runs+x.Runs
				b.close(slot)
			case 2, 3:
				b.give(slot, to)
			default:
				b.pick(slot)
			}
			picks, runs := closed.Picks, closed.Runs
			for x := range b.s.All() {
				picks, runs = picks+x.Picks, runs+x.Runs
			}
			wants(t, "picks, put together", picks, b.s.Ticks())
			wants(t, "runs, put together", runs, b.s.Ticks())
		}
		b.same("at the end")
	}
}

// P13.5: if all open slots are picked over and over, Fair holds for how many they are, and for no less.
func TestRounds(t *testing.T) {
	for n := 1; n <= maxSlots; n++ {
		b := made(t)
		for slot := range n {
			b.open(slot % maxAccounts)
		}
		for round := range 4 {
			for slot := range n {
				if round > 0 {
					wants(t, fmt.Sprintf("Fair(%d) ahead of pick %d of round %d", n, slot, round), b.s.Fair(int64(n)), true)
					wants(t, fmt.Sprintf("Fair(%d) of one more", n-1), b.s.Fair(int64(n-1)), false)
				}
				b.give(slot, (slot+maxAccounts*round)%n)
				b.pick(slot)
			}
			slot, ticks, _ := b.s.Waits()
			wants(t, "who waits behind a round", [2]any{slot, ticks}, [2]any{0, int64(n - 1)})
		}
		b.same(fmt.Sprint("of ", n))
	}
}

// P13.5: which slot of an account runs is the same, whatever another one does, and however often it is picked.
func TestApart(t *testing.T) {
	r := rand.New(rand.NewSource(1305))
	for range 60 {
		quiet, loud := made(t), made(t, 1, 0, 1)
		loud.close(1)
		// Numbers hang on what others opened: the account's own slots stand at the same place in both lists.
		var here, there []int
		for range 300 {
			switch i, j := r.Intn(5), r.Intn(5); {
			case i >= len(here):
				n, _ := quiet.open(3)
				o, _ := loud.open(3)
				here, there = append(here, n), append(there, o)
			case r.Intn(12) == 0:
				wants(t, "Close", loud.close(there[i]), quiet.close(here[i]))
				here, there = std.Delete(here, i, i+1), std.Delete(there, i, i+1)
			case j < len(here) && r.Intn(2) == 0:
				wants(t, "Give", loud.give(there[i], there[j]), quiet.give(here[i], here[j]))
			default:
				n, e := quiet.pick(here[i])
				o, also := loud.pick(there[i])
				wants(t, "which of its slots runs", [2]any{std.Index(there, o), also}, [2]any{std.Index(here, n), e})
			}
			loud.others(r, 3, there)
			for i, slot := range here {
				x, o := quiet.told(slot), loud.told(there[i])
				wants(t, "how often a slot was picked, and ran", [2]int64{o.Picks, o.Runs}, [2]int64{x.Picks, x.Runs})
			}
		}
		quiet.same("the quiet one")
		loud.same("the loud one")
	}
}

// others does something of the other accounts, and gives that account's slots to theirs in vain.
func (b both) others(r *rand.Rand, account int, own []int) {
	b.t.Helper()
	n := r.Intn(maxSlots)
	switch other := r.Intn(maxAccounts); {
	case other == account:
		return
	case r.Intn(3) == 0 && len(b.m.all()) < 20:
		b.open(other)
		return
	}
	if std.Contains(own, n) {
		return
	}
	for _, slot := range own {
		b.give(n, slot)
		b.give(slot, n)
	}
	b.give(n, r.Intn(maxSlots))
	b.pick(n)
	if r.Intn(5) == 0 {
		b.close(n)
	}
}

// FuzzSteps plays any steps on a few slots.
func FuzzSteps(f *testing.F) {
	f.Add([]byte{0, 1, 0, 9, 0, 1, 21, 0, 1, 22, 1, 0, 7, 0, 0, 25, 1, 1, 18, 3, 3})
	f.Fuzz(func(t *testing.T, steps []byte) {
		made(t, 0, 1, 0).plays(steps[:min(len(steps), 1200)])
	})
}
