package pages_test

import (
	"fmt"
	"maps"
	"math"
	"math/rand"
	"slices"
	"testing"

	"steading/api"
	"steading/pages"
)

const (
	read  = 1
	write = 2
	run   = 4
	every = 7

	pageSize  = 256
	maxSpaces = 16
	maxPages  = 32
	maxFrames = 256
)

// model is a table as the chapter's words say it: the entries that there are, by where they stand.
type model map[api.Spot]api.Entry

func noSpace(n int) bool { return n < 0 || n > maxSpaces-1 }

func noPage(n int) bool { return n < 0 || n > maxPages-1 }

func noFrame(n int) bool { return n < 0 || n > maxFrames-1 }

func noRights(n int) bool { return n < 0 || n > every }

func (m model) set(space, page, frame, rights int) api.Errno {
	if noSpace(space) || noPage(page) || noFrame(frame) || noRights(rights) {
		return api.ErrArg
	}
	if _, ok := m[api.Spot{Space: space, Page: page}]; ok {
		return api.ErrThere
	}
	m[api.Spot{Space: space, Page: page}] = api.Entry{Frame: frame, Rights: rights}
	return api.OK
}

func (m model) find(space, page int) (api.Entry, api.Errno) {
	if noSpace(space) || noPage(page) {
		return api.Entry{}, api.ErrArg
	}
	is, ok := m[api.Spot{Space: space, Page: page}]
	if !ok {
		return api.Entry{}, api.ErrNone
	}
	return is, api.OK
}

func (m model) clear(space, page int) (api.Entry, api.Errno) {
	is, e := m.find(space, page)
	delete(m, api.Spot{Space: space, Page: page})
	return is, e
}

func (m model) rights(space, page, rights int) api.Errno {
	is, e := m.find(space, page)
	if e == api.ErrArg || noRights(rights) {
		return api.ErrArg
	}
	if e == api.OK {
		is.Rights = rights
		m[api.Spot{Space: space, Page: page}] = is
	}
	return e
}

func (m model) get(space, page int) (api.Entry, bool) {
	is, e := m.find(space, page)
	return is, e == api.OK
}

func (m model) ask(space int, addr uint32, right int) (int, int, api.Errno) {
	if noSpace(space) || right != read && right != write && right != run {
		return 0, 0, api.ErrArg
	}
	page := int(addr / pageSize)
	is, e := m.find(space, page)
	if e != api.OK {
		return 0, 0, api.ErrFault
	}
	if is.Rights/right%2 == 0 {
		return 0, 0, api.ErrRight
	}
	is.Touched = true
	if right == write {
		is.Written = true
	}
	m[api.Spot{Space: space, Page: page}] = is
	return is.Frame, int(addr % pageSize), api.OK
}

func (m model) clean(space, page int) (api.Entry, api.Errno) {
	is, e := m.find(space, page)
	if e == api.OK {
		m[api.Spot{Space: space, Page: page}] = api.Entry{Frame: is.Frame, Rights: is.Rights}
	}
	return is, e
}

func (m model) share(from, to int) (int, api.Errno) {
	if noSpace(from) || noSpace(to) || from == to {
		return 0, api.ErrArg
	}
	if len(m.space(to)) > 0 {
		return 0, api.ErrThere
	}
	l := m.space(from)
	for _, x := range l {
		m[api.Spot{Space: to, Page: x.page}] = api.Entry{Frame: x.is.Frame, Rights: x.is.Rights}
	}
	return len(l), api.OK
}

func (m model) drop(space int) ([]int, api.Errno) {
	if noSpace(space) {
		return nil, api.ErrArg
	}
	var l []int
	for _, x := range m.space(space) {
		l = append(l, x.is.Frame)
		delete(m, api.Spot{Space: space, Page: x.page})
	}
	return l, api.OK
}

// at is an entry with its page.
type at struct {
	page int
	is   api.Entry
}

func (m model) space(space int) []at {
	var l []at
	for page := range maxPages {
		if is, ok := m[api.Spot{Space: space, Page: page}]; ok {
			l = append(l, at{page, is})
		}
	}
	return l
}

func (m model) where(frame int) []api.Spot {
	var l []api.Spot
	for space := range maxSpaces {
		for _, x := range m.space(space) {
			if x.is.Frame == frame {
				l = append(l, api.Spot{Space: space, Page: x.page})
			}
		}
	}
	return l
}

func (m model) spaces() []int {
	var l []int
	for space := range maxSpaces {
		if len(m.space(space)) > 0 {
			l = append(l, space)
		}
	}
	return l
}

// answer is an answer of several parts as one thing.
type answer struct {
	is   api.Entry
	a, b int
	e    api.Errno
}

func err(e api.Errno) answer { return answer{e: e} }

func num(n int, e api.Errno) answer { return answer{a: n, e: e} }

func place(frame, offset int, e api.Errno) answer { return answer{a: frame, b: offset, e: e} }

func entry(is api.Entry, e api.Errno) answer { return answer{is: is, e: e} }

func found(is api.Entry, ok bool) answer {
	if ok {
		return answer{is: is, a: 1}
	}
	return answer{is: is}
}

// both is a table and its model; each call is done to both, and the answers are held against each other.
type both struct {
	t *testing.T
	c *pages.Table
	m model
}

func newBoth(t *testing.T) both { return both{t, pages.New(), model{}} }

func (b both) copy() both { return both{b.t, b.c.Copy(), maps.Clone(b.m)} }

func (b both) agree(what string, got, want answer) answer {
	b.t.Helper()
	if got != want {
		b.t.Fatalf("%s: %v, should be %v", what, got, want)
	}
	return got
}

func (b both) set(space, page, frame, rights int) api.Errno {
	b.t.Helper()
	return b.agree(fmt.Sprintf("Set(%d, %d, %d, %d)", space, page, frame, rights), err(b.c.Set(space, page, frame, rights)), err(b.m.set(space, page, frame, rights))).e
}

func (b both) clear(space, page int) answer {
	b.t.Helper()
	return b.agree(fmt.Sprintf("Clear(%d, %d)", space, page), entry(b.c.Clear(space, page)), entry(b.m.clear(space, page)))
}

func (b both) rights(space, page, rights int) api.Errno {
	b.t.Helper()
	return b.agree(fmt.Sprintf("Rights(%d, %d, %d)", space, page, rights), err(b.c.Rights(space, page, rights)), err(b.m.rights(space, page, rights))).e
}

func (b both) get(space, page int) answer {
	b.t.Helper()
	return b.agree(fmt.Sprintf("Get(%d, %d)", space, page), found(b.c.Get(space, page)), found(b.m.get(space, page)))
}

func (b both) ask(space int, addr uint32, right int) answer {
	b.t.Helper()
	return b.agree(fmt.Sprintf("Ask(%d, %d, %d)", space, addr, right), place(b.c.Ask(space, addr, right)), place(b.m.ask(space, addr, right)))
}

func (b both) clean(space, page int) answer {
	b.t.Helper()
	return b.agree(fmt.Sprintf("Clean(%d, %d)", space, page), entry(b.c.Clean(space, page)), entry(b.m.clean(space, page)))
}

func (b both) share(from, to int) answer {
	b.t.Helper()
	return b.agree(fmt.Sprintf("Share(%d, %d)", from, to), num(b.c.Share(from, to)), num(b.m.share(from, to)))
}

func (b both) drop(space int) ([]int, api.Errno) {
	b.t.Helper()
	l, e := b.c.Drop(space)
	want, wantE := b.m.drop(space)
	if !slices.Equal(l, want) || e != wantE {
		b.t.Fatalf("Drop(%d): %v, %v; should be %v, %v", space, l, e, want, wantE)
	}
	return l, e
}

// wants fails if an answer is not that one.
func wants(t *testing.T, what string, got, want any) {
	t.Helper()
	if got != want {
		t.Errorf("%s: %v, should be %v", what, got, want)
	}
}

// wantsList fails if a list is not that one.
func wantsList[T comparable](t *testing.T, what string, got []T, want ...T) {
	t.Helper()
	if !slices.Equal(got, want) {
		t.Errorf("%s: %v, should be %v", what, got, want)
	}
}

// numbers are around what may be, and far from it.
func numbers(around ...int) []int {
	l := []int{math.MinInt, math.MinInt + 1, math.MinInt32, -256, -16, -2, -1, 0, 1, 2, 1 << 16, math.MaxInt32, 1 << 32, 1<<32 + 1, math.MaxInt - 1, math.MaxInt}
	for _, n := range around {
		l = append(l, n-1, n, n+1)
	}
	slices.Sort(l)
	return slices.Compact(l)
}

// addresses are around pages' ends, and far from them.
func addresses() []uint32 {
	l := []uint32{math.MaxUint32, math.MaxUint32 - 255, math.MaxUint32 - 256, 1 << 31, 1<<31 - 1, 1 << 16, 1<<24 + 5, 9000}
	for page := range uint32(maxPages + 2) {
		l = append(l, page*pageSize, page*pageSize+1, page*pageSize+pageSize/2, page*pageSize+pageSize-1)
	}
	return l
}

func collect(c *pages.Table, space int) []at {
	var l []at
	for page, is := range c.Space(space) {
		l = append(l, at{page, is})
	}
	return l
}

// same holds all that a table tells against its model.
func (b both) same(what string) {
	b.t.Helper()
	told := 0
	for _, space := range numbers(2, 4, 6, 8, 10, 12, 14, 16, 32) {
		l := collect(b.c, space)
		if want := b.m.space(space); !slices.Equal(l, want) {
			b.t.Fatalf("%s: Space(%d): %v, should be %v", what, space, l, want)
		}
		told += len(l)
		for page := -1; page <= maxPages; page++ {
			b.get(space, page)
		}
	}
	counts := 0
	for frame := -1; frame <= maxFrames; frame++ {
		l := b.c.Where(frame)
		if want := b.m.where(frame); !slices.Equal(l, want) {
			b.t.Fatalf("%s: Where(%d): %v, should be %v", what, frame, l, want)
		}
		if n := b.c.Count(frame); n != len(l) {
			b.t.Fatalf("%s: Count(%d): %d, should be %d", what, frame, n, len(l))
		}
		counts += len(l)
	}
	if counts != len(b.m) || told != counts {
		b.t.Fatalf("%s: Count of all frames: %d, Space of all: %d; should be %d", what, counts, told, len(b.m))
	}
	if l, want := b.c.Spaces(), b.m.spaces(); !slices.Equal(l, want) {
		b.t.Fatalf("%s: Spaces: %v, should be %v", what, l, want)
	}
	b.asks(what)
}

// asks holds Ask against Get: it answers a frame just where Get tells one with that right. It is asked of a copy.
func (b both) asks(what string) {
	b.t.Helper()
	c := b.c.Copy()
	for space := range maxSpaces {
		for page := range maxPages {
			is, ok := c.Get(space, page)
			for right := read; right <= run; right *= 2 {
				frame, offset, e := c.Ask(space, uint32(page*pageSize+space), right)
				want := answer{a: is.Frame, b: space}
				switch {
				case !ok:
					want = err(api.ErrFault)
				case is.Rights/right%2 == 0:
					want = err(api.ErrRight)
				}
				if got := place(frame, offset, e); got != want {
					b.t.Fatalf("%s: Ask(%d, page %d, %d): %v, should be %v", what, space, page, right, got, want)
				}
			}
		}
	}
}

// some is a table with something in a few spaces, a frame at several places, some of it asked for.
func some(t *testing.T) both {
	t.Helper()
	b := newBoth(t)
	for _, x := range [][4]int{{0, 0, 0, 7}, {0, 2, 9, 3}, {0, 31, 255, 5}, {3, 2, 9, 1}, {3, 1, 9, 2}, {3, 30, 7, 0}, {15, 31, 9, 6}, {15, 0, 0, 4}} {
		if e := b.set(x[0], x[1], x[2], x[3]); e != api.OK {
			t.Fatal(e)
		}
	}
	b.ask(0, 0, run)
	b.ask(0, 513, write)
	b.ask(15, 31*pageSize, write)
	b.ask(15, 3, run)
	return b
}

// P7.1 to P7.4: the chapter's examples.
func TestExamples(t *testing.T) {
	c := pages.New()
	wants(t, "Set(0, 2, 9, 3)", c.Set(0, 2, 9, 3), api.OK)
	wants(t, "Set(0, 2, 8, 1)", c.Set(0, 2, 8, 1), api.ErrThere)
	wants(t, "Set(0, 32, 1, 1)", c.Set(0, 32, 1, 1), api.ErrArg)
	wants(t, "Ask(0, 517, 2)", place(c.Ask(0, 517, 2)), place(9, 5, api.OK))
	wants(t, "Ask(0, 517, 4)", place(c.Ask(0, 517, 4)), err(api.ErrRight))
	wants(t, "Ask(0, 0, 1)", place(c.Ask(0, 0, 1)), err(api.ErrFault))
	wants(t, "Ask(0, 9000, 1)", place(c.Ask(0, 9000, 1)), err(api.ErrFault))
	used, unused := api.Entry{Frame: 9, Rights: 3, Touched: true, Written: true}, api.Entry{Frame: 9, Rights: 3}
	wants(t, "Get(0, 2)", found(c.Get(0, 2)), found(used, true))
	wants(t, "Clean(0, 2)", entry(c.Clean(0, 2)), entry(used, api.OK))
	wants(t, "Get(0, 2)", found(c.Get(0, 2)), found(unused, true))
	wants(t, "Share(0, 1)", num(c.Share(0, 1)), num(1, api.OK))
	wantsList(t, "Where(9)", c.Where(9), api.Spot{Space: 0, Page: 2}, api.Spot{Space: 1, Page: 2})
	wants(t, "Count(9)", c.Count(9), 2)
	l, e := c.Drop(0)
	wantsList(t, "Drop(0)", l, 9)
	wants(t, "Drop(0)", e, api.OK)
}

// P7.1: New has nothing anywhere, and each New is a table of its own.
func TestNew(t *testing.T) {
	b, other := newBoth(t), newBoth(t)
	if b.c == nil || b.c == other.c {
		t.Fatal("New is no table of its own")
	}
	b.same("New")
	b.set(0, 0, 0, every)
	other.same("New beside another one")
	b.same("behind Set")
}

// P7.1: Set lays an entry that is not touched, anywhere, with any rights.
func TestSet(t *testing.T) {
	b := newBoth(t)
	for space := range maxSpaces {
		for page := range maxPages {
			frame, rights := (space*37+page*5)%maxFrames, (space+page)%8
			wants(t, "Set", b.set(space, page, frame, rights), api.OK)
			wants(t, "Get", b.get(space, page), found(api.Entry{Frame: frame, Rights: rights}, true))
			wants(t, "Set again", b.set(space, page, frame, rights), api.ErrThere)
			wants(t, "Set of another frame", b.set(space, page, (frame+1)%maxFrames, every-rights), api.ErrThere)
		}
		b.same(fmt.Sprint("behind space ", space))
	}
	b = newBoth(t)
	for frame := range maxFrames {
		wants(t, "Set", b.set(frame%maxSpaces, frame/maxSpaces, frame, frame%8), api.OK)
		wants(t, "Get", b.get(frame%maxSpaces, frame/maxSpaces), found(api.Entry{Frame: frame, Rights: frame % 8}, true))
	}
	b.same("all frames")
}

// P7.1: Set anew lays an entry that is not touched, whatever stood there.
func TestSetAnew(t *testing.T) {
	b := newBoth(t)
	b.set(4, 5, 6, every)
	b.ask(4, 5*pageSize, write)
	b.clear(4, 5)
	wants(t, "Set anew", b.set(4, 5, 7, read), api.OK)
	wants(t, "Get", b.get(4, 5), found(api.Entry{Frame: 7, Rights: read}, true))
	b.same("behind Set anew")
	b.ask(4, 5*pageSize, read)
	b.drop(4)
	wants(t, "Set behind Drop", b.set(4, 5, 7, read), api.OK)
	wants(t, "Get", b.get(4, 5), found(api.Entry{Frame: 7, Rights: read}, true))
	b.same("behind Drop")
}

// P7.1: Set of what may not be: ErrArg, also where something stands.
func TestNoSet(t *testing.T) {
	b := some(t)
	for _, n := range numbers(8, 16, 32, 256) {
		for _, page := range []int{2, 3} { // where something stands, and where nothing does
			if noSpace(n) {
				wants(t, "Set in no space", b.set(n, page, 1, 1), api.ErrArg)
			}
			if noPage(n) {
				wants(t, "Set of no page", b.set(0, n, 1, 1), api.ErrArg)
			}
			if noFrame(n) {
				wants(t, "Set of no frame", b.set(0, page, n, 1), api.ErrArg)
			}
			if noRights(n) {
				wants(t, "Set with no rights", b.set(0, page, 1, n), api.ErrArg)
			}
		}
	}
	b.same("behind what may not be")
}

// P7.1: Clear takes away what stood there, and tells it.
func TestClear(t *testing.T) {
	b := some(t)
	wants(t, "Clear(0, 2)", b.clear(0, 2), entry(api.Entry{Frame: 9, Rights: 3, Touched: true, Written: true}, api.OK))
	wants(t, "Clear(0, 2) again", b.clear(0, 2), err(api.ErrNone))
	wants(t, "Get", b.get(0, 2), answer{})
	b.same("behind Clear")
	wants(t, "Clear(0, 0)", b.clear(0, 0), entry(api.Entry{Frame: 0, Rights: 7, Touched: true}, api.OK))
	wants(t, "Clear(3, 30)", b.clear(3, 30), entry(api.Entry{Frame: 7}, api.OK))
	wants(t, "Clear(0, 31)", b.clear(0, 31), entry(api.Entry{Frame: 255, Rights: 5}, api.OK))
	b.same("behind more")
	wantsList(t, "Spaces", b.c.Spaces(), 3, 15)
	for _, n := range numbers(16, 32, 256) {
		if noSpace(n) {
			wants(t, "Clear in no space", b.clear(n, 1), err(api.ErrArg))
		}
		if noPage(n) {
			wants(t, "Clear of no page", b.clear(3, n), err(api.ErrArg))
		}
	}
	for space := range maxSpaces {
		for page := range maxPages {
			b.clear(space, page)
		}
	}
	b.same("nothing left")
	wants(t, "Same as New", pages.Same(b.c, pages.New()), true)
}

// P7.1: Rights gives an entry these, and changes nothing else.
func TestRights(t *testing.T) {
	b := some(t)
	for rights := range every + 1 {
		wants(t, "Rights", b.rights(0, 2, rights), api.OK)
		wants(t, "Get", b.get(0, 2), found(api.Entry{Frame: 9, Rights: rights, Touched: true, Written: true}, true))
		wants(t, "Rights", b.rights(3, 30, rights), api.OK)
		wants(t, "Get", b.get(3, 30), found(api.Entry{Frame: 7, Rights: rights}, true))
		b.same(fmt.Sprint("behind Rights ", rights))
	}
	for _, n := range numbers(8, 16, 32) {
		for _, page := range []int{2, 3} {
			if noRights(n) {
				wants(t, "Rights that may not be", b.rights(0, page, n), api.ErrArg)
			}
			if noSpace(n) {
				wants(t, "Rights in no space", b.rights(n, page, 1), api.ErrArg)
			}
			if noPage(n) {
				wants(t, "Rights of no page", b.rights(0, n, 1), api.ErrArg)
			}
		}
	}
	wants(t, "Rights of nothing", b.rights(0, 3, 1), api.ErrNone)
	wants(t, "Rights of nothing", b.rights(9, 2, 0), api.ErrNone)
	b.same("behind what may not be")
}

// P7.1: Get tells what stands there, nothing of numbers that are none, and changes nothing.
func TestGet(t *testing.T) {
	b := some(t)
	wants(t, "Get(0, 2)", b.get(0, 2), found(api.Entry{Frame: 9, Rights: 3, Touched: true, Written: true}, true))
	wants(t, "Get(3, 30)", b.get(3, 30), found(api.Entry{Frame: 7}, true))
	wants(t, "Get(15, 0)", b.get(15, 0), found(api.Entry{Frame: 0, Rights: 4, Touched: true}, true))
	for _, n := range numbers(16, 32, 256) {
		if noSpace(n) {
			wants(t, "Get in no space", b.get(n, 2), answer{})
		}
		if noPage(n) {
			wants(t, "Get of no page", b.get(0, n), answer{})
		}
	}
	b.same("behind Get")
}

// P7.2: Ask answers the frame and the place in it, for each right that is there.
func TestAsk(t *testing.T) {
	for rights := range every + 1 {
		b := newBoth(t)
		b.set(7, 5, 200, rights)
		for right := read; right <= run; right *= 2 {
			b.clean(7, 5)
			for offset := range pageSize {
				got := b.ask(7, uint32(5*pageSize+offset), right)
				if rights/right%2 == 0 {
					wants(t, fmt.Sprintf("Ask with %d for %d", rights, right), got, err(api.ErrRight))
					wants(t, "Get", b.get(7, 5), found(api.Entry{Frame: 200, Rights: rights}, true))
					continue
				}
				wants(t, fmt.Sprintf("Ask with %d for %d", rights, right), got, place(200, offset, api.OK))
				wants(t, "Get", b.get(7, 5), found(api.Entry{Frame: 200, Rights: rights, Touched: true, Written: right == write}, true))
			}
		}
		b.same(fmt.Sprint("behind rights ", rights))
	}
}

// P7.2: what was asked for with Write stays written, whatever is asked for behind that.
func TestAskOn(t *testing.T) {
	b := newBoth(t)
	b.set(1, 1, 1, every)
	b.ask(1, 300, run)
	wants(t, "Get", b.get(1, 1), found(api.Entry{Frame: 1, Rights: 7, Touched: true}, true))
	b.ask(1, 300, write)
	b.ask(1, 300, read)
	b.ask(1, 511, run)
	wants(t, "Get", b.get(1, 1), found(api.Entry{Frame: 1, Rights: 7, Touched: true, Written: true}, true))
	b.rights(1, 1, read)
	wants(t, "Ask without that right", b.ask(1, 300, write), err(api.ErrRight))
	wants(t, "Get", b.get(1, 1), found(api.Entry{Frame: 1, Rights: 1, Touched: true, Written: true}, true))
	b.same("behind Ask")
}

// P7.2: an address in no page, or behind which nothing stands, is ErrFault; what may not be asked is ErrArg ahead of that.
func TestNoAsk(t *testing.T) {
	b := some(t)
	for _, addr := range addresses() {
		for _, right := range []int{math.MinInt, -4, -2, -1, 0, 3, 5, 6, 7, 8, 9, 16, 1 << 32, 1<<32 + 1, math.MaxInt} {
			wants(t, "Ask for no right", b.ask(0, addr, right), err(api.ErrArg))
			wants(t, "Ask for no right", b.ask(3, addr, right), err(api.ErrArg))
		}
		for right := read; right <= run; right *= 2 {
			for space := range maxSpaces {
				got := b.ask(space, addr, right)
				if addr >= maxPages*pageSize {
					wants(t, fmt.Sprint("Ask of ", addr), got, err(api.ErrFault))
				}
			}
			for _, n := range numbers(16, 32, 256) {
				if noSpace(n) {
					wants(t, "Ask in no space", b.ask(n, addr, right), err(api.ErrArg))
				}
			}
		}
	}
	// The space's last byte, and the one behind it.
	wants(t, "Ask(0, 8191, 1)", b.ask(0, 8191, read), place(255, 255, api.OK))
	wants(t, "Ask(0, 8192, 1)", b.ask(0, 8192, read), err(api.ErrFault))
	wants(t, "Ask(0, 2^16 + 512, 1)", b.ask(0, 1<<16+512, read), err(api.ErrFault))
	wants(t, "Ask(0, 2^32 - 1, 1)", b.ask(0, math.MaxUint32, read), err(api.ErrFault))
	wants(t, "Ask(3, 30 * 256, 1)", b.ask(3, 30*pageSize, read), err(api.ErrRight))
	b.same("behind Ask")
}

// P7.2: Clean tells the entry as it was; then it is neither touched nor written, and may be again.
func TestClean(t *testing.T) {
	b := some(t)
	wants(t, "Clean(0, 2)", b.clean(0, 2), entry(api.Entry{Frame: 9, Rights: 3, Touched: true, Written: true}, api.OK))
	wants(t, "Clean(0, 2) again", b.clean(0, 2), entry(api.Entry{Frame: 9, Rights: 3}, api.OK))
	wants(t, "Clean(0, 0)", b.clean(0, 0), entry(api.Entry{Frame: 0, Rights: 7, Touched: true}, api.OK))
	wants(t, "Get(0, 0)", b.get(0, 0), found(api.Entry{Frame: 0, Rights: 7}, true))
	b.same("behind Clean")
	b.ask(0, 600, read)
	wants(t, "Get(0, 2)", b.get(0, 2), found(api.Entry{Frame: 9, Rights: 3, Touched: true}, true))
	wants(t, "Clean of nothing", b.clean(0, 3), err(api.ErrNone))
	wants(t, "Clean of nothing", b.clean(8, 2), err(api.ErrNone))
	for _, n := range numbers(16, 32, 256) {
		if noSpace(n) {
			wants(t, "Clean in no space", b.clean(n, 2), err(api.ErrArg))
		}
		if noPage(n) {
			wants(t, "Clean of no page", b.clean(0, n), err(api.ErrArg))
		}
	}
	b.same("behind what may not be")
}

// P7.3: Share lays the same in another space, not touched; both go on apart.
func TestShare(t *testing.T) {
	b := some(t)
	wants(t, "Share(0, 5)", b.share(0, 5), num(3, api.OK))
	wantsList(t, "Space(5)", collect(b.c, 5), at{0, api.Entry{Frame: 0, Rights: 7}}, at{2, api.Entry{Frame: 9, Rights: 3}}, at{31, api.Entry{Frame: 255, Rights: 5}})
	wants(t, "Get(0, 2)", b.get(0, 2), found(api.Entry{Frame: 9, Rights: 3, Touched: true, Written: true}, true))
	wants(t, "Count(9)", b.c.Count(9), 5)
	b.same("behind Share")
	b.ask(5, 513, write)
	b.rights(5, 0, 0)
	b.clear(5, 31)
	b.set(5, 30, 1, 1)
	b.same("behind what is done in one")
	wants(t, "Get(0, 0)", b.get(0, 0), found(api.Entry{Frame: 0, Rights: 7, Touched: true}, true))
	b.clean(0, 2)
	wants(t, "Get(5, 2)", b.get(5, 2), found(api.Entry{Frame: 9, Rights: 3, Touched: true, Written: true}, true))
	wants(t, "Share(5, 4)", b.share(5, 4), num(3, api.OK))
	wants(t, "Share(4, 5)", b.share(4, 5), err(api.ErrThere))
	b.drop(5)
	wants(t, "Share(4, 5)", b.share(4, 5), num(3, api.OK))
	b.same("behind Share there and back")
}

// P7.3: Share of all pages, of none, of what may not be.
func TestNoShare(t *testing.T) {
	b := some(t)
	wants(t, "Share of an empty space", b.share(1, 2), num(0, api.OK))
	wants(t, "Share of an empty space", b.share(1, 0), err(api.ErrThere))
	for space := range maxSpaces {
		wants(t, "Share of a space with itself", b.share(space, space), err(api.ErrArg))
	}
	wants(t, "Share(0, 3)", b.share(0, 3), err(api.ErrThere))
	wants(t, "Share(0, 15)", b.share(0, 15), err(api.ErrThere))
	for _, n := range numbers(16, 32, 256) {
		if noSpace(n) {
			for _, space := range []int{0, 1} {
				wants(t, "Share of no space", b.share(n, space), err(api.ErrArg))
				wants(t, "Share to no space", b.share(space, n), err(api.ErrArg))
			}
			wants(t, "Share of no space with itself", b.share(n, n), err(api.ErrArg))
		}
	}
	b.same("behind what may not be")
	// One page alone, the first or the last one, is something.
	for _, page := range []int{0, 1, 30, 31} {
		b := some(t)
		b.set(6, page, 1, 0)
		wants(t, "Share to a space with a page", b.share(0, 6), err(api.ErrThere))
		wants(t, "Share to a space with a page", b.share(7, 6), err(api.ErrThere))
		b.same("behind Share")
		b.clear(6, page)
		wants(t, "Share to it, empty", b.share(0, 6), num(3, api.OK))
	}
	b = newBoth(t)
	for page := range maxPages {
		b.set(2, page, page*3, page%8)
	}
	for _, to := range []int{0, 15, 1, 14, 3} {
		wants(t, "Share of all pages", b.share(2, to), num(maxPages, api.OK))
	}
	b.same("behind Share of all pages")
}

// P7.3: Drop takes away all of one space, and tells the frames by their pages, one that stands there twice too.
func TestDrop(t *testing.T) {
	b := some(t)
	l, e := b.drop(3)
	wantsList(t, "Drop(3)", l, 9, 9, 7)
	wants(t, "Drop(3)", e, api.OK)
	b.same("behind Drop")
	l, e = b.drop(3)
	wantsList(t, "Drop(3) again", l)
	wants(t, "Drop(3) again", e, api.OK)
	l, _ = b.drop(0)
	wantsList(t, "Drop(0)", l, 0, 9, 255)
	wantsList(t, "Where(9)", b.c.Where(9), api.Spot{Space: 15, Page: 31})
	for _, n := range numbers(16, 32, 256) {
		if noSpace(n) {
			l, e := b.drop(n)
			wantsList(t, "Drop of no space", l)
			wants(t, "Drop of no space", e, api.ErrArg)
		}
	}
	b.same("behind what may not be")
	b.drop(15)
	b.same("nothing left")
	wants(t, "Same as New", pages.Same(b.c, pages.New()), true)
	for page := maxPages - 1; page >= 0; page-- {
		b.set(8, page, 255-page, 0)
	}
	l, _ = b.drop(8)
	wants(t, "how many Drop tells", len(l), maxPages)
	b.same("behind Drop of all pages")
}

// P7.3: Space goes by pages, as often as one likes, as far as one likes.
func TestSpace(t *testing.T) {
	b := some(t)
	for _, space := range []int{0, 1, 3, 15} {
		all, want := b.c.Space(space), b.m.space(space)
		for most := range len(want) + 1 {
			var l []at
			for page, is := range all {
				if len(l) == most {
					break
				}
				l = append(l, at{page, is})
			}
			wantsList(t, fmt.Sprintf("the first %d of Space(%d)", most, space), l, want[:most]...)
		}
		n := 0
		for range all {
			for range all {
				n++
			}
		}
		wants(t, "Space within itself", n, len(want)*len(want))
	}
	for _, n := range numbers(16, 32) {
		if noSpace(n) {
			if b.c.Space(n) == nil {
				t.Fatal("Space of no space is not there")
			}
			wantsList(t, "Space of no space", collect(b.c, n))
		}
	}
	wantsList(t, "Space of a new table", collect(pages.New(), 0))
	b.same("behind Space")
}

// P7.3: Space tells the entries as they are when one begins to go over it, whatever is done by the way.
func TestSpaceAsItIs(t *testing.T) {
	b := some(t)
	all := b.c.Space(0)
	b.clear(0, 2)
	b.set(0, 1, 100, 1)
	b.ask(0, 300, read)
	want := b.m.space(0)
	var l []at
	for page, is := range all {
		l = append(l, at{page, is})
		if len(l) == 1 {
			b.ask(0, 0, write)
			b.rights(0, 1, 0)
			b.set(0, 3, 3, 3)
			b.clear(0, 31)
		}
	}
	wantsList(t, "Space, changed by the way", l, want...)
	l = nil
	for page, is := range all {
		l = append(l, at{page, is})
	}
	wantsList(t, "Space, gone over again", l, b.m.space(0)...)
	l, want = nil, b.m.space(0)
	for page, is := range all {
		l = append(l, at{page, is})
		b.drop(0)
	}
	wantsList(t, "Space, dropped by the way", l, want...)
	for page := range all {
		t.Errorf("Space of what was dropped tells %d", page)
	}
	b.same("behind Space")
}

// P7.3: Spaces are those in which something stands, rising.
func TestSpaces(t *testing.T) {
	b := newBoth(t)
	wantsList(t, "Spaces of a new table", b.c.Spaces())
	for _, space := range []int{9, 15, 0, 3} {
		b.set(space, space*2, 0, 0)
	}
	wantsList(t, "Spaces", b.c.Spaces(), 0, 3, 9, 15)
	b.set(9, 0, 1, 1)
	b.clear(9, 18)
	wantsList(t, "Spaces", b.c.Spaces(), 0, 3, 9, 15)
	b.clear(9, 0)
	b.drop(0)
	wantsList(t, "Spaces", b.c.Spaces(), 3, 15)
	b.share(15, 1)
	wantsList(t, "Spaces", b.c.Spaces(), 1, 3, 15)
	b.same("behind Spaces")
}

// P7.4: Where tells all places of a frame, by spaces and pages; Count, how many.
func TestWhere(t *testing.T) {
	b := some(t)
	wantsList(t, "Where(9)", b.c.Where(9), api.Spot{Space: 0, Page: 2}, api.Spot{Space: 3, Page: 1}, api.Spot{Space: 3, Page: 2}, api.Spot{Space: 15, Page: 31})
	wants(t, "Count(9)", b.c.Count(9), 4)
	wantsList(t, "Where(0)", b.c.Where(0), api.Spot{Space: 0, Page: 0}, api.Spot{Space: 15, Page: 0})
	wantsList(t, "Where(255)", b.c.Where(255), api.Spot{Space: 0, Page: 31})
	wants(t, "Count(255)", b.c.Count(255), 1)
	for _, n := range numbers(8, 64, 256) {
		if !slices.Contains([]int{0, 7, 9, 255}, n) {
			wantsList(t, "Where of a frame that stands nowhere", b.c.Where(n))
			wants(t, "Count of a frame that stands nowhere", b.c.Count(n), 0)
		}
	}
	b.clear(3, 1)
	wantsList(t, "Where(9)", b.c.Where(9), api.Spot{Space: 0, Page: 2}, api.Spot{Space: 3, Page: 2}, api.Spot{Space: 15, Page: 31})
	b.set(3, 1, 8, 1)
	wants(t, "Count(9)", b.c.Count(9), 3)
	wantsList(t, "Where(8)", b.c.Where(8), api.Spot{Space: 3, Page: 1})
	b.same("behind Where")
	// One frame behind all pages of all spaces.
	b = newBoth(t)
	for space := range maxSpaces {
		for page := range maxPages {
			b.set(space, page, 128, every)
		}
	}
	wants(t, "Count of a frame that stands everywhere", b.c.Count(128), maxSpaces*maxPages)
	b.same("everywhere")
}

// P7.4: a copy stands as the table, and goes on apart.
func TestCopy(t *testing.T) {
	b := some(t)
	q := b.copy()
	if q.c == b.c || q.c == nil {
		t.Fatal("Copy is no other table")
	}
	wants(t, "Same of a copy", pages.Same(b.c, q.c), true)
	q.same("the copy")
	b.drop(0)
	b.set(4, 4, 4, 4)
	b.ask(3, 2*pageSize, read)
	q.same("the copy behind changes of the table")
	q.drop(3)
	q.set(0, 4, 9, 4)
	q.share(15, 6)
	b.same("the table behind the copy's")
	r := q.copy()
	q.drop(15)
	r.same("the copy's copy")
	q.same("the copy")
	n := both{t, pages.New().Copy(), model{}}
	n.same("the copy of a new table")
	wants(t, "Set in it", n.set(0, 0, 0, 0), api.OK)
	n.same("the copy of a new table, and Set")
	wants(t, "Same of new ones", pages.Same(pages.New(), pages.New().Copy()), true)
}

// P7.4: Same tells each difference, and none where the same stands, however it came there.
func TestSame(t *testing.T) {
	differs := map[string]func(c *pages.Table){
		"another right":   func(c *pages.Table) { c.Rights(3, 30, 1) },
		"touched":         func(c *pages.Table) { c.Ask(3, 2*pageSize, read) },
		"written":         func(c *pages.Table) { c.Ask(0, 0, write) },
		"cleaned":         func(c *pages.Table) { c.Clean(15, 0) },
		"another frame":   func(c *pages.Table) { c.Clear(3, 30); c.Set(3, 30, 8, 0) },
		"one less":        func(c *pages.Table) { c.Clear(15, 31) },
		"one more":        func(c *pages.Table) { c.Set(15, 30, 0, 0) },
		"one more, first": func(c *pages.Table) { c.Set(1, 0, 0, 0) },
		"another page":    func(c *pages.Table) { c.Clear(3, 30); c.Set(3, 29, 7, 0) },
		"another space":   func(c *pages.Table) { c.Clear(3, 30); c.Set(4, 30, 7, 0) },
		"none":            func(c *pages.Table) { c.Drop(0); c.Drop(3); c.Drop(15) },
	}
	for what, do := range differs {
		b, c := some(t), some(t).c
		do(c)
		wants(t, what, pages.Same(b.c, c), false)
		wants(t, what, pages.Same(c, b.c), false)
		wants(t, what, pages.Same(c, c), true)
		wants(t, what, pages.Same(c, c.Copy()), true)
		do(b.c)
		wants(t, what+" in both", pages.Same(b.c, c), true)
	}
	b, c := some(t), some(t).c
	wants(t, "Same of the same calls", pages.Same(b.c, c), true)
	c.Clear(3, 30)
	c.Set(8, 8, 8, 8%7)
	c.Ask(8, 8*pageSize, read)
	c.Set(3, 30, 7, 0)
	c.Drop(8)
	wants(t, "Same by other ways", pages.Same(b.c, c), true)
	c.Share(0, 9)
	c.Drop(9)
	wants(t, "Same by other ways", pages.Same(c, b.c), true)
	wants(t, "Same of a new one", pages.Same(c, pages.New()), false)
	wants(t, "Same of new ones", pages.Same(pages.New(), pages.New()), true)
}

// P7.1 to P7.4: of no table all is refused, of nil and of a zero one.
func TestNoTable(t *testing.T) {
	var none *pages.Table
	for what, c := range map[string]*pages.Table{"nil": none, "zero": {}, "new": new(pages.Table), "a copy of nil": none.Copy(), "a copy of zero": new(pages.Table).Copy()} {
		for _, n := range numbers(8, 16, 32) {
			refused := err(api.ErrNil)
			for _, m := range []int{n, 1} {
				wants(t, what+": Set", err(c.Set(m, n, m, m)), refused)
				wants(t, what+": Set", err(c.Set(m, m, m, n)), refused)
				wants(t, what+": Clear", entry(c.Clear(m, n)), refused)
				wants(t, what+": Rights", err(c.Rights(m, m, n)), refused)
				wants(t, what+": Get", found(c.Get(m, n)), answer{})
				wants(t, what+": Ask", place(c.Ask(m, uint32(n), m)), refused)
				wants(t, what+": Ask", place(c.Ask(n, 1, m)), refused)
				wants(t, what+": Clean", entry(c.Clean(m, n)), refused)
				wants(t, what+": Share", num(c.Share(m, n)), refused)
			}
			l, e := c.Drop(n)
			wantsList(t, what+": Drop", l)
			wants(t, what+": Drop", e, api.ErrNil)
			if c.Space(n) == nil {
				t.Fatalf("%s: Space is not there", what)
			}
			wantsList(t, what+": Space", collect(c, n))
			wantsList(t, what+": Where", c.Where(n))
			wants(t, what+": Count", c.Count(n), 0)
		}
		wantsList(t, what+": Spaces", c.Spaces())
		if q := c.Copy(); q != nil {
			t.Errorf("%s: Copy: %v", what, q)
		}
		for _, other := range []*pages.Table{none, {}, c} {
			wants(t, what+": Same of none", pages.Same(c, other), true)
			wants(t, what+": Same of none", pages.Same(other, c), true)
		}
		wants(t, what+": Same of one", pages.Same(c, pages.New()), false)
		wants(t, what+": Same of one", pages.Same(pages.New(), c), false)
		wants(t, what+": Same of one", pages.Same(some(t).c, c), false)
	}
}

// P7.1 to P7.3: a call that is refused changes nothing.
func TestRefused(t *testing.T) {
	b := some(t)
	refused := 0
	unchanged := func(what string, do func(q both) api.Errno) {
		t.Helper()
		q := b.copy()
		if do(q) == api.OK {
			return
		}
		refused++
		wants(t, "Same behind "+what, pages.Same(q.c, b.c), true)
		if refused%20 == 0 { // all that it tells takes longer
			q.same("behind " + what)
		}
	}
	for _, space := range []int{-1, 0, 1, 3, 15, 16} {
		for _, page := range []int{-1, 0, 2, 3, 31, 32} {
			for _, n := range []int{-1, 0, 3, 4, 7, 8, 256} {
				unchanged("Set", func(q both) api.Errno { return q.set(space, page, n, n) })
				unchanged("Rights", func(q both) api.Errno { return q.rights(space, page, n) })
				unchanged("Ask", func(q both) api.Errno { return q.ask(space, uint32(page*pageSize), n).e })
			}
			unchanged("Clear", func(q both) api.Errno { return q.clear(space, page).e })
			unchanged("Clean", func(q both) api.Errno { return q.clean(space, page).e })
			unchanged("Share", func(q both) api.Errno { return q.share(space, page).e })
		}
		unchanged("Drop", func(q both) api.Errno {
			_, e := q.drop(space)
			return e
		})
	}
	if refused < 400 {
		t.Errorf("no more than %d calls were refused", refused)
	}
	b.same("behind what was refused")
}

// P7.3, P7.4: an answer is new memory: what is done to it, and behind it, is seen nowhere.
func TestNewMemory(t *testing.T) {
	b := some(t)
	for range 2 {
		w, s := b.c.Where(9), b.c.Spaces()
		for i := range w {
			w[i] = api.Spot{}
		}
		for i := range s {
			s[i] = 9
		}
		_, _ = append(w, api.Spot{Space: 1}), append(s, 1)
		b.same("behind what was done to answers")
	}
	q := b.copy()
	l, _ := q.drop(3)
	for i := range l {
		l[i] = 0
	}
	_ = append(l, 1, 2, 3)
	q.same("behind what was done to Drop's answer")
	b.same("the table of that copy")
}

// P7.5: what is done in one space is not seen in another.
func TestApart(t *testing.T) {
	r := rand.New(rand.NewSource(71))
	for range 20 {
		alone, among := newBoth(t), newBoth(t)
		own := r.Intn(maxSpaces)
		for range 200 {
			for range r.Intn(4) { // others, the same frames too; they may share the own one
				x, y := r.Intn(maxSpaces), r.Intn(maxSpaces)
				if x != own {
					among.step(byte(r.Intn(256)), byte(x), byte(r.Intn(maxPages)), byte(r.Intn(256)), own)
				}
				if x != own && y != own && r.Intn(9) == 0 {
					among.drop(x)
					among.share([]int{y, own}[r.Intn(2)], x)
				}
			}
			op, page, z := byte(r.Intn(256)), byte(r.Intn(maxPages)), byte(r.Intn(256))
			alone.step(op, byte(own), page, z, own)
			among.step(op, byte(own), page, z, own)
			if got, want := collect(among.c, own), collect(alone.c, own); !slices.Equal(got, want) {
				t.Fatalf("among others %v, alone %v", got, want)
			}
		}
		among.same("among others")
	}
}

// step does to both what some numbers say, in the space x; never Share to the space that is kept.
func (b both) step(op, x, y, z byte, kept int) {
	b.t.Helper()
	space, page := int(x), int(y)
	switch op % 16 {
	case 0, 1, 2, 3, 4:
		b.set(space, page, int(z)%12, int(z/12)%9)
	case 5, 6, 7, 8:
		b.ask(space, uint32(page)*pageSize+uint32(z), 1<<(z%3))
	case 9:
		b.ask(space, uint32(page)<<(z%32)+uint32(z), int(z)%9)
	case 10:
		b.clear(space, page)
	case 11:
		b.clean(space, page)
	case 12:
		b.rights(space, page, int(z)%9)
	case 13:
		if z < 40 {
			b.drop(space)
		}
	case 14:
		if to := int(z % 18); to != kept && space != kept {
			b.share(space, to)
		}
	case 15:
		b.set(space, page, int(z)+int(op/128), int(op/16)%8)
	}
}

// plays does many steps to a table and its model, and to copies of both by the way.
func (b both) plays(steps []byte) {
	b.t.Helper()
	for i := 0; i+3 < len(steps); i += 4 {
		b.step(steps[i], steps[i+1]%18, steps[i+2]%34, steps[i+3], -1)
		if i%400 > 0 {
			continue
		}
		q := b.copy()
		for j := i; j+3 < min(len(steps), i+60); j += 4 {
			q.step(steps[j+3], steps[j]%17, steps[j+1]%33, steps[j+2], -1)
		}
		q.same(fmt.Sprint("the copy of step ", i/4))
		b.same(fmt.Sprint("behind step ", i/4))
		wants(b.t, fmt.Sprint("Same behind step ", i/4), pages.Same(b.c, q.c), maps.Equal(b.m, q.m))
	}
	b.same("at the end")
}

// P7.1 to P7.5: whatever is done, the table is as the words say it.
func TestFollows(t *testing.T) {
	r := rand.New(rand.NewSource(7))
	most := 0
	for range 40 {
		b := newBoth(t)
		steps := make([]byte, 3200)
		r.Read(steps)
		b.plays(steps)
		most = max(most, len(b.m))
	}
	if most < 60 {
		t.Errorf("the steps left no more than %d entries", most)
	}
}

// FuzzSteps plays any steps on a new table.
func FuzzSteps(f *testing.F) {
	f.Add([]byte{0, 0, 2, 45, 5, 0, 2, 1, 14, 0, 0, 1, 10, 1, 2, 0, 13, 0, 0, 0})
	f.Fuzz(func(t *testing.T, steps []byte) {
		newBoth(t).plays(steps[:min(len(steps), 1200)])
	})
}
