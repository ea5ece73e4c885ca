package caps_test

import (
	"fmt"
	"math"
	"math/rand"
	"slices"
	"testing"

	"steading/api"
	"steading/caps"
)

const (
	read  = 1
	write = 2
	run   = 4
	give  = 8
	every = 15

	maxAccounts = 8
	maxCaps     = 32
)

// model is a table as the chapter's words say it: what is there, by ids, each with all that it was derived of.
type model struct {
	there []stands
	given int64
}

type stands struct {
	is api.Cap
	of []int64
}

func (m *model) find(id int64) (stands, bool) {
	for _, s := range m.there {
		if s.is.Id == id {
			return s, true
		}
	}
	return stands{}, false
}

func (m *model) made(account int) int {
	n := 0
	for _, s := range m.there {
		if s.is.Maker == account {
			n++
		}
	}
	return n
}

func (m *model) lay(is api.Cap, of []int64) (int64, api.Errno) {
	if m.made(is.Maker) == maxCaps {
		return 0, api.ErrFull
	}
	m.given++
	is.Id = m.given
	m.there = append(m.there, stands{is, of})
	return is.Id, api.OK
}

func noAccount(account int) bool { return account < 0 || account > maxAccounts-1 }

func noRights(rights int) bool { return rights < 1 || rights > every }

// within: is each bit of a one of b?
func within(a, b int) bool {
	for bit := 1; bit <= give; bit *= 2 {
		if a/bit%2 == 1 && b/bit%2 == 0 {
			return false
		}
	}
	return true
}

func (m *model) root(account, kind, object, rights int) (int64, api.Errno) {
	if noAccount(account) || kind < 0 || object < 0 || noRights(rights) {
		return 0, api.ErrArg
	}
	return m.lay(api.Cap{Account: account, Maker: account, Kind: kind, Object: object, Rights: rights}, nil)
}

func (m *model) derive(account int, id int64, rights int) (int64, api.Errno) {
	return m.hand(account, id, account, rights, false)
}

func (m *model) grant(account int, id int64, to, rights int) (int64, api.Errno) {
	return m.hand(account, id, to, rights, true)
}

func (m *model) hand(account int, id int64, to, rights int, gives bool) (int64, api.Errno) {
	if noAccount(account) || noAccount(to) || noRights(rights) {
		return 0, api.ErrArg
	}
	p, ok := m.find(id)
	if !ok || p.is.Account != account {
		return 0, api.ErrNone
	}
	if !within(rights, p.is.Rights) || gives && !within(give, p.is.Rights) {
		return 0, api.ErrRight
	}
	is := p.is
	is.Parent, is.Account, is.Maker, is.Rights = id, to, account, rights
	return m.lay(is, append(slices.Clone(p.of), id))
}

func (m *model) revoke(account int, id int64) (int, api.Errno) {
	if noAccount(account) {
		return 0, api.ErrArg
	}
	if s, ok := m.find(id); !ok || s.is.Account != account {
		return 0, api.ErrNone
	}
	n := len(m.there)
	m.there = slices.DeleteFunc(m.there, func(s stands) bool { return slices.Contains(s.of, id) })
	return n - len(m.there), api.OK
}

func (m *model) drop(account int, id int64) (int, api.Errno) {
	n, e := m.revoke(account, id)
	if e != api.OK {
		return 0, e
	}
	m.there = slices.DeleteFunc(m.there, func(s stands) bool { return s.is.Id == id })
	return n + 1, api.OK
}

func (m *model) may(account, kind, object, rights int) bool {
	for _, s := range m.there {
		if s.is.Account == account && s.is.Kind == kind && s.is.Object == object && !noRights(rights) && within(rights, s.is.Rights) {
			return true
		}
	}
	return false
}

func (m *model) over(a, b int64) (bool, api.Errno) {
	_, ok := m.find(a)
	s, also := m.find(b)
	if !ok || !also {
		return false, api.ErrNone
	}
	return a == b || slices.Contains(s.of, a), api.OK
}

func (m *model) all(account int) []api.Cap {
	var l []api.Cap
	for _, s := range m.there {
		if account < 0 || s.is.Account == account {
			l = append(l, s.is)
		}
	}
	return l
}

func (m *model) clone() *model { return &model{slices.Clone(m.there), m.given} }

// both is a table and its model; each call is done to both, and the answers are held against each other.
type both struct {
	t *testing.T
	c *caps.Table
	m *model
}

func newBoth(t *testing.T) both { return both{t, caps.New(), &model{}} }

func (b both) clone() both { return both{b.t, b.c.Clone(), b.m.clone()} }

func (b both) agree(what string, got, want id) id {
	b.t.Helper()
	if got != want {
		b.t.Fatalf("%s: %v, should be %v", what, got, want)
	}
	return got
}

func (b both) root(account, kind, object, rights int) id {
	b.t.Helper()
	return b.agree(fmt.Sprintf("Root(%d, %d, %d, %d)", account, kind, object, rights), num(b.c.Root(account, kind, object, rights)), num(b.m.root(account, kind, object, rights)))
}

func (b both) derive(account int, of int64, rights int) id {
	b.t.Helper()
	return b.agree(fmt.Sprintf("Derive(%d, %d, %d)", account, of, rights), num(b.c.Derive(account, of, rights)), num(b.m.derive(account, of, rights)))
}

func (b both) grant(account int, of int64, to, rights int) id {
	b.t.Helper()
	return b.agree(fmt.Sprintf("Grant(%d, %d, %d, %d)", account, of, to, rights), num(b.c.Grant(account, of, to, rights)), num(b.m.grant(account, of, to, rights)))
}

func (b both) revoke(account int, of int64) id {
	b.t.Helper()
	return b.agree(fmt.Sprintf("Revoke(%d, %d)", account, of), count(b.c.Revoke(account, of)), count(b.m.revoke(account, of)))
}

func (b both) drop(account int, of int64) id {
	b.t.Helper()
	return b.agree(fmt.Sprintf("Drop(%d, %d)", account, of), count(b.c.Drop(account, of)), count(b.m.drop(account, of)))
}

// id is an answer of two parts as one thing: an id, a count or a flag, and what is said beside it.
type id struct {
	n int64
	e api.Errno
}

func num(n int64, e api.Errno) id { return id{n, e} }

func count(n int, e api.Errno) id { return id{int64(n), e} }

func flag(ok bool, e api.Errno) id {
	if ok {
		return id{1, e}
	}
	return id{0, e}
}

// wants fails if an answer is not that one.
func wants(t *testing.T, what string, got, want any) {
	t.Helper()
	if got != want {
		t.Errorf("%s: %v, should be %v", what, got, want)
	}
}

// numbers are around what may be, and far from it.
func numbers(around ...int) []int {
	l := []int{math.MinInt, math.MinInt + 1, math.MinInt32, -256, -16, -2, -1, 0, 1, 2, 1 << 16, math.MaxInt32, 1 << 32, 1<<32 + 1, math.MaxInt - 1, math.MaxInt}
	for _, n := range around {
		l = append(l, n-1, n, n+1)
	}
	slices.Sort(l)
	return slices.Compact(l)
}

// ids are around those that were given, and far from them.
func (m *model) ids() []int64 {
	l := []int64{math.MinInt64, math.MinInt64 + 1, -2, -1, 0, m.given + 1, m.given + 2, 1 << 32, 1<<32 + 1, math.MaxInt64 - 1, math.MaxInt64}
	for n := int64(1); n <= m.given; n++ {
		l = append(l, n)
	}
	return l
}

// same holds all that a table tells against its model.
func (b both) same(what string) {
	b.t.Helper()
	wants(b.t, what+": Len", b.c.Len(), len(b.m.there))
	for _, account := range numbers(8, 4, 6) {
		if n, want := b.c.Made(account), b.m.made(account); n != want {
			b.t.Fatalf("%s: Made(%d): %d, should be %d", what, account, n, want)
		}
		if l, want := slices.Collect(b.c.All(account)), b.m.all(account); !slices.Equal(l, want) {
			b.t.Fatalf("%s: All(%d): %v, should be %v", what, account, l, want)
		}
	}
	for _, n := range b.m.ids() {
		is, e := b.c.Of(n)
		s, ok := b.m.find(n)
		if is != s.is || (e == api.OK) != ok || !ok && e != api.ErrNone {
			b.t.Fatalf("%s: Of(%d): %v, %v; should be %v, %v", what, n, is, e, s.is, ok)
		}
	}
	b.sameOver(what)
	b.sameMay(what)
}

// sameOver holds against the model what is derived of what.
func (b both) sameOver(what string) {
	b.t.Helper()
	l := b.m.ids()
	if len(l) > 60 { // pairs of so many take long: some of each part
		r := rand.New(rand.NewSource(int64(len(l))))
		r.Shuffle(len(l), func(i, j int) { l[i], l[j] = l[j], l[i] })
		l = l[:60]
	}
	for _, x := range l {
		for _, y := range l {
			if got, want := flag(b.c.Over(x, y)), flag(b.m.over(x, y)); got != want {
				b.t.Fatalf("%s: Over(%d, %d): %v, should be %v", what, x, y, got, want)
			}
		}
	}
}

// sameMay holds against the model who may do what, and that a root of the thing has all these rights.
func (b both) sameMay(what string) {
	b.t.Helper()
	things := [][2]int{{0, 0}, {1, 0}, {-1, 0}, {0, -1}}
	roots := map[[3]int]bool{}
	for _, s := range b.m.there {
		thing := [2]int{s.is.Kind, s.is.Object}
		if !slices.Contains(things, thing) {
			things = append(things, thing)
		}
		if s.is.Parent == 0 {
			roots[[3]int{s.is.Kind, s.is.Object, s.is.Rights}] = true
		}
	}
	for _, thing := range things[:min(len(things), 12)] {
		for account := -1; account <= maxAccounts; account++ {
			for rights := -1; rights <= 17; rights++ {
				got, want := b.c.May(account, thing[0], thing[1], rights), b.m.may(account, thing[0], thing[1], rights)
				if got != want {
					b.t.Fatalf("%s: May(%d, %v, %d): %v, should be %v", what, account, thing, rights, got, want)
				}
				rooted := !got
				for r := 1; r <= every; r++ {
					rooted = rooted || roots[[3]int{thing[0], thing[1], r}] && within(rights, r)
				}
				if !rooted {
					b.t.Fatalf("%s: account %d may %d to %v, and no root has these rights", what, account, rights, thing)
				}
			}
		}
	}
}

// P6.1 to P6.3: the chapter's examples.
func TestExamples(t *testing.T) {
	c := caps.New()
	wants(t, "Root(0, 1, 5, 15)", num(c.Root(0, 1, 5, 15)), id{1, api.OK})
	wants(t, "Derive(0, 1, 3)", num(c.Derive(0, 1, 3)), id{2, api.OK})
	wants(t, "Grant(0, 1, 2, 1)", num(c.Grant(0, 1, 2, 1)), id{3, api.OK})
	wants(t, "Derive(2, 3, 2)", num(c.Derive(2, 3, 2)), id{0, api.ErrRight})
	wants(t, "May(2, 1, 5, 1)", c.May(2, 1, 5, 1), true)
	wants(t, "May(2, 1, 5, 2)", c.May(2, 1, 5, 2), false)
	wants(t, "Over(1, 3)", flag(c.Over(1, 3)), id{1, api.OK})
	wants(t, "Over(2, 3)", flag(c.Over(2, 3)), id{0, api.OK})
	wants(t, "Grant(0, 2, 1, 1)", num(c.Grant(0, 2, 1, 1)), id{0, api.ErrRight})
	wants(t, "Revoke(0, 1)", count(c.Revoke(0, 1)), id{2, api.OK})
	wants(t, "May(2, 1, 5, 1)", c.May(2, 1, 5, 1), false)
	wants(t, "Drop(0, 1)", count(c.Drop(0, 1)), id{1, api.OK})
	is, e := c.Of(1)
	wants(t, "Of(1)", is, api.Cap{})
	wants(t, "Of(1)", e, api.ErrNone)
}

// P6.1: New has no capabilities, and each New is a table of its own.
func TestNew(t *testing.T) {
	b, other := newBoth(t), newBoth(t)
	if b.c == nil || b.c == other.c {
		t.Fatal("New is no table of its own")
	}
	b.same("New")
	b.root(0, 0, 0, every)
	other.same("New beside another one")
	wants(t, "the first id of the other one", other.root(3, 1, 2, 3), id{1, api.OK})
}

// P6.1: a root is its account's, made by it, without a parent.
func TestRoot(t *testing.T) {
	b := newBoth(t)
	n := int64(0)
	for account := range maxAccounts {
		for _, x := range [][3]int{{0, 0, 1}, {2, 0, every}, {0, 7, write}, {math.MaxInt, math.MaxInt, give}} {
			n++
			wants(t, "Root", b.root(account, x[0], x[1], x[2]), id{n, api.OK})
			is, e := b.c.Of(n)
			wants(t, "Of a root", is, api.Cap{Id: n, Account: account, Maker: account, Kind: x[0], Object: x[1], Rights: x[2]})
			wants(t, "Of a root", e, api.OK)
		}
	}
	for rights := 1; rights <= every; rights++ {
		wants(t, "Root", b.root(5, 1, rights, rights).e, api.OK)
	}
	// The same thing twice, for the same account, is another capability.
	a, z := b.root(6, 1, 1, 1), b.root(6, 1, 1, 1)
	if a.n == z.n || a.e != api.OK || z.e != api.OK {
		t.Errorf("two roots of one thing: %v, %v", a, z)
	}
	wants(t, "Over of roots of one thing", flag(b.c.Over(a.n, z.n)), id{0, api.OK})
	b.same("behind roots")
}

// P6.1: roots that may not be.
func TestNoRoots(t *testing.T) {
	b := newBoth(t)
	b.root(1, 1, 1, every)
	for _, n := range numbers(8, 16, 32) {
		if noAccount(n) {
			wants(t, "Root of an account that is none", b.root(n, 0, 0, 1), id{0, api.ErrArg})
		}
		if n < 0 {
			wants(t, "Root of a kind below 0", b.root(0, n, 0, 1), id{0, api.ErrArg})
			wants(t, "Root of an object below 0", b.root(0, 0, n, 1), id{0, api.ErrArg})
		}
		if noRights(n) {
			wants(t, "Root with rights that may not be", b.root(0, 0, 0, n), id{0, api.ErrArg})
		}
	}
	b.same("behind what may not be")
	for i := range maxCaps {
		b.root(0, 0, i, 1)
	}
	// An account that has made all it may is told so behind what may not be.
	wants(t, "Root beyond", b.root(0, 0, 0, 1), id{0, api.ErrFull})
	wants(t, "Root beyond of a kind below 0", b.root(0, -1, 0, 1), id{0, api.ErrArg})
	wants(t, "Root beyond of an object below 0", b.root(0, 0, -1, 1), id{0, api.ErrArg})
	wants(t, "Root beyond without rights", b.root(0, 0, 0, 0), id{0, api.ErrArg})
	wants(t, "Root beyond with too many rights", b.root(0, 0, 0, 16), id{0, api.ErrArg})
	b.same("behind all")
}

// P6.1: one that is derived is of the same thing, the account's, and has none but its parent's rights.
func TestDerive(t *testing.T) {
	for parent := 1; parent <= every; parent++ {
		b := newBoth(t)
		root := b.root(3, 7, 9, parent)
		last := root.n
		for rights := 1; rights <= every; rights++ {
			got := b.derive(3, root.n, rights)
			if !within(rights, parent) {
				wants(t, fmt.Sprintf("Derive of %d with %d", parent, rights), got, id{0, api.ErrRight})
				continue
			}
			last++
			wants(t, fmt.Sprintf("Derive of %d with %d", parent, rights), got, id{last, api.OK})
			is, _ := b.c.Of(last)
			wants(t, "Of what was derived", is, api.Cap{Id: last, Parent: root.n, Account: 3, Maker: 3, Kind: 7, Object: 9, Rights: rights})
			// What was derived has no more than its own rights to hand on.
			for more := 1; more <= every; more++ {
				if !within(more, rights) {
					wants(t, fmt.Sprintf("Derive of %d with %d", rights, more), b.derive(3, last, more), id{0, api.ErrRight})
				}
			}
		}
		b.same(fmt.Sprint("derived of ", parent))
	}
}

// P6.1: one that is granted is the other account's, made by the one that granted it, and asks for Give.
func TestGrant(t *testing.T) {
	for parent := 1; parent <= every; parent++ {
		b := newBoth(t)
		root := b.root(3, 7, 9, parent)
		last := root.n
		for rights := 1; rights <= every; rights++ {
			to := rights % maxAccounts // account 3 too, which may grant to itself
			got := b.grant(3, root.n, to, rights)
			if !within(rights, parent) || parent < give {
				wants(t, fmt.Sprintf("Grant of %d with %d", parent, rights), got, id{0, api.ErrRight})
				continue
			}
			last++
			wants(t, fmt.Sprintf("Grant of %d with %d", parent, rights), got, id{last, api.OK})
			is, _ := b.c.Of(last)
			wants(t, "Of what was granted", is, api.Cap{Id: last, Parent: root.n, Account: to, Maker: 3, Kind: 7, Object: 9, Rights: rights})
			wants(t, "May of whom it was granted", b.c.May(to, 7, 9, rights), true)
			other := (to + 1) % maxAccounts
			if rights >= give {
				next := b.grant(to, last, other, rights)
				last++
				wants(t, "a grant of what was granted", next, id{last, api.OK})
				is, _ := b.c.Of(last)
				wants(t, "Of what was granted on", is, api.Cap{Id: last, Parent: last - 1, Account: other, Maker: to, Kind: 7, Object: 9, Rights: rights})
			} else {
				wants(t, "a grant of what was granted without Give", b.grant(to, last, other, rights), id{0, api.ErrRight})
			}
		}
		b.same(fmt.Sprint("granted of ", parent))
	}
}

// P6.1: what was granted is the other account's alone.
func TestGranted(t *testing.T) {
	b := newBoth(t)
	root := b.root(0, 2, 4, every).n
	got := b.grant(0, root, 5, read|give).n
	wants(t, "Derive by who granted", b.derive(0, got, read), id{0, api.ErrNone})
	wants(t, "Grant by who granted", b.grant(0, got, 1, read), id{0, api.ErrNone})
	wants(t, "Revoke by who granted", b.revoke(0, got), id{0, api.ErrNone})
	wants(t, "Drop by who granted", b.drop(0, got), id{0, api.ErrNone})
	wants(t, "Derive by whom it is", b.derive(5, got, read).e, api.OK)
	wants(t, "Derive of the parent", b.derive(5, root, read), id{0, api.ErrNone})
	wants(t, "Grant of the parent", b.grant(5, root, 5, read), id{0, api.ErrNone})
	wants(t, "Revoke of the parent", b.revoke(5, root), id{0, api.ErrNone})
	wants(t, "Drop of the parent", b.drop(5, root), id{0, api.ErrNone})
	b.same("behind a grant")
}

// P6.1, P6.2: the errors of numbers that may not be, ahead of all others.
func TestNoNumbers(t *testing.T) {
	b := newBoth(t)
	own := b.root(1, 0, 0, every).n
	little := b.derive(1, own, read).n
	other := b.root(2, 0, 0, every).n
	for i := range maxCaps - 2 {
		b.root(1, 1, i, 1)
	}
	for _, of := range []int64{own, little, other, 0, -1, 99, math.MaxInt64, math.MinInt64} {
		for _, n := range numbers(8, 16, 32) {
			if noAccount(n) {
				wants(t, "Derive by nobody", b.derive(n, of, 1), id{0, api.ErrArg})
				wants(t, "Grant by nobody", b.grant(n, of, 2, 1), id{0, api.ErrArg})
				wants(t, "Grant to nobody", b.grant(1, of, n, 1), id{0, api.ErrArg})
				wants(t, "Grant by and to nobody", b.grant(n, of, n, 1), id{0, api.ErrArg})
				wants(t, "Revoke by nobody", b.revoke(n, of), id{0, api.ErrArg})
				wants(t, "Drop by nobody", b.drop(n, of), id{0, api.ErrArg})
			}
			if noRights(n) {
				wants(t, "Derive with no rights", b.derive(1, of, n), id{0, api.ErrArg})
				wants(t, "Grant with no rights", b.grant(1, of, 2, n), id{0, api.ErrArg})
			}
		}
	}
	b.same("behind what may not be")
}

// P6.1, P6.2: capabilities that there are not, or that are another account's, ahead of rights and of what is full.
func TestNone(t *testing.T) {
	b := newBoth(t)
	own := b.root(1, 0, 0, read|give).n
	other := b.root(2, 0, 0, read).n
	gone := b.root(1, 0, 0, every).n
	under := b.derive(1, gone, every).n
	wants(t, "Drop", b.drop(1, gone), id{2, api.OK})
	for i := range maxCaps - 1 {
		b.root(1, 1, i, 1)
	}
	for _, of := range []int64{other, gone, under, 0, -own, own + 1<<32, 99, math.MaxInt64, math.MinInt64} {
		for _, rights := range []int{read, write, every} {
			wants(t, "Derive", b.derive(1, of, rights), id{0, api.ErrNone})
			wants(t, "Grant", b.grant(1, of, 2, rights), id{0, api.ErrNone})
			wants(t, "Grant to itself", b.grant(1, of, 1, rights), id{0, api.ErrNone})
		}
		wants(t, "Revoke", b.revoke(1, of), id{0, api.ErrNone})
		wants(t, "Drop", b.drop(1, of), id{0, api.ErrNone})
	}
	// Rights are told ahead of what is full.
	wants(t, "Derive with more rights", b.derive(1, own, write), id{0, api.ErrRight})
	wants(t, "Grant with more rights", b.grant(1, own, 2, every), id{0, api.ErrRight})
	wants(t, "Derive beyond", b.derive(1, own, read), id{0, api.ErrFull})
	wants(t, "Grant beyond", b.grant(1, own, 2, read), id{0, api.ErrFull})
	b.same("behind what is none")
}

// P6.1: a grant of one without Give is refused for its right, whatever else it has, also where all is full.
func TestNoGive(t *testing.T) {
	b := newBoth(t)
	own := b.root(1, 0, 0, read|write|run).n
	wants(t, "Grant", b.grant(1, own, 2, read), id{0, api.ErrRight})
	wants(t, "Grant to itself", b.grant(1, own, 1, read), id{0, api.ErrRight})
	for i := range maxCaps - 1 {
		b.root(1, 1, i, 1)
	}
	wants(t, "Grant where all is full", b.grant(1, own, 2, read), id{0, api.ErrRight})
	wants(t, "Derive where all is full", b.derive(1, own, read), id{0, api.ErrFull})
	b.same("behind grants that are refused")
}

// P6.1, P6.3: an account makes 32 at most that are there, by whichever call, for whomever.
func TestFull(t *testing.T) {
	b := newBoth(t)
	root := b.root(0, 0, 0, every).n
	for i := 2; i <= maxCaps; i++ {
		switch i % 3 {
		case 0:
			wants(t, "Root", b.root(0, 1, i, 1), id{int64(i), api.OK})
		case 1:
			wants(t, "Derive", b.derive(0, root, every), id{int64(i), api.OK})
		case 2:
			wants(t, "Grant", b.grant(0, root, 4, every), id{int64(i), api.OK})
		}
		wants(t, "Made", b.c.Made(0), i)
	}
	full := func(what string) {
		t.Helper()
		wants(t, "Root "+what, b.root(0, 1, 1, 1), id{0, api.ErrFull})
		wants(t, "Derive "+what, b.derive(0, root, 1), id{0, api.ErrFull})
		wants(t, "Grant "+what, b.grant(0, root, 4, 1), id{0, api.ErrFull})
		wants(t, "Grant to itself "+what, b.grant(0, root, 0, 1), id{0, api.ErrFull})
		wants(t, "Made "+what, b.c.Made(0), maxCaps)
		b.same(what)
	}
	full("beyond the bound")
	// What was granted to account 4 was not made by it: it may make as many itself.
	wants(t, "Made of whom it was granted", b.c.Made(4), 0)
	theirs := b.derive(4, 2, every)
	wants(t, "Derive by account 4", theirs.e, api.OK)
	for range maxCaps - 1 {
		wants(t, "Grant by account 4", b.grant(4, theirs.n, 0, 1).e, api.OK)
	}
	wants(t, "Grant by account 4 beyond", b.grant(4, theirs.n, 0, 1), id{0, api.ErrFull})
	full("behind what account 4 made")
	// One that account 4 lets go of makes room for the one who made it.
	wants(t, "Drop by account 4", b.drop(4, 5), id{1, api.OK})
	wants(t, "Made", b.c.Made(0), maxCaps-1)
	wants(t, "Grant to one that is full", b.grant(0, root, 4, 1).e, api.OK)
	full("behind one more")
	// And so does what is revoked, of whomever it was derived.
	wants(t, "Revoke by account 4", b.revoke(4, 2), id{maxCaps, api.OK})
	wants(t, "Made by account 4", b.c.Made(4), 0)
	full("behind account 4's")
	wants(t, "Drop", b.drop(0, 3), id{1, api.OK})
	wants(t, "Root", b.root(0, 3, 3, 3).e, api.OK)
	full("behind a drop")
}

// P6.1: ids are given from 1 on, none twice, and none by a call that is refused.
func TestIds(t *testing.T) {
	b := newBoth(t)
	n := int64(0)
	for round := range 40 {
		n++
		root := b.root(round%8, 0, 0, every)
		wants(t, "Root", root, id{n, api.OK})
		b.root(round%8, 0, 0, 0)
		b.derive(round%8, root.n, 16)
		b.derive((round+1)%8, root.n, 1)
		b.grant(round%8, 0, 1, 1)
		n++
		wants(t, "Derive", b.derive(round%8, root.n, 3), id{n, api.OK})
		b.grant(round%8, n, 1, 1)
		b.revoke(round%8, n+1)
		n++
		wants(t, "Grant", b.grant(round%8, root.n, 1, 3), id{n, api.OK})
		if round%2 == 0 {
			wants(t, "Drop", b.drop(round%8, root.n), id{3, api.OK})
			wants(t, "Drop again", b.drop(round%8, root.n), id{0, api.ErrNone})
		}
		if round%8 == 7 {
			for _, is := range slices.Collect(b.c.All(-1)) {
				b.drop(is.Account, is.Id)
			}
			wants(t, "Len", b.c.Len(), 0)
		}
	}
	b.same("behind rounds")
	for range 5000 {
		n++
		if got, e := b.c.Root(2, 0, 0, 1); got != n || e != api.OK {
			t.Fatalf("Root: %d, %v; should be %d", got, e, n)
		}
		b.c.Drop(2, n)
	}
}

// family lays roots, what was derived of one, and what of that, by several accounts.
//
//	1 (0) .. 3 (0) .. 5 (1) .. 7 (2) .. 9 (0)
//	      .. 4 (1) .. 6 (1)
//	             .. 8 (0)
//	2 (0) .. 10 (1)
func family(t *testing.T) both {
	b := newBoth(t)
	b.root(0, 1, 1, every)
	b.root(0, 1, 1, every)
	b.derive(0, 1, every)
	b.grant(0, 1, 1, every)
	b.grant(0, 3, 1, every)
	b.derive(1, 4, every)
	b.grant(1, 5, 2, every)
	b.grant(1, 4, 0, every)
	b.grant(2, 7, 0, every)
	b.grant(0, 2, 1, every)
	wants(t, "Len of the family", b.c.Len(), 10)
	b.same("the family")
	return b
}

// P6.2: all that was derived is gone, whoever's it was, and nothing else; Drop's own, too.
func TestRevokeAndDrop(t *testing.T) {
	under := map[int64][]int64{1: {3, 4, 5, 6, 7, 8, 9}, 2: {10}, 3: {5, 7, 9}, 4: {6, 8}, 5: {7, 9}, 7: {9}}
	for n := int64(1); n <= 10; n++ {
		gone := under[n]
		r, d := family(t), family(t)
		owner, _ := r.c.Of(n)
		wants(t, fmt.Sprint("Revoke of ", n), r.revoke(owner.Account, n), id{int64(len(gone)), api.OK})
		wants(t, fmt.Sprint("Drop of ", n), d.drop(owner.Account, n), id{int64(len(gone)) + 1, api.OK})
		for other := int64(1); other <= 10; other++ {
			_, e := r.c.Of(other)
			wants(t, fmt.Sprintf("Of(%d) behind Revoke of %d", other, n), e == api.OK, !slices.Contains(gone, other))
			_, e = d.c.Of(other)
			wants(t, fmt.Sprintf("Of(%d) behind Drop of %d", other, n), e == api.OK, other != n && !slices.Contains(gone, other))
		}
		r.same(fmt.Sprint("behind Revoke of ", n))
		d.same(fmt.Sprint("behind Drop of ", n))
		wants(t, "Revoke again", r.revoke(owner.Account, n), id{0, api.OK})
		wants(t, "Drop behind Revoke", r.drop(owner.Account, n), id{1, api.OK})
		wants(t, "Revoke behind Drop", d.revoke(owner.Account, n), id{0, api.ErrNone})
		wants(t, "Drop again", d.drop(owner.Account, n), id{0, api.ErrNone})
		r.same(fmt.Sprint("dropped behind Revoke of ", n))
	}
	// What was revoked may be derived anew, with another id.
	b := family(t)
	b.revoke(0, 1)
	wants(t, "Derive anew", b.derive(0, 1, 3), id{11, api.OK})
	wants(t, "Grant anew", b.grant(0, 1, 1, 3), id{12, api.OK})
	wants(t, "Revoke anew", b.revoke(0, 1), id{2, api.OK})
	b.same("behind the second Revoke")
}

// P6.2: as many as there may be, one derived of the other, go at once.
func TestDeep(t *testing.T) {
	deep := func() both {
		b := newBoth(t)
		b.root(0, 5, 5, every)
		for i := 1; i < maxAccounts*maxCaps; i++ { // account 0 has a root, and hands on one less
			b.grant(i/maxCaps, int64(i), (i+1)/maxCaps%maxAccounts, every)
		}
		wants(t, "Len", b.c.Len(), maxAccounts*maxCaps)
		for account := range maxAccounts {
			wants(t, "Made", b.c.Made(account), maxCaps)
		}
		return b
	}
	b := deep()
	b.same("a long line")
	wants(t, "Over of first and last", flag(b.c.Over(1, 256)), id{1, api.OK})
	wants(t, "Over of last and first", flag(b.c.Over(256, 1)), id{0, api.OK})
	wants(t, "Grant by the last", b.grant(0, 256, 0, 1), id{0, api.ErrFull})
	wants(t, "Revoke in the middle", b.revoke(4, 132), id{124, api.OK})
	b.same("half a line")
	wants(t, "Drop of the first", b.drop(0, 1), id{132, api.OK})
	wants(t, "Len", b.c.Len(), 0)
	b.same("no line")
	b = deep()
	wants(t, "Drop of the last", b.drop(0, 256), id{1, api.OK})
	wants(t, "Revoke of the first", b.revoke(0, 1), id{254, api.OK})
	b.same("the first alone")
	// And as many that are all derived of one.
	b = newBoth(t)
	root := b.root(0, 5, 5, every).n
	for account := 1; account < maxAccounts; account++ {
		of := b.grant(0, root, account, every).n
		for range maxCaps {
			b.grant(account, of, 0, every)
		}
	}
	wants(t, "Len", b.c.Len(), 8+7*maxCaps)
	wants(t, "Revoke of all", b.revoke(0, root), id{7 + 7*maxCaps, api.OK})
	b.same("all revoked")
}

// P6.3: what May is asked is told by one capability that has all these rights.
func TestMay(t *testing.T) {
	b := newBoth(t)
	b.root(1, 3, 4, read)
	b.root(1, 3, 4, write|give)
	b.root(1, 3, 5, run)
	b.root(2, 3, 4, every)
	b.root(1, 4, 3, read|run)
	for rights, want := range map[int]bool{read: true, write: true, give: true, write | give: true, read | write: false, read | give: false, run: false, every: false, read | write | give: false} {
		wants(t, fmt.Sprintf("May(1, 3, 4, %d)", rights), b.c.May(1, 3, 4, rights), want)
	}
	for rights := 1; rights <= every; rights++ {
		wants(t, fmt.Sprintf("May(2, 3, 4, %d)", rights), b.c.May(2, 3, 4, rights), true)
	}
	for _, n := range numbers(16, 32, 8) {
		if noRights(n) {
			wants(t, fmt.Sprintf("May(2, 3, 4, %d)", n), b.c.May(2, 3, 4, n), false)
		}
		if n != 1 && n != 2 {
			wants(t, fmt.Sprintf("May(%d, 3, 4, 1)", n), b.c.May(n, 3, 4, read), false)
		}
		if n != 3 && n != 4 {
			wants(t, fmt.Sprintf("May(1, %d, 4, 1)", n), b.c.May(1, n, 4, read), false)
			wants(t, fmt.Sprintf("May(1, 3, %d, 1)", n), b.c.May(1, 3, n, read), false)
		}
	}
	wants(t, "May(1, 3, 5, 4)", b.c.May(1, 3, 5, run), true)
	wants(t, "May(2, 3, 5, 4)", b.c.May(2, 3, 5, run), false)
	wants(t, "May(1, 4, 3, 5)", b.c.May(1, 4, 3, read|run), true)
	wants(t, "May(1, 4, 4, 1)", b.c.May(1, 4, 4, read), false)
	wants(t, "May(1, 3, 3, 1)", b.c.May(1, 3, 3, read), false)
	b.same("what may be done")
}

// P6.3, P6.4: who was granted a thing may still do it by another capability, and not by one that is gone.
func TestMayBehind(t *testing.T) {
	b := newBoth(t)
	root := b.root(0, 1, 2, every).n
	one, two := b.grant(0, root, 3, read|give).n, b.grant(0, root, 3, read|write).n
	b.grant(3, one, 4, read)
	wants(t, "May of account 3", b.c.May(3, 1, 2, read), true)
	wants(t, "May of account 4", b.c.May(4, 1, 2, read), true)
	wants(t, "Drop", b.drop(3, one), id{2, api.OK})
	wants(t, "May of account 3", b.c.May(3, 1, 2, read), true)
	wants(t, "May of account 4", b.c.May(4, 1, 2, read), false)
	wants(t, "Drop", b.drop(3, two), id{1, api.OK})
	wants(t, "May of account 3", b.c.May(3, 1, 2, read), false)
	wants(t, "May of account 0", b.c.May(0, 1, 2, every), true)
	b.grant(0, root, 3, every)
	wants(t, "Revoke", b.revoke(0, root), id{1, api.OK})
	for account := 1; account < maxAccounts; account++ {
		for rights := 1; rights <= every; rights++ {
			wants(t, "May behind Revoke", b.c.May(account, 1, 2, rights), false)
		}
	}
	wants(t, "May of account 0 behind Revoke", b.c.May(0, 1, 2, every), true)
	wants(t, "Drop", b.drop(0, root), id{1, api.OK})
	wants(t, "May of account 0 behind Drop", b.c.May(0, 1, 2, read), false)
}

// P6.3: Over, of each two of a family, and of what is not there.
func TestOver(t *testing.T) {
	b := family(t)
	wants(t, "Over(1, 9)", flag(b.c.Over(1, 9)), id{1, api.OK})
	wants(t, "Over(9, 1)", flag(b.c.Over(9, 1)), id{0, api.OK})
	wants(t, "Over(3, 9)", flag(b.c.Over(3, 9)), id{1, api.OK})
	wants(t, "Over(4, 9)", flag(b.c.Over(4, 9)), id{0, api.OK})
	wants(t, "Over(5, 6)", flag(b.c.Over(5, 6)), id{0, api.OK})
	wants(t, "Over(2, 3)", flag(b.c.Over(2, 3)), id{0, api.OK})
	wants(t, "Over(1, 10)", flag(b.c.Over(1, 10)), id{0, api.OK})
	for n := int64(1); n <= 10; n++ {
		wants(t, "Over of itself", flag(b.c.Over(n, n)), id{1, api.OK})
		for _, none := range []int64{0, -1, 11, math.MaxInt64, math.MinInt64} {
			wants(t, "Over of none", flag(b.c.Over(none, n)), id{0, api.ErrNone})
			wants(t, "Over of none", flag(b.c.Over(n, none)), id{0, api.ErrNone})
			wants(t, "Over of none", flag(b.c.Over(none, none)), id{0, api.ErrNone})
		}
	}
	b.revoke(0, 3)
	wants(t, "Over of what is gone", flag(b.c.Over(1, 9)), id{0, api.ErrNone})
	wants(t, "Over of what is gone", flag(b.c.Over(9, 9)), id{0, api.ErrNone})
	wants(t, "Over of what is gone", flag(b.c.Over(9, 1)), id{0, api.ErrNone})
	b.same("behind Revoke")
}

// P6.3: All goes by ids, over one account's or all, as often as one likes, as far as one likes.
func TestAll(t *testing.T) {
	b := family(t)
	for account, want := range map[int][]int64{
		0: {1, 2, 3, 8, 9}, 1: {4, 5, 6, 10}, 2: {7}, 3: nil, 7: nil, 8: nil, math.MaxInt: nil,
		-1: {1, 2, 3, 4, 5, 6, 7, 8, 9, 10}, -2: {1, 2, 3, 4, 5, 6, 7, 8, 9, 10}, math.MinInt: {1, 2, 3, 4, 5, 6, 7, 8, 9, 10},
	} {
		all := b.c.All(account)
		for most := range len(want) + 1 {
			var l []int64
			for is := range all {
				if len(l) == most {
					break
				}
				l = append(l, is.Id)
			}
			if !slices.Equal(l, want[:most]) {
				t.Errorf("the first %d of All(%d): %v, should be %v", most, account, l, want[:most])
			}
		}
		n := 0
		for range all {
			for range all {
				n++
			}
		}
		wants(t, fmt.Sprintf("All(%d) within itself", account), n, len(want)*len(want))
	}
}

// P6.3: All tells what is there when it is called, whatever is done behind that.
func TestAllAsItIs(t *testing.T) {
	b := family(t)
	before, own := b.c.All(-1), b.c.All(0)
	want, wantOwn := b.m.all(-1), b.m.all(0)
	b.drop(0, 1)
	b.root(0, 9, 9, 9)
	if l := slices.Collect(before); !slices.Equal(l, want) {
		t.Errorf("All of before: %v, should be %v", l, want)
	}
	if l := slices.Collect(own); !slices.Equal(l, wantOwn) {
		t.Errorf("All(0) of before: %v, should be %v", l, wantOwn)
	}
	// Also while one goes over it.
	b = family(t)
	want = b.m.all(-1)
	var l []api.Cap
	for is := range b.c.All(-1) {
		l = append(l, is)
		if is.Id == 2 {
			b.drop(0, 1)
			b.root(5, 5, 5, 5)
		}
	}
	if !slices.Equal(l, want) {
		t.Errorf("All, changed by the way: %v, should be %v", l, want)
	}
	b.same("behind All")
	for range caps.New().All(-1) {
		t.Error("All of a new table tells something")
	}
}

// P6.3: what many tables of the same calls tell is the same: it does not hang on how a map is gone through.
func TestSameAgain(t *testing.T) {
	var want []api.Cap
	for round := range 20 {
		c := caps.New()
		c.Root(0, 0, 0, every)
		for i := 1; i < maxAccounts*maxCaps; i++ {
			of := int64(1 + i*7%i)
			is, _ := c.Of(of)
			c.Grant(is.Account, of, i%maxAccounts, every)
		}
		c.Drop(0, 9)
		l := slices.Collect(c.All(-1))
		if round == 0 {
			want = l
		}
		if !slices.Equal(l, want) || len(l) < 20 || !slices.IsSortedFunc(l, func(a, b api.Cap) int { return int(a.Id - b.Id) }) {
			t.Fatalf("round %d: %v, should be %v", round, l, want)
		}
	}
}

// P6.3: a clone stands as the table, its next id too, and goes on apart.
func TestClone(t *testing.T) {
	b := family(t)
	b.drop(1, 10)
	q := b.clone()
	if q.c == b.c || q.c == nil {
		t.Fatal("Clone is no other table")
	}
	q.same("the clone")
	b.drop(0, 3)
	b.root(6, 6, 6, 6)
	b.root(6, 6, 6, 7)
	q.same("the clone behind changes of the table")
	wants(t, "the clone's next id", q.derive(0, 2, 1), id{11, api.OK})
	q.revoke(0, 1)
	q.same("the clone behind its own")
	b.same("the table behind the clone's")
	r := q.clone()
	q.drop(0, 1)
	q.drop(0, 2)
	r.same("the clone's clone")
	q.same("the clone")
	// A clone of a table that has none is a table, and goes on with the ids.
	wants(t, "Len", q.c.Len(), 0)
	s := q.clone()
	s.same("the clone of a table that has none")
	wants(t, "its next id", s.root(0, 0, 0, 1), id{12, api.OK})
	n := both{t, caps.New().Clone(), &model{}}
	n.same("the clone of a new table")
	wants(t, "its first id", n.root(0, 0, 0, 1), id{1, api.OK})
}

// P6.1 to P6.3: of no table all is refused, of nil and of a zero one.
func TestNoTable(t *testing.T) {
	var none *caps.Table
	for what, c := range map[string]*caps.Table{"nil": none, "zero": {}, "new": new(caps.Table), "a clone of nil": none.Clone(), "a clone of zero": new(caps.Table).Clone()} {
		for _, n := range numbers(8, 16) {
			refused := id{0, api.ErrNil}
			wants(t, what+": Root", num(c.Root(n, n, n, n)), refused)
			wants(t, what+": Root", num(c.Root(1, 1, 1, 1)), refused)
			wants(t, what+": Derive", num(c.Derive(n, int64(n), n)), refused)
			wants(t, what+": Derive", num(c.Derive(1, 1, n)), refused)
			wants(t, what+": Grant", num(c.Grant(n, int64(n), n, n)), refused)
			wants(t, what+": Grant", num(c.Grant(1, 1, n, 1)), refused)
			wants(t, what+": Revoke", count(c.Revoke(n, int64(n))), refused)
			wants(t, what+": Revoke", count(c.Revoke(1, int64(n))), refused)
			wants(t, what+": Drop", count(c.Drop(n, int64(n))), refused)
			wants(t, what+": Drop", count(c.Drop(1, int64(n))), refused)
			wants(t, what+": Over", flag(c.Over(int64(n), int64(n))), refused)
			wants(t, what+": May", c.May(n, n, n, 1), false)
			wants(t, what+": May", c.May(0, 0, 0, n), false)
			wants(t, what+": Made", c.Made(n), 0)
			is, e := c.Of(int64(n))
			wants(t, what+": Of", is, api.Cap{})
			wants(t, what+": Of", e, api.ErrNil)
			all := c.All(n)
			if all == nil {
				t.Fatalf("%s: All is not there", what)
			}
			for is := range all {
				t.Errorf("%s: All tells %v", what, is)
			}
		}
		wants(t, what+": Len", c.Len(), 0)
		if q := c.Clone(); q != nil {
			t.Errorf("%s: Clone: %v", what, q)
		}
	}
}

// P6.1, P6.2: a call that is refused changes nothing.
func TestRefused(t *testing.T) {
	b := family(t)
	for i := b.c.Made(0); i < maxCaps; i++ {
		b.root(0, 2, i, 1)
	}
	for _, account := range []int{-1, 0, 1, 2, 3, 8} {
		for _, of := range []int64{-1, 0, 1, 4, 7, 99} {
			for _, rights := range []int{-1, 0, 1, 16} {
				if q := b.clone(); q.derive(account, of, rights).e != api.OK {
					q.same("behind Derive")
				}
				if q := b.clone(); q.grant(account, of, account, rights).e != api.OK {
					q.same("behind Grant")
				}
				if q := b.clone(); q.root(account, int(of), 0, rights).e != api.OK {
					q.same("behind Root")
				}
			}
			if q := b.clone(); q.revoke(account, of).e != api.OK {
				q.same("behind Revoke")
			}
			if q := b.clone(); q.drop(account, of).e != api.OK {
				q.same("behind Drop")
			}
		}
	}
}

// P6.4: whether Derive and Grant are refused hangs on the account's own alone, whatever others make.
func TestOwnAlone(t *testing.T) {
	r := rand.New(rand.NewSource(6))
	for range 30 {
		alone, among := caps.New(), caps.New()
		for _, c := range []*caps.Table{alone, among} {
			c.Root(0, 1, 1, every)
			c.Root(1, 1, 1, every)
		}
		one, other := []int64{2}, []int64{2} // account 1's own, by how many it had: the ids are not the same in both
		for range 120 {
			for range r.Intn(4) {
				others := 2 + r.Intn(6)
				among.Grant(0, 1, others, every)
				among.Root(others, 1, 1, every)
				for _, is := range slices.Collect(among.All(others)) {
					among.Grant(others, is.Id, 2+r.Intn(6), every)
					among.Derive(others, is.Id, 1)
				}
			}
			at, rights, to := r.Intn(len(one)), r.Intn(18)-1, r.Intn(10)-1
			var got, want id
			switch r.Intn(5) {
			case 0:
				got, want = count(among.Drop(1, other[at])), count(alone.Drop(1, one[at]))
				got.n, want.n = 0, 0 // what others derived counts, too
				if r.Intn(2) == 0 {
					one, other = append(one, num(alone.Root(1, 1, 1, every)).n), append(other, num(among.Root(1, 1, 1, every)).n)
				}
			case 1, 2:
				got, want = num(among.Derive(1, other[at], rights)), num(alone.Derive(1, one[at], rights))
			default:
				got, want = num(among.Grant(1, other[at], to, rights)), num(alone.Grant(1, one[at], to, rights))
			}
			if got.e != want.e {
				t.Fatalf("among others %v, alone %v", got.e, want.e)
			}
			if got.n > 0 {
				one, other = append(one, want.n), append(other, got.n)
			}
		}
	}
}

// P6.4: a capability's rights are among its parent's, its thing is its parent's.
func (b both) follows(what string) {
	b.t.Helper()
	for is := range b.c.All(-1) {
		if is.Parent == 0 {
			wants(b.t, what+": a root's maker", is.Maker, is.Account)
			continue
		}
		p, e := b.c.Of(is.Parent)
		if e != api.OK || p.Id >= is.Id || !within(is.Rights, p.Rights) || is.Kind != p.Kind || is.Object != p.Object || is.Maker != p.Account {
			b.t.Fatalf("%s: %v of %v, %v", what, is, p, e)
		}
	}
}

// step does to both what some numbers say.
func (b both) step(op, x, y, z byte) {
	b.t.Helper()
	account, to := int(x)%10-1, int(z>>4)%10-1
	of := int64(y) % (b.m.given + 3)
	if s, ok := b.m.find(of); ok && op >= 32 { // mostly whose it is
		account = s.is.Account
	}
	rights := int(z)%17 | int(op)&give
	switch op % 16 {
	case 0, 1:
		b.root(account, int(y)%4-1, int(z>>4)%4-1, rights)
	case 2, 3, 4, 5, 6:
		b.derive(account, of, rights)
	case 7:
		b.revoke(account, of)
	case 8:
		b.drop(account, of)
	default:
		b.grant(account, of, to, rights)
	}
}

// plays does many steps to a table and its model, and to clones of both by the way.
func (b both) plays(steps []byte) {
	b.t.Helper()
	for i := 0; i+3 < len(steps); i += 4 {
		b.step(steps[i], steps[i+1], steps[i+2], steps[i+3])
		if i%400 > 0 {
			continue
		}
		q := b.clone()
		for j := i; j+3 < min(len(steps), i+60); j += 4 {
			q.step(steps[j+3], steps[j], steps[j+1], steps[j+2])
		}
		q.same(fmt.Sprint("the clone of step ", i/4))
		q.follows(fmt.Sprint("the clone of step ", i/4))
		b.same(fmt.Sprint("behind step ", i/4))
		b.follows(fmt.Sprint("behind step ", i/4))
	}
	b.same("at the end")
	b.follows("at the end")
}

// P6.1 to P6.4: whatever is done, the table is as the words say it.
func TestFollows(t *testing.T) {
	r := rand.New(rand.NewSource(7))
	most, full := 0, 0
	for range 40 {
		b := newBoth(t)
		for account := range maxAccounts {
			b.root(account, account%3, account%2, every)
		}
		steps := make([]byte, 2400)
		r.Read(steps)
		b.plays(steps)
		most = max(most, b.c.Len())
		for account := range maxAccounts {
			full = max(full, b.c.Made(account))
		}
	}
	if most < 20 || full < 10 {
		t.Errorf("the steps made no more than %d capabilities, %d by one account", most, full)
	}
}

// FuzzSteps plays any steps on a small table.
func FuzzSteps(f *testing.F) {
	f.Add([]byte{0, 1, 1, 127, 40, 0, 1, 3, 57, 0, 1, 49, 39, 0, 1, 0, 40, 0, 1, 0})
	f.Fuzz(func(t *testing.T, steps []byte) {
		b := newBoth(t)
		b.root(0, 0, 0, every)
		b.plays(steps[:min(len(steps), 1200)])
	})
}
