package ports_test

import (
	"fmt"
	"maps"
	"math"
	"math/rand"
	"slices"
	"strings"
	"testing"

	"steading/api"
	"steading/ports"
)

const (
	maxAccounts = 8
	maxPorts    = 16
	maxRing     = 8
	maxPacket   = 64
	maxTests    = 8
)

// open is an open port as the chapter's words say it.
type open struct {
	filter []api.Test
	ring   []string
	lost   int64
}

// model is ports: of each account its quota, and a place for each port, nil where none is open.
type model [][]*open

func newModel(quotas ...int) model {
	var m model
	for _, q := range quotas {
		m = append(m, make([]*open, q))
	}
	return m
}

func (m model) none(account int) bool { return account < 0 || account > len(m)-1 }

func (m model) quota(account int) int {
	if m.none(account) {
		return 0
	}
	return len(m[account])
}

// port is an open port, or nil.
func (m model) port(account, port int) *open {
	if port < 0 || port >= m.quota(account) {
		return nil
	}
	return m[account][port]
}

// refused is why a port's packets are not told, if they are not.
func (m model) refused(account, port int) api.Errno {
	if m.none(account) {
		return api.ErrArg
	}
	if m.port(account, port) == nil {
		return api.ErrNone
	}
	return api.OK
}

// may: may that be a filter?
func may(f []api.Test) bool {
	for _, t := range f {
		for _, n := range [][2]int{{t.At, maxPacket - 1}, {t.Mask, 255}, {t.Value, 255}} {
			if n[0] < 0 || n[0] > n[1] {
				return false
			}
		}
	}
	return len(f) <= maxTests
}

// passes: does the packet pass, by the words themselves?
func passes(f []api.Test, packet []byte) bool {
	for _, t := range f {
		if len(packet) <= t.At || packet[t.At]&byte(t.Mask) != byte(t.Value) {
			return false
		}
	}
	return true
}

func (m model) claim(account int, f []api.Test) (int, api.Errno) {
	if m.none(account) || !may(f) {
		return 0, api.ErrArg
	}
	free := slices.Index(m[account], nil)
	if free < 0 {
		return 0, api.ErrFull
	}
	m[account][free] = &open{filter: slices.Clone(f)}
	return free, api.OK
}

func (m model) close(account, port int) (int, api.Errno) {
	if e := m.refused(account, port); e != api.OK {
		return 0, e
	}
	n := len(m[account][port].ring)
	m[account][port] = nil
	return n, api.OK
}

func (m model) come(packet []byte) ([]api.Came, api.Errno) {
	if len(packet) > maxPacket {
		return nil, api.ErrLong
	}
	var came []api.Came
	for account, l := range m {
		for port, o := range l {
			if o == nil || len(packet) == 0 || int(packet[0]) != account || !passes(o.filter, packet) {
				continue
			}
			lost := len(o.ring) == maxRing
			if lost {
				o.lost++
			} else {
				o.ring = append(o.ring, string(packet))
			}
			came = append(came, api.Came{Port: port, Lost: lost})
		}
	}
	return came, api.OK
}

func (m model) look(account, port int) (string, api.Errno) {
	if e := m.refused(account, port); e != api.OK {
		return "", e
	}
	if ring := m[account][port].ring; len(ring) > 0 {
		return ring[0], api.OK
	}
	return "", api.ErrNone
}

func (m model) take(account, port int) (string, api.Errno) {
	b, e := m.look(account, port)
	if e == api.OK {
		m[account][port].ring = m[account][port].ring[1:]
	}
	return b, e
}

func (m model) copy() model {
	o := make(model, len(m))
	for account, l := range m {
		for _, p := range l {
			if p != nil {
				p = &open{slices.Clone(p.filter), slices.Clone(p.ring), p.lost}
			}
			o[account] = append(o[account], p)
		}
	}
	return o
}

// text is all that stands in a model.
func (m model) text() string {
	var s strings.Builder
	for _, l := range m {
		s.WriteString("account:")
		for port, p := range l {
			fmt.Fprintf(&s, " port %d:", port)
			if p != nil {
				fmt.Fprintf(&s, " %v, %q, %d;", p.filter, p.ring, p.lost)
			}
		}
		s.WriteString("\n")
	}
	return s.String()
}

// numbers are around what ports may be numbered, and far from it.
func numbers() []int {
	l := []int{math.MinInt, math.MinInt + 1, math.MinInt32, -256, -1, 17, 255, 256, 257, 1 << 16, math.MaxInt32, 1 << 32, 1<<32 + 1, math.MaxInt - 1, math.MaxInt}
	for n := range maxPorts + 1 {
		l = append(l, n)
	}
	return l
}

// wants fails if an answer is not that one.
func wants(t *testing.T, what string, got, want any) {
	t.Helper()
	if got != want {
		t.Errorf("%s: %v, should be %v", what, got, want)
	}
}

// wantsBytes fails if an answer is not these bytes, said with that.
func wantsBytes(t *testing.T, what string, got []byte, e api.Errno, want string, wantE api.Errno) {
	t.Helper()
	if string(got) != want || e != wantE || e != api.OK && got != nil {
		t.Errorf("%s: % x, %v; should be % x, %v", what, got, e, want, wantE)
	}
}

// both is ports and their model.
type both struct {
	t *testing.T
	p *ports.Ports
	m model
}

// made is ports with these quotas, and their model.
func made(t *testing.T, quotas ...int) both {
	t.Helper()
	given := slices.Clone(quotas)
	p, e := ports.New(quotas...)
	if p == nil || e != api.OK {
		t.Fatalf("New(%v): %v, %v", quotas, p, e)
	}
	if !slices.Equal(given, quotas) {
		t.Errorf("New(%v) changes the quotas to %v", given, quotas)
	}
	return both{t, p, newModel(quotas...)}
}

func (b both) claim(account int, f ...api.Test) (int, api.Errno) {
	b.t.Helper()
	given := slices.Clone(f)
	n, e := b.p.Claim(account, f)
	want, wantE := b.m.claim(account, f)
	wants(b.t, fmt.Sprintf("Claim(%d, %v)", account, f), [2]any{n, e}, [2]any{want, wantE})
	if !slices.Equal(given, f) {
		b.t.Errorf("Claim(%d, %v): the filter is changed to %v", account, given, f)
	}
	return n, e
}

func (b both) close(account, port int) (int, api.Errno) {
	b.t.Helper()
	n, e := b.p.Close(account, port)
	want, wantE := b.m.close(account, port)
	wants(b.t, fmt.Sprintf("Close(%d, %d)", account, port), [2]any{n, e}, [2]any{want, wantE})
	return n, e
}

func (b both) come(packet ...byte) ([]api.Came, api.Errno) {
	b.t.Helper()
	given := string(packet)
	l, e := b.p.Come(packet)
	want, wantE := b.m.come(packet)
	if !slices.Equal(l, want) || e != wantE || e != api.OK && l != nil {
		b.t.Errorf("Come(% x): %v, %v; should be %v, %v", packet, l, e, want, wantE)
	}
	wants(b.t, "the packet that came", string(packet), given)
	return l, e
}

func (b both) take(account, port int) ([]byte, api.Errno) {
	b.t.Helper()
	got, e := b.p.Take(account, port)
	want, wantE := b.m.take(account, port)
	wantsBytes(b.t, fmt.Sprintf("Take(%d, %d)", account, port), got, e, want, wantE)
	return got, e
}

// copy is both of a copy.
func (b both) copy() both {
	b.t.Helper()
	p := b.p.Copy()
	if p == nil || p == b.p {
		b.t.Fatal("Copy is not another one")
	}
	return both{b.t, p, b.m.copy()}
}

// port holds what is told of one port, open or not, against the model.
func (b both) port(what string, account, port int) {
	t, p, m := b.t, b.p, b.m
	t.Helper()
	what = fmt.Sprintf("%s: of port %d of account %d: ", what, port, account)
	want := m.port(account, port)
	is := want != nil
	if !is {
		want = &open{}
	}
	wants(t, what+"Len", p.Len(account, port), len(want.ring))
	wants(t, what+"Lost", p.Lost(account, port), want.lost)
	f, ok := p.Filter(account, port)
	if ok != is || !slices.Equal(f, want.filter) || !ok && f != nil {
		t.Errorf("%sFilter: %v, %v; should be %v, %v", what, f, ok, want.filter, is)
	}
	var ring []string
	for place, packet := range p.Ring(account, port) {
		wants(t, what+"Ring's place", place, len(ring))
		ring = append(ring, string(packet))
	}
	if !slices.Equal(ring, want.ring) {
		t.Errorf("%sRing: %q, should be %q", what, ring, want.ring)
	}
	got, e := p.Look(account, port)
	first, wantE := m.look(account, port)
	wantsBytes(t, what+"Look", got, e, first, wantE)
}

// same holds all that ports tell against their model.
func (b both) same(what string) {
	t, p, m := b.t, b.p, b.m
	t.Helper()
	for account := -1; account <= maxAccounts; account++ {
		wants(t, fmt.Sprintf("%s: Quota(%d)", what, account), p.Quota(account), m.quota(account))
		var numbers []int
		for port := -1; port <= m.quota(account)+1; port++ {
			b.port(what, account, port)
			if m.port(account, port) != nil {
				numbers = append(numbers, port)
			}
		}
		if l := p.Open(account); !slices.Equal(l, numbers) {
			t.Errorf("%s: Open(%d): %v, should be %v", what, account, l, numbers)
		}
	}
	if t.Failed() {
		t.FailNow()
	}
}

// isSame fails unless both are the same just if that is wanted, whichever is named first.
func isSame(t *testing.T, what string, a, b *ports.Ports, want bool) {
	t.Helper()
	wants(t, "Same: "+what, ports.Same(a, b), want)
	wants(t, "Same, the other way: "+what, ports.Same(b, a), want)
}

// byteIs is the test that a byte is that, wholly.
func byteIs(at, value int) api.Test { return api.Test{At: at, Mask: 255, Value: value} }

// some is accounts with three, no, and two ports; of the first one the first and last are open, of the last one the second; in the rings are two, no, and eight packets, of which the first one was the third that came.
func some(t *testing.T) both {
	t.Helper()
	b := made(t, 3, 0, 2)
	b.claim(0)
	b.claim(0)
	b.claim(0, byteIs(1, 7), api.Test{At: 2})
	b.close(0, 1)
	b.claim(2)
	b.claim(2, api.Test{Mask: 2, Value: 2})
	b.close(2, 0)
	b.come(0)
	b.come(0, 7)
	for n := range 9 {
		b.come(2, byte(n))
	}
	b.take(2, 1)
	b.take(2, 1)
	b.come(2, 100)
	b.come(2, 101)
	return b
}

// P12.1 to P12.3: the chapter's examples.
func TestExamples(t *testing.T) {
	for _, quotas := range [][]int{{9, 8}, {}} {
		if p, e := ports.New(quotas...); p != nil || e != api.ErrArg {
			t.Errorf("New(%v): %v, %v", quotas, p, e)
		}
	}
	b := made(t, 2, 1)
	for _, want := range []struct {
		account, port int
		e             api.Errno
	}{{0, 0, api.OK}, {0, 1, api.OK}, {0, 0, api.ErrFull}, {2, 0, api.ErrArg}} {
		n, e := b.claim(want.account)
		wants(t, "Claim", [2]any{n, e}, [2]any{want.port, want.e})
	}
	came := func(want string, packet ...byte) {
		t.Helper()
		l, e := b.come(packet...)
		wants(t, fmt.Sprintf("Come(% x)", packet), fmt.Sprint(l, e), want)
	}
	came("[{0 false} {1 false}] error 0", 0, 7)
	got, e := b.take(0, 0)
	wantsBytes(t, "Take(0, 0)", got, e, "\x00\x07", api.OK)
	got, e = b.take(0, 0)
	wantsBytes(t, "Take(0, 0) again", got, e, "", api.ErrNone)
	wants(t, "Len(0, 1)", b.p.Len(0, 1), 1)
	n, e := b.close(0, 0)
	wants(t, "Close(0, 0)", [2]any{n, e}, [2]any{0, api.OK})
	came("[] error 0", 1, 5)
	came("[] error 0")
	came("[] error 0", 9)
	for range 7 {
		came("[{1 false}] error 0", 0)
	}
	came("[{1 true}] error 0", 0)
	wants(t, "Lost(0, 1)", b.p.Lost(0, 1), int64(1))
	b.same("at the end")
}

// P12.1: quotas that may be, among them the greatest ones.
func TestNew(t *testing.T) {
	for _, quotas := range [][]int{{0}, {1}, {maxPorts}, {0, maxPorts}, {maxPorts, 0}, {9, 7}, {7, 0, 9}, make([]int, maxAccounts), {2, 2, 2, 2, 2, 2, 2, 2}, {0, 0, 0, 0, 0, 0, 0, maxPorts}, {1, 2, 3, 4, 5, 1, 0, 0}} {
		b := made(t, quotas...)
		b.same(fmt.Sprint("New of ", quotas))
		for account, q := range quotas {
			for port := range q {
				n, e := b.claim(account)
				wants(t, "Claim within the quota", [2]any{n, e}, [2]any{port, api.OK})
			}
			_, e := b.claim(account)
			wants(t, "Claim one past the quota", e, api.ErrFull)
		}
		b.same(fmt.Sprint("all open, of ", quotas))
	}
}

// P12.1: quotas that may not be, sums that go round too.
func TestNoNew(t *testing.T) {
	huge := slices.Repeat([]int{math.MaxInt}, maxAccounts)
	for _, quotas := range [][]int{
		nil, {}, {-1}, {math.MinInt}, {0, -1}, {-1, 0}, {17}, {16, 1}, {1, 16}, {17, -1}, {-1, 17}, {9, 8}, {16, 16, -16}, {2, 2, 2, 2, 2, 2, 2, 3}, {3, 2, 2, 2, 2, 2, 2, 2},
		make([]int, maxAccounts+1), make([]int, 100), {2, 2, 2, 2, 2, 2, 2, 2, 0}, {0, 0, 0, 0, 0, 0, 0, 0, -1}, append(huge, 0), huge,
		{math.MaxInt}, {math.MaxInt, math.MaxInt, 2}, {math.MaxInt, math.MaxInt, 3}, {1, math.MaxInt, math.MaxInt, 1}, {16, math.MaxInt, math.MaxInt, 2}, {1 << 62, 1 << 62, 1 << 62, 1 << 62}, {1 << 32}, {math.MinInt, math.MinInt}, {math.MinInt, math.MaxInt, 1, 1},
	} {
		if p, e := ports.New(quotas...); p != nil || e != api.ErrArg {
			t.Errorf("New(%v): %v, %v", quotas, p, e)
		}
	}
}

// P12.1: the lowest free port is opened, anew with an empty ring, its filter, and nothing lost.
func TestClaim(t *testing.T) {
	for closed := range 1 << 5 {
		b := made(t, 1, 5, 2)
		b.claim(0)
		for port := range 5 {
			b.claim(1, byteIs(1, port))
			for n := range 9 + port {
				b.come(1, byte(port), byte(n))
			}
			for range port {
				b.take(1, port)
			}
		}
		for port := range 5 {
			if closed>>port&1 == 1 {
				n, e := b.close(1, port)
				wants(t, "Close", [2]any{n, e}, [2]any{8 - port, api.OK})
				_, e = b.close(1, port)
				wants(t, "Close again", e, api.ErrNone)
			}
		}
		b.same("behind Close")
		for port := range 5 {
			if closed>>port&1 == 1 {
				n, e := b.claim(1, api.Test{At: 1, Mask: 1, Value: port & 1}, api.Test{At: 2})
				wants(t, "Claim", [2]any{n, e}, [2]any{port, api.OK})
				wants(t, "Lost", b.p.Lost(1, port), int64(0))
				wants(t, "Len", b.p.Len(1, port), 0)
			}
		}
		_, e := b.claim(1)
		wants(t, "Claim of one more", e, api.ErrFull)
		b.same("behind Claim")
		b.come(1, 2, 3)
		b.come(1, 1)
		b.same("behind Come")
	}
}

// noFilters are filters that may not be.
func noFilters() [][]api.Test {
	l := [][]api.Test{make([]api.Test, maxTests+1), make([]api.Test, 1000)}
	for _, n := range []int{math.MinInt, -1, 256, 1 << 32, math.MaxInt} {
		for _, t := range []api.Test{{At: n}, {Mask: n}, {Value: n}} {
			l = append(l, []api.Test{t}, []api.Test{t, {}}, []api.Test{{}, t})
		}
	}
	return append(l, []api.Test{{At: maxPacket}})
}

// P12.1: what may not be opened, by the first thing that is wrong, changes nothing.
func TestNoClaim(t *testing.T) {
	b := some(t)
	b.claim(0)
	for _, account := range numbers() {
		there := account >= 0 && account <= 2
		for _, f := range noFilters() {
			_, e := b.claim(account, f...)
			wants(t, fmt.Sprintf("Claim(%d, %v)", account, f), e, api.ErrArg)
		}
		if !there {
			_, e := b.claim(account)
			wants(t, fmt.Sprintf("Claim(%d)", account), e, api.ErrArg)
		}
	}
	for _, account := range []int{0, 1} {
		for _, f := range [][]api.Test{nil, {}, {byteIs(63, 255)}} {
			_, e := b.claim(account, f...)
			wants(t, fmt.Sprintf("Claim(%d, %v)", account, f), e, api.ErrFull)
		}
	}
	b.same("behind what is refused")
}

// P12.1 to P12.3: a filter is kept as it is, test by test: with as many tests as may be, in any order, and though no packet passes it.
func TestFilters(t *testing.T) {
	b := made(t, 6)
	never := []api.Test{{At: 3, Mask: 1, Value: 2}}
	many := []api.Test{{}, {}, byteIs(63, 255), {At: 5, Mask: 3, Value: 1}, {At: 5, Mask: 5, Value: 1}, {At: 1}, {At: 1, Mask: 128}, byteIs(0, 0)}
	for _, f := range [][]api.Test{nil, {}, never, many, {byteIs(0, 1)}, {byteIs(1, 4), byteIs(0, 0)}} {
		_, e := b.claim(0, f...)
		wants(t, fmt.Sprint("Claim of ", f), e, api.OK)
	}
	b.same("behind Claim")
	long := make([]byte, maxPacket)
	long[5], long[63] = 1, 255
	for _, packet := range [][]byte{long, long[:63], {0}, {0, 4}, {0, 4, 0, 2}, {1}} {
		b.come(packet...)
	}
	b.same("behind Come")
	if l, _ := b.p.Come(long); fmt.Sprint(l) != "[{0 false} {1 false} {3 false}]" {
		t.Errorf("Come of 64 bytes: %v", l)
	}
}

// P12.1, P12.2: accounts and ports that there are not.
func TestNoPort(t *testing.T) {
	b := some(t)
	for _, account := range numbers() {
		for _, port := range numbers() {
			want := b.m.refused(account, port)
			if want == api.OK {
				continue
			}
			if account >= 0 && account <= 2 {
				wants(t, "what is refused", want, api.ErrNone)
			} else {
				wants(t, "what is refused", want, api.ErrArg)
			}
			b.close(account, port)
			b.take(account, port)
			b.port("one that there is not", account, port)
		}
		wants(t, fmt.Sprintf("Quota(%d)", account), b.p.Quota(account), b.m.quota(account))
		if l := b.p.Open(account); b.m.none(account) && len(l) > 0 {
			t.Errorf("Open(%d): %v", account, l)
		}
	}
	b.same("behind what is refused")
}

// P12.2: a packet comes at its home's ports alone, whose filters it passes.
func TestCome(t *testing.T) {
	b := made(t, 2, 2, 2, 2, 2, 2, 2, 2)
	for account := range maxAccounts {
		b.claim(account, api.Test{At: 1, Mask: 1, Value: 1})
		b.claim(account, api.Test{At: 1, Mask: 2, Value: 2})
	}
	for first := range 256 {
		for second := range 4 {
			l, _ := b.come(byte(first), byte(second))
			want := [][]api.Came{nil, {{Port: 0}}, {{Port: 1}}, {{Port: 0}, {Port: 1}}}[second]
			if first >= maxAccounts {
				want = nil
			}
			if !slices.Equal(l, want) {
				t.Errorf("Come(%d %d): %v, should be %v", first, second, l, want)
			}
		}
	}
	b.same("behind Come")
	l, e := b.come()
	wants(t, "Come of no bytes", fmt.Sprint(l, e), "[] error 0")
	l, e = b.p.Come(nil)
	wants(t, "Come of nil", fmt.Sprint(l, e), "[] error 0")
	b.same("behind Come of no bytes")
}

// P12.2: fewer accounts than there may be: what is another's comes nowhere.
func TestComeNowhere(t *testing.T) {
	for accounts := 1; accounts <= maxAccounts; accounts++ {
		b := made(t, slices.Repeat([]int{2}, accounts)...)
		for account := range accounts {
			b.claim(account)
		}
		for first := range 256 {
			l, e := b.come(byte(first))
			wants(t, fmt.Sprintf("%d accounts: Come(%d)", accounts, first), [2]any{len(l) > 0, e}, [2]any{first < accounts, api.OK})
		}
		b.same(fmt.Sprint(accounts, " accounts"))
	}
}

// P12.2: packets of each length, the greatest one and longer ones too.
func TestComeLong(t *testing.T) {
	b := made(t, 1, 1)
	b.claim(0)
	for _, first := range []byte{0, 1, 5, 255} {
		for n := range 70 {
			packet := slices.Repeat([]byte{byte(n)}, n)
			if n > 0 {
				packet[0] = first
			}
			l, e := b.come(packet...)
			want := api.OK
			if n > maxPacket {
				want = api.ErrLong
			}
			wants(t, fmt.Sprintf("Come of %d bytes", n), [2]any{e, len(l)}, [2]any{want, b.came(n, first)})
			if first == 0 && n > 0 && n <= maxPacket {
				got, _ := b.take(0, 0)
				wants(t, fmt.Sprintf("Take of %d bytes", n), len(got), n)
			}
		}
		_, e := b.come(slices.Repeat([]byte{first}, 100000)...)
		wants(t, "Come of many bytes", e, api.ErrLong)
	}
	b.same("at the end")
}

// came is at how many ports a packet of so many bytes with that first one comes, where account 0 alone has one.
func (b both) came(n int, first byte) int {
	if n > 0 && n <= maxPacket && first == 0 {
		return 1
	}
	return 0
}

// P12.2, P12.5: a ring takes eight, wherever it begins; the others are lost; they are taken in the order in which they came.
func TestRing(t *testing.T) {
	for ahead := range 20 {
		b := made(t, 0, 3)
		b.claim(1)
		b.claim(1, byteIs(1, 9))
		b.claim(1)
		for n := range ahead {
			b.come(1, byte(n), 200)
			b.take(1, 0)
			if n%3 > 0 {
				b.take(1, 2)
			}
		}
		for n := range 11 {
			l, _ := b.come(1, byte(n), byte(ahead))
			if len(l) == 0 || l[0].Port != 0 || l[0].Lost != (n >= maxRing) {
				t.Errorf("Come of packet %d: %v", n, l)
			}
			b.same(fmt.Sprint("behind packet ", n))
		}
		wants(t, "Len", b.p.Len(1, 0), maxRing)
		wants(t, "Lost", b.p.Lost(1, 0), int64(3))
		for n := range maxRing {
			got, e := b.p.Look(1, 0)
			wantsBytes(t, "Look", got, e, string([]byte{1, byte(n), byte(ahead)}), api.OK)
			got, e = b.take(1, 0)
			wantsBytes(t, "Take", got, e, string([]byte{1, byte(n), byte(ahead)}), api.OK)
			b.same(fmt.Sprint("behind Take of packet ", n))
			if n == 3 {
				b.come(1, 77)
				b.come(1, 78, 9)
			}
		}
		wants(t, "Len, with two that came late", b.p.Len(1, 0), 2)
		wants(t, "Lost is not forgotten", b.p.Lost(1, 0), int64(3))
	}
}

// P12.3: Ring tells what is there when one begins to go, whatever is done by the way; it may be left, and gone through again.
func TestRingWhile(t *testing.T) {
	b := some(t)
	all := b.p.Ring(2, 1)
	told := func() string {
		var l []string
		for place, packet := range all {
			l = append(l, fmt.Sprintf("%d:%x", place, packet))
		}
		return strings.Join(l, " ")
	}
	was := "0:0202 1:0203 2:0204 3:0205 4:0206 5:0207 6:0264 7:0265"
	wants(t, "Ring", told(), was)
	wants(t, "Ring again", told(), was)
	for leave := range 9 {
		n := 0
		for range all {
			if n == leave {
				break
			}
			n++
		}
		wants(t, "how many were told, till it was left", n, min(leave, 8))
	}
	wants(t, "Ring, that was left", told(), was)
	var l []string
	for place, packet := range all {
		l = append(l, fmt.Sprintf("%d:%x", place, packet))
		b.take(2, 1)
		b.come(2, byte(50+place))
		b.come(2, byte(60+place))
		clear(packet)
		if place == 5 {
			b.close(2, 1)
			b.claim(2)
			b.claim(2)
			b.come(2, 99)
		}
	}
	wants(t, "Ring, while much is done", strings.Join(l, " "), was)
	wants(t, "Ring, when all that is done", told(), "0:0242 1:0239 2:0243")
	b.close(2, 1)
	wants(t, "Ring of what is closed", told(), "")
	closed := b.p.Ring(0, 1)
	b.claim(0)
	b.come(0, 3)
	n := 0
	for place, packet := range closed {
		wants(t, "Ring of what was opened then", fmt.Sprint(place, packet), "0 [0 3]")
		n++
	}
	wants(t, "how many", n, 1)
	b.same("at the end")
}

// P12.3: one Ring within another one goes on apart.
func TestRingWithin(t *testing.T) {
	b := some(t)
	all := b.p.Ring(2, 1)
	n := 0
	for place := range all {
		for inner := range all {
			if inner > place {
				break
			}
			n++
		}
	}
	wants(t, "how many", n, 36)
}

// P12.3: each byte that may be a home, alone and ahead of others.
func TestHome(t *testing.T) {
	for first := range 256 {
		for _, n := range []int{1, 2, maxPacket, maxPacket + 1, 1000} {
			packet := slices.Repeat([]byte{byte(first + 1)}, n)
			packet[0] = byte(first)
			home, ok := ports.Home(packet)
			want := [2]any{0, false}
			if first < maxAccounts {
				want = [2]any{first, true}
			}
			wants(t, fmt.Sprintf("Home of %d bytes that begin with %d", n, first), [2]any{home, ok}, want)
		}
	}
	for _, packet := range [][]byte{nil, {}, make([]byte, 0, 9)} {
		home, ok := ports.Home(packet)
		wants(t, "Home of no bytes", [2]any{home, ok}, [2]any{0, false})
	}
}

// P12.4: a copy is the same, and goes on apart.
func TestCopy(t *testing.T) {
	b := some(t)
	o := b.copy()
	o.same("the copy")
	isSame(t, "a copy", b.p, o.p, true)
	o.come(2, 30)
	o.same("the copy, where a packet was lost")
	b.same("what it was copied from")
	isSame(t, "where a packet was lost", b.p, o.p, false)
	o.take(2, 1)
	o.come(2, 31)
	o.come(0, 7, 1)
	o.close(0, 0)
	o.claim(0, byteIs(3, 3))
	o.claim(0)
	b.same("what it was copied from, at last")
	b.take(0, 0)
	b.take(2, 1)
	b.come(2, 32)
	b.claim(2)
	b.close(0, 2)
	o.same("the copy, at last")
	b.same("at the end")
	again := b.copy().copy()
	again.same("a copy of a copy")
	isSame(t, "a copy of a copy", b.p, again.p, true)
}

// kinds are ports no two of which are the same, by what is unlike in them.
func kinds(t *testing.T) map[string]both {
	f := []api.Test{byteIs(1, 5), {At: 2}}
	l := map[string]both{
		"no port": made(t, 3, 2), "other quotas": made(t, 2, 3), "a greater quota": made(t, 4, 2), "one account": made(t, 3), "one account more": made(t, 3, 2, 0), "no ports at all": made(t, 0), "no ports for two": made(t, 0, 0),
		"a filter": made(t, 3, 2), "the tests the other way": made(t, 3, 2), "a test less": made(t, 3, 2), "no tests": made(t, 3, 2), "a test that says nothing": made(t, 3, 2), "another value": made(t, 3, 2), "another mask": made(t, 3, 2), "another place": made(t, 3, 2),
		"another account": made(t, 3, 2), "another port": made(t, 3, 2), "two ports": made(t, 3, 2),
	}
	l["a filter"].claim(0, f...)
	l["the tests the other way"].claim(0, f[1], f[0])
	l["a test less"].claim(0, f[0])
	l["no tests"].claim(0)
	l["a test that says nothing"].claim(0, api.Test{})
	l["another value"].claim(0, byteIs(1, 4), f[1])
	l["another mask"].claim(0, api.Test{At: 1, Mask: 127, Value: 5}, f[1])
	l["another place"].claim(0, byteIs(2, 5), f[1])
	l["another account"].claim(1, f...)
	for range 2 {
		l["another port"].claim(0, f...)
		l["two ports"].claim(0, f...)
	}
	l["another port"].close(0, 0)
	came := map[string]string{
		"one packet": "a", "another packet": "b", "a longer packet": "aa", "a packet that ends with a nought": "a\x00", "a packet of one byte": "",
		"two packets": "a,b", "two packets the other way": "b,a", "two alike": "a,a", "eight packets": "a,b,c,d,e,f,g,h", "what is lost": "a,b,c,d,e,f,g,h,i",
	}
	for what, packets := range came {
		b := made(t, 3, 2)
		b.claim(0)
		for packet := range strings.SplitSeq(packets, ",") {
			b.come(append([]byte{0}, packet...)...)
		}
		l[what] = b
	}
	return l
}

// P12.4: the same in all, or not: a thing at a time.
func TestSame(t *testing.T) {
	one, two := kinds(t), kinds(t)
	for what, a := range one {
		for other, b := range two {
			isSame(t, what+", "+other, a.p, b.p, what == other)
		}
	}
	for what, b := range one {
		b.same(what)
	}
}

// P12.4: where a ring stands in itself, and what was there once, tells nothing.
func TestSameAgain(t *testing.T) {
	for ahead := range 20 {
		a, b := made(t, 2), made(t, 2)
		a.claim(0)
		b.claim(0, byteIs(1, 1))
		b.claim(0)
		b.come(0, 1)
		b.close(0, 0)
		b.claim(0)
		b.close(0, 1)
		for range ahead {
			b.come(0, 9)
			b.take(0, 0)
		}
		isSame(t, "with empty rings", a.p, b.p, true)
		for n := range maxRing + 2 {
			a.come(0, byte(n))
			isSame(t, "with one packet more", a.p, b.p, false)
			b.come(0, byte(n))
			isSame(t, "with as many packets", a.p, b.p, true)
		}
		for range maxRing {
			a.take(0, 0)
			isSame(t, "with one packet less", a.p, b.p, false)
			b.take(0, 0)
			isSame(t, "with as many packets again", a.p, b.p, true)
		}
	}
}

// noPorts are ports that are not there.
func noPorts() map[string]*ports.Ports {
	var none *ports.Ports
	refused, _ := ports.New(17)
	return map[string]*ports.Ports{"nil": none, "zero": {}, "new": new(ports.Ports), "refused": refused, "a copy of nil": none.Copy(), "a copy of a zero one": new(ports.Ports).Copy()}
}

// P12.1 to P12.4: ports that are not there tell nothing, and do nothing.
func TestNil(t *testing.T) {
	for what, p := range noPorts() {
		for _, account := range numbers() {
			for _, port := range []int{math.MinInt, -1, 0, 1, math.MaxInt} {
				nothing(t, fmt.Sprintf("%s: of %d and %d: ", what, account, port), p, account, port)
			}
			for _, f := range append(noFilters(), nil, []api.Test{{}}) {
				n, e := p.Claim(account, f)
				wants(t, what+": Claim", [2]any{n, e}, [2]any{0, api.ErrNil})
			}
		}
		for _, packet := range [][]byte{nil, {0}, {9}, make([]byte, maxPacket), make([]byte, maxPacket+1)} {
			if l, e := p.Come(packet); l != nil || e != api.ErrNil {
				t.Errorf("%s: Come of %d bytes: %v, %v", what, len(packet), l, e)
			}
		}
		if p.Copy() != nil {
			t.Errorf("%s: Copy is there", what)
		}
		for other, o := range noPorts() {
			isSame(t, what+", "+other, p, o, true)
		}
		for _, quotas := range [][]int{{0}, make([]int, maxAccounts), {2, 1}} {
			isSame(t, what+", and one that is there", p, made(t, quotas...).p, false)
		}
	}
}

// nothing fails unless ports that are not there tell nothing of an account and a port.
func nothing(t *testing.T, what string, p *ports.Ports, account, port int) {
	t.Helper()
	n, e := p.Close(account, port)
	wants(t, what+"Close", [2]any{n, e}, [2]any{0, api.ErrNil})
	b, e := p.Take(account, port)
	wantsBytes(t, what+"Take", b, e, "", api.ErrNil)
	b, e = p.Look(account, port)
	wantsBytes(t, what+"Look", b, e, "", api.ErrNil)
	wants(t, what+"Len", p.Len(account, port), 0)
	wants(t, what+"Lost", p.Lost(account, port), int64(0))
	wants(t, what+"Quota", p.Quota(account), 0)
	if f, ok := p.Filter(account, port); f != nil || ok {
		t.Errorf("%sFilter: %v, %v", what, f, ok)
	}
	if l := p.Open(account); l != nil {
		t.Errorf("%sOpen: %v", what, l)
	}
	all := p.Ring(account, port)
	if all == nil {
		t.Fatal(what + "Ring is not there")
	}
	for place, packet := range all {
		t.Error(what+"Ring tells", place, packet)
	}
}

// P12.1 to P12.4: what is handed in is not kept, nor what stands behind it changed, and each answer is memory of its own, spare room included.
func TestMemory(t *testing.T) {
	quotas := []int{3, 0, 2, 9, 9}
	b := made(t, quotas[:3]...)
	wants(t, "the quotas, and behind them", fmt.Sprint(quotas), "[3 0 2 9 9]")
	clear(quotas)
	f := []api.Test{byteIs(1, 7), {At: 2}, byteIs(9, 9)}
	b.claim(0, f[:2]...)
	wants(t, "the filter, and behind it", fmt.Sprint(f), "[{1 255 7} {2 0 0} {9 255 9}]")
	clear(f)
	b.same("when the filter is changed")
	packet := []byte{0, 7, 1, 55, 66}
	for range 3 {
		b.come(packet[:3]...)
	}
	wants(t, "the packet, and behind it", fmt.Sprint(packet), "[0 7 1 55 66]")
	clear(packet)
	b.same("when the packet is changed")
	o := b.copy()
	one, _ := b.p.Look(0, 0)
	two, _ := b.p.Look(0, 0)
	clear(one[:cap(one)])
	wants(t, "Look, when another answer is changed", string(two), "\x00\x07\x01")
	taken, _ := b.take(0, 0)
	clear(taken[:cap(taken)])
	g, _ := b.p.Filter(0, 0)
	h, _ := b.p.Filter(0, 0)
	clear(g[:cap(g)])
	wants(t, "Filter, when another answer is changed", fmt.Sprint(h), "[{1 255 7} {2 0 0}]")
	for _, told := range b.p.Ring(0, 0) {
		clear(told[:cap(told)])
	}
	numbers := b.p.Open(0)
	clear(numbers[:cap(numbers)])
	b.same("when all answers are changed")
	o.same("a copy, when all answers are changed")
	o.take(0, 0)
	g, _ = o.p.Filter(0, 0)
	clear(g[:cap(g)])
	for _, told := range o.p.Ring(0, 0) {
		clear(told[:cap(told)])
	}
	o.same("a copy, whose answers are changed")
	b.same("when a copy's answers are changed")
}

// few are bytes of which packets and filters are made, so that many pass.
const few = 3

// filterOf is a filter that a number says, now and then one that may not be.
func filterOf(n byte) []api.Test {
	switch {
	case n > 250:
		return []api.Test{{At: 64 * int(n-250)}}
	case n%4 == 0:
		return nil
	case n%4 == 1:
		return []api.Test{byteIs(1, int(n/4)%few)}
	case n%4 == 2:
		return []api.Test{{At: 2, Mask: 1, Value: int(n/4) % 2}, {At: 1, Mask: 2}}
	}
	return []api.Test{{At: int(n/4) % 4}}
}

// packetOf is a packet that two numbers say, now and then one that is too long.
func packetOf(x, y byte) []byte {
	if x > 252 {
		return make([]byte, maxPacket+int(x-253))
	}
	packet := []byte{x % (few + 1), y % few, y / few, y, x}
	return packet[:int(x/4)%6]
}

// step does to both, of one account, what some numbers say.
func (b both) step(account int, op, x, y byte) {
	b.t.Helper()
	port := int(x)%(b.m.quota(account)+2) - 1
	switch op % 8 {
	case 0, 1:
		b.claim(account, filterOf(y)...)
	case 2:
		b.close(account, port)
	case 3, 4:
		b.take(account, port)
	case 5:
		b.come(packetOf(x, y)...)
	default:
		b.come(append([]byte{byte(account)}, packetOf(x, y)...)...)
	}
}

// bounded fails if an account has more ports open than its quota, or a ring more packets than eight, or a claim is refused within the quota.
func (b both) bounded() {
	b.t.Helper()
	for account := range b.m {
		numbers := b.p.Open(account)
		_, e := b.p.Copy().Claim(account, nil)
		if len(numbers) > b.p.Quota(account) || (e == api.OK) != (len(numbers) < b.p.Quota(account)) {
			b.t.Errorf("account %d has %d ports of %d, and Claim is %v", account, len(numbers), b.p.Quota(account), e)
		}
		for _, port := range numbers {
			if n := b.p.Len(account, port); n < 0 || n > maxRing {
				b.t.Errorf("in the ring %d of account %d there are %d packets", port, account, n)
			}
		}
	}
}

// plays does many steps to ports and their model, and to copies on the way.
func (b both) plays(steps []byte) {
	b.t.Helper()
	for i := 0; i+3 < len(steps); i += 4 {
		b.step(int(steps[i+3])%(len(b.m)+2)-1, steps[i], steps[i+1], steps[i+2])
		b.bounded()
		if b.t.Failed() {
			b.t.FailNow()
		}
		if i%40 > 0 {
			continue
		}
		b.same(fmt.Sprint("behind step ", i/4))
		o := b.copy()
		for j := i; j+3 < min(len(steps), i+24); j += 4 {
			o.step(int(steps[j])%(len(o.m)+1), steps[j+3], steps[j+2], steps[j+1])
			isSame(b.t, "the copy", b.p, o.p, b.m.text() == o.m.text())
		}
		o.same(fmt.Sprint("the copy of step ", i/4))
		b.same(fmt.Sprint("behind the copy of step ", i/4))
	}
	b.same("at the end")
}

// P12.5: whatever is done, the ports are as the words say it.
func TestFollows(t *testing.T) {
	r := rand.New(rand.NewSource(12))
	for n := range 60 {
		steps := make([]byte, 1600)
		r.Read(steps)
		made(t, [][]int{{4}, {2, 0, 3}, {1, 5, 2, 1}, {2, 2, 2, 2, 2, 2, 2, 2}, {16, 0}}[n%5]...).plays(steps)
	}
}

// P12.5: what is taken is what came, passed, and was not lost, in its order, each once.
func TestTaken(t *testing.T) {
	r := rand.New(rand.NewSource(125))
	for range 100 {
		b := made(t, 1, 1)
		f := filterOf(byte(r.Intn(250)))
		b.claim(1, f...)
		var came, taken []string
		for n := range 300 {
			if r.Intn(3) == 0 {
				if packet, e := b.p.Take(1, 0); e == api.OK {
					taken = append(taken, string(packet))
				}
				continue
			}
			packet := append([]byte{byte(r.Intn(3))}, packetOf(byte(r.Intn(253)), byte(n))...)
			l, _ := b.p.Come(packet)
			if len(l) > 0 && !l[0].Lost {
				came = append(came, string(packet))
			}
			wants(t, "whether it came", len(l) > 0, packet[0] == 1 && passes(f, packet))
		}
		for _, packet := range b.p.Ring(1, 0) {
			taken = append(taken, string(packet))
		}
		if !slices.Equal(came, taken) {
			t.Fatalf("there came %q, and were taken %q", came, taken)
		}
	}
}

// P12.5: an account's answers are the same, whatever another one does, and which packets come that are not its own.
func TestApart(t *testing.T) {
	r := rand.New(rand.NewSource(1205))
	for range 80 {
		quiet, loud := made(t, 3, 4, 2, 3), made(t, 3, 4, 2, 3)
		own := r.Intn(4)
		for range 200 {
			op, x, y := byte(r.Intn(256)), byte(r.Intn(256)), byte(r.Intn(256))
			if op%8 == 5 {
				op++
			}
			quiet.step(own, op, x, y)
			loud.step(own, op, x, y)
			other := (own + 1 + r.Intn(3)) % 4
			op = byte(r.Intn(256))
			if op%8 == 5 {
				loud.come(append([]byte{byte(r.Intn(252) + 4)}, packetOf(x, y)...)...)
			} else {
				loud.step(other, op, byte(r.Intn(256)), byte(r.Intn(256)))
			}
			apart(t, quiet.p, loud.p, own)
		}
		quiet.same("the quiet one")
		loud.same("the loud one")
	}
}

// apart fails unless of an account both tell the same.
func apart(t *testing.T, a, b *ports.Ports, account int) {
	t.Helper()
	numbers := a.Open(account)
	wants(t, "Open", fmt.Sprint(b.Open(account)), fmt.Sprint(numbers))
	for _, port := range numbers {
		wants(t, "Len", b.Len(account, port), a.Len(account, port))
		wants(t, "Lost", b.Lost(account, port), a.Lost(account, port))
		f, _ := a.Filter(account, port)
		g, _ := b.Filter(account, port)
		wants(t, "Filter", fmt.Sprint(g), fmt.Sprint(f))
		wants(t, "Ring", fmt.Sprint(maps.Collect(b.Ring(account, port))), fmt.Sprint(maps.Collect(a.Ring(account, port))))
	}
	if t.Failed() {
		t.FailNow()
	}
}

// FuzzSteps plays any steps on small ports.
func FuzzSteps(f *testing.F) {
	f.Add([]byte{0, 1, 4, 1, 6, 17, 2, 1, 6, 21, 2, 1, 3, 1, 0, 1, 2, 1, 0, 1, 5, 8, 1, 0})
	f.Fuzz(func(t *testing.T, steps []byte) {
		made(t, 2, 3, 1).plays(steps[:min(len(steps), 1600)])
	})
}
