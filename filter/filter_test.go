package filter_test

import (
	"fmt"
	"iter"
	"math"
	"math/rand"
	"slices"
	"strings"
	"testing"

	"steading/api"
	"steading/filter"
)

const (
	maxPacket = 64
	maxTests  = 8
	errNever  = api.Errno(210)
)

// model is the packets that pass, as the chapter's words say it: how many bytes they have at least, and of each bit of each byte whether it may be 0, and whether it may be 1.
type model struct {
	size int
	can  [maxPacket][8][2]bool
}

// may: may that be a filter?
func may(f []api.Test) bool {
	for _, t := range f {
		for _, n := range [][2]int{{t.At, maxPacket - 1}, {t.Mask, 255}, {t.Value, 255}} {
			if n[0] < 0 || n[0] > n[1] {
				return false
			}
		}
	}
	return len(f) <= maxTests
}

// modelOf is the packets that pass all tests.
func modelOf(tests ...api.Test) model {
	var m model
	for at := range m.can {
		for bit := range m.can[at] {
			m.can[at][bit] = [2]bool{true, true}
		}
	}
	for _, t := range tests {
		if m.size <= t.At {
			m.size = t.At + 1
		}
		for bit := range 8 {
			mask, value := t.Mask>>bit%2, t.Value>>bit%2
			for is := range 2 {
				if is*mask != value {
					m.can[t.At][bit][is] = false
				}
			}
		}
	}
	return m
}

func (m model) never() bool {
	for _, b := range m.can {
		if slices.Contains(b[:], [2]bool{}) {
			return true
		}
	}
	return false
}

// plain is the plain filter of a model that is not never.
func (m model) plain() []api.Test {
	var f []api.Test
	for at := range m.size {
		t := api.Test{At: at}
		for bit, can := range m.can[at] {
			if can[0] != can[1] {
				t.Mask += 1 << bit
			}
			if !can[0] {
				t.Value += 1 << bit
			}
		}
		if t.Mask > 0 || at+1 == m.size {
			f = append(f, t)
		}
	}
	return f
}

// within: is each packet of the model one of the other's?
func (m model) within(o model) bool {
	if m.never() {
		return true
	}
	for at, b := range m.can {
		for bit, can := range b {
			for is := range can {
				if can[is] && !o.can[at][bit][is] {
					return false
				}
			}
		}
	}
	return m.size >= o.size
}

// least is the model's packet of the fewest and least bytes.
func (m model) least() []byte {
	b := make([]byte, m.size)
	for at := range b {
		for bit, can := range m.can[at] {
			if !can[0] {
				b[at] |= 1 << bit
			}
		}
	}
	return b
}

// passes: does the packet pass, by the words themselves?
func passes(f []api.Test, packet []byte) bool {
	if !may(f) || len(packet) > maxPacket {
		return false
	}
	for _, t := range f {
		if len(packet) <= t.At || packet[t.At]&byte(t.Mask) != byte(t.Value) {
			return false
		}
	}
	return true
}

// wantTests is what Plain, Both and Home are to answer of these tests together.
func wantTests(ok bool, tests ...api.Test) ([]api.Test, api.Errno) {
	if !ok {
		return nil, api.ErrArg
	}
	m := modelOf(tests...)
	if m.never() {
		return nil, errNever
	}
	if f := m.plain(); len(f) <= maxTests {
		return f, api.OK
	}
	return nil, api.ErrLong
}

// wants fails if an answer is not that one.
func wants(t *testing.T, what string, got, want any) {
	t.Helper()
	if got != want {
		t.Errorf("%s: %v, should be %v", what, got, want)
	}
}

// wantsList fails if an answer is not that list and error, or a list beside an error.
func wantsList[T comparable](t *testing.T, what string, got []T, e api.Errno, want []T, wantE api.Errno) {
	t.Helper()
	if !slices.Equal(got, want) || e != wantE || e != api.OK && got != nil {
		t.Errorf("%s: %v, %v; should be %v, %v", what, got, e, want, wantE)
	}
}

// asks asks of one filter, and holds what is answered against the model.
func asks(t *testing.T, f []api.Test) {
	t.Helper()
	ok, m := may(f), model{}
	want, least, leastE := false, []byte(nil), api.ErrArg
	if ok {
		m = modelOf(f...)
		want, leastE = m.never(), errNever
		if !want {
			least, leastE = m.least(), api.OK
		}
	}
	refused := api.OK
	if !ok {
		refused = api.ErrArg
	}
	wants(t, fmt.Sprintf("Check(%v)", f), filter.Check(f), refused)
	never, e := filter.Never(f)
	wants(t, fmt.Sprintf("Never(%v)", f), [2]any{never, e}, [2]any{want, refused})
	plain, e := filter.Plain(f)
	wantP, wantE := wantTests(ok, f...)
	wantsList(t, fmt.Sprintf("Plain(%v)", f), plain, e, wantP, wantE)
	packet, e := filter.Least(f)
	wantsList(t, fmt.Sprintf("Least(%v)", f), packet, e, least, leastE)
}

// asksTwo asks of two filters, and holds what is answered against the model.
func asksTwo(t *testing.T, f, g []api.Test) {
	t.Helper()
	what := fmt.Sprintf("(%v, %v)", f, g)
	ok, all := may(f) && may(g), slices.Concat(f, g)
	var apart, within, same bool
	refused := api.ErrArg
	if ok {
		refused = api.OK
		m, o := modelOf(f...), modelOf(g...)
		apart, within, same = modelOf(all...).never(), m.within(o), m.within(o) && o.within(m)
	}
	both, e := filter.Both(f, g)
	want, wantE := []api.Test(nil), api.ErrArg
	if ok {
		want, wantE = wantTests(true, all...)
	}
	wantsList(t, "Both"+what, both, e, want, wantE)
	is, e := filter.Apart(f, g)
	wants(t, "Apart"+what, [2]any{is, e}, [2]any{apart, refused})
	is, e = filter.Within(f, g)
	wants(t, "Within"+what, [2]any{is, e}, [2]any{within, refused})
	is, e = filter.Same(f, g)
	wants(t, "Same"+what, [2]any{is, e}, [2]any{same, refused})
}

// asksHome asks for an account's home, and holds what is answered against the model.
func asksHome(t *testing.T, account int, f []api.Test) {
	t.Helper()
	home, e := filter.Home(account, f)
	want, wantE := []api.Test(nil), api.ErrArg
	if account >= 0 && account <= 255 && may(f) {
		want, wantE = wantTests(true, slices.Concat(f, []api.Test{{At: 0, Mask: 255, Value: account}})...)
	}
	wantsList(t, fmt.Sprintf("Home(%d, %v)", account, f), home, e, want, wantE)
}

// numbers are around those that tests may have, and far from them.
func numbers() []int {
	return []int{math.MinInt, math.MinInt + 1, math.MinInt32, -1 << 32, -256, -255, -64, -2, -1, 0, 1, 2, 62, 63, 64, 65, 127, 128, 254, 255, 256, 257, 511, 512, 1 << 16, math.MaxInt32, 1 << 32, 1<<32 + 1, math.MaxInt - 1, math.MaxInt}
}

// one is a filter of one test.
func one(at, mask, value int) []api.Test {
	return []api.Test{{At: at, Mask: mask, Value: value}}
}

// row is so many tests of bytes that follow each other, from that place on.
func row(first, n int) []api.Test {
	var f []api.Test
	for i := range n {
		f = append(f, api.Test{At: first + i, Mask: 255, Value: (first + 7*i) % 256})
	}
	return f
}

// few are filters of some sorts: none, never, that may not be, short ones, as long as may be.
func few() [][]api.Test {
	return [][]api.Test{
		nil, {}, one(0, 0, 0), one(1, 0, 0), one(63, 0, 0), one(0, 0, 1), one(0, 1, 2), one(5, 0, 128),
		one(0, 255, 3), one(0, 255, 255), one(0, 254, 2), one(0, 1, 1), one(0, 1, 0), one(1, 240, 16), one(1, 15, 3), one(63, 255, 9),
		{{At: 1, Mask: 240, Value: 16}, {At: 1, Mask: 15, Value: 3}},
		{{At: 1, Mask: 240, Value: 16}, {At: 1, Mask: 24, Value: 8}},
		{{At: 1, Mask: 240, Value: 16}, {At: 1, Mask: 24, Value: 16}},
		{{At: 2}, {At: 0, Mask: 1, Value: 1}, {At: 1}},
		row(0, 8), row(1, 8), row(8, 8), row(56, 8), row(0, 7), row(0, 4), row(4, 4), row(3, 5), row(0, 9), row(0, 40),
		slices.Repeat(one(3, 7, 5), 8), slices.Repeat(one(3, 7, 5), 9), slices.Repeat(one(3, 7, 8), 8), slices.Repeat(one(3, 0, 0), 8),
		append(one(0, 1, 2), row(1, 7)...), append(row(0, 7), api.Test{At: 7, Mask: 1, Value: 2}), append(row(0, 8), api.Test{At: 0, Mask: 255, Value: 1}),
		one(64, 0, 0), one(-1, 0, 0), one(0, 256, 0), one(0, 0, 256), one(0, -1, 0), one(0, 255, -1), append(one(0, 1, 2), one(64, 1, 1)...),
	}
}

// P11.1 to P11.4: the chapter's examples.
func TestExamples(t *testing.T) {
	f, g, never := one(1, 240, 16), one(1, 15, 3), one(0, 1, 2)
	wants(t, "Match(f, 0 17)", filter.Match(f, []byte{0, 17}), true)
	wants(t, "Match(f, 0)", filter.Match(f, []byte{0}), false)
	wants(t, "Match(f, 0 33)", filter.Match(f, []byte{0, 33}), false)
	both, e := filter.Both(f, g)
	wantsList(t, "Both(f, g)", both, e, one(1, 255, 19), api.OK)
	is, e := filter.Apart(f, g)
	wants(t, "Apart(f, g)", [2]any{is, e}, [2]any{false, api.OK})
	is, e = filter.Within(f, g)
	wants(t, "Within(f, g)", [2]any{is, e}, [2]any{false, api.OK})
	is, e = filter.Never(never)
	wants(t, "Never(byte 0 under 1 is 2)", [2]any{is, e}, [2]any{true, api.OK})
	plain, e := filter.Plain(never)
	wantsList(t, "Plain(byte 0 under 1 is 2)", plain, e, nil, 210)
	home, e := filter.Home(3, f)
	wantsList(t, "Home(3, f)", home, e, []api.Test{{At: 0, Mask: 255, Value: 3}, {At: 1, Mask: 240, Value: 16}}, api.OK)
	least, e := filter.Least(home)
	wantsList(t, "Least of that", least, e, []byte{3, 16}, api.OK)
}

// P11.1: each number of a test by itself, and with others beside it.
func TestCheck(t *testing.T) {
	for _, n := range numbers() {
		for _, f := range [][]api.Test{one(n, 0, 0), one(0, n, 0), one(0, 0, n), one(n, n, n), one(63, 255, n), one(n, 255, 255)} {
			asks(t, f)
			asks(t, append(row(0, 7), f...))
			asks(t, append(f, row(0, 7)...))
			asks(t, append(f, row(0, 8)...))
		}
	}
	for n := range 12 {
		asks(t, row(0, n))
		asks(t, slices.Repeat(one(9, 3, 1), n))
		asks(t, make([]api.Test, n))
	}
	asks(t, make([]api.Test, 1000))
	for _, f := range few() {
		asks(t, f)
	}
}

// P11.1, P11.2, P11.4: of one test each mask and value, and each byte.
func TestOneByte(t *testing.T) {
	for mask := range 256 {
		for value := range 256 {
			f, passed, least := one(0, mask, value), 0, -1
			for b := range 256 {
				is := filter.Match(f, []byte{byte(b)})
				if is != (b&mask == value) {
					t.Fatalf("Match(%v, %d): %v", f, b, is)
				}
				if is && passed == 0 {
					least = b
				}
				if is {
					passed++
				}
			}
			never, e := filter.Never(f)
			packet, leastE := filter.Least(f)
			if e != api.OK || never != (passed == 0) {
				t.Fatalf("Never(%v): %v, %v; %d pass", f, never, e, passed)
			}
			if passed > 0 && (leastE != api.OK || !slices.Equal(packet, []byte{byte(least)})) || passed == 0 && leastE != errNever {
				t.Fatalf("Least(%v): %v, %v; should be %d", f, packet, leastE, least)
			}
		}
	}
}

// P11.1: a packet's length, at each place.
func TestMatchLength(t *testing.T) {
	for n := range maxPacket + 3 {
		packet := slices.Repeat([]byte{5}, n)
		wants(t, fmt.Sprintf("%d bytes, no tests", n), filter.Match(nil, packet), n <= maxPacket)
		for at := range maxPacket {
			wants(t, fmt.Sprintf("%d bytes, the byte %d is anything", n, at), filter.Match(one(at, 0, 0), packet), at < n && n <= maxPacket)
			wants(t, fmt.Sprintf("%d bytes, the byte %d is 5", n, at), filter.Match(one(at, 255, 5), packet), at < n && n <= maxPacket)
			wants(t, fmt.Sprintf("%d bytes, the byte %d is 4", n, at), filter.Match(one(at, 255, 4), packet), false)
		}
	}
	wants(t, "a long packet", filter.Match(nil, make([]byte, 1<<20)), false)
	wants(t, "no bytes, no tests", filter.Match(nil, nil), true)
}

// P11.1: filters that may not be let nothing pass, though what may be of them would.
func TestMatchRefused(t *testing.T) {
	packet := make([]byte, maxPacket)
	for _, n := range numbers() {
		for _, f := range [][]api.Test{one(n, 0, 0), one(0, n, 0), one(63, n, 0), append(one(0, 0, 0), one(63, n, 0)...), append(one(n, 0, 0), one(0, 0, 0)...)} {
			wants(t, fmt.Sprintf("Match(%v, 64 bytes 0)", f), filter.Match(f, packet), passes(f, packet))
		}
	}
	for n := range 12 {
		wants(t, fmt.Sprintf("Match(%d tests)", n), filter.Match(make([]api.Test, n), packet), n <= maxTests)
	}
	wants(t, "a value of more than a byte", filter.Match(one(0, 255, 256), packet), false)
	wants(t, "a mask of more than a byte", filter.Match(one(0, 256, 0), packet), false)
	wants(t, "a mask below 0", filter.Match(one(0, -1, 0), packet), false)
}

// P11.1: each test counts, wherever it stands among the others.
func TestMatchEach(t *testing.T) {
	f := row(10, maxTests)
	packet := make([]byte, 40)
	for _, x := range f {
		packet[x.At] = byte(x.Value)
	}
	wants(t, "a packet that passes all tests", filter.Match(f, packet), true)
	for i, x := range f {
		for bit := range 8 {
			packet[x.At] ^= 1 << bit
			wants(t, fmt.Sprintf("test %d, bit %d is another", i, bit), filter.Match(f, packet), false)
			packet[x.At] ^= 1 << bit
		}
	}
	for at := range packet {
		packet[at]++
		wants(t, fmt.Sprintf("byte %d is another", at), filter.Match(f, packet), at < 10 || at >= 18)
		packet[at]--
	}
}

// told is a packet that is told, with its place.
type told struct {
	place int
	bytes string
}

func collect(s iter.Seq2[int, []byte]) []told {
	var l []told
	for place, packet := range s {
		l = append(l, told{place, string(packet)})
	}
	return l
}

// texts is texts as packets.
func texts(l ...string) [][]byte {
	var packets [][]byte
	for _, s := range l {
		packets = append(packets, []byte(s))
	}
	return packets
}

// P11.1: those that pass, in order, with their places among all.
func TestPassing(t *testing.T) {
	packets := [][]byte{nil, {}, {0}, {0, 17}, {0, 33}, {9, 16, 1}, make([]byte, maxPacket), make([]byte, maxPacket+1), {0, 17}, {3}, slices.Repeat([]byte{17}, maxPacket), slices.Repeat([]byte{17}, maxPacket+1)}
	for _, f := range few() {
		var want []told
		for place, p := range packets {
			if passes(f, p) {
				want = append(want, told{place, string(p)})
			}
		}
		s := filter.Passing(f, packets...)
		wantsList(t, fmt.Sprintf("Passing(%v)", f), collect(s), api.OK, want, api.OK)
		wantsList(t, fmt.Sprintf("Passing(%v), again", f), collect(s), api.OK, want, api.OK)
	}
	for _, f := range few() {
		wants(t, "Passing of no packets", len(collect(filter.Passing(f))), 0)
		wants(t, "Passing of a nil list", len(collect(filter.Passing(f, [][]byte(nil)...))), 0)
	}
}

// P11.1: it may be left anywhere, and gone over again from the beginning, also while one goes over it.
func TestPassingLeft(t *testing.T) {
	s := filter.Passing(one(0, 255, 'a'), texts("a", "b", "a1", "a2", "b", "a3")...)
	want := []told{{0, "a"}, {2, "a1"}, {3, "a2"}, {5, "a3"}}
	for left := range len(want) {
		var got []told
		for place, packet := range s {
			got = append(got, told{place, string(packet)})
			if len(got) > left {
				break
			}
		}
		wantsList(t, fmt.Sprintf("left behind %d", left+1), got, api.OK, want[:left+1], api.OK)
		wantsList(t, "and again", collect(s), api.OK, want, api.OK)
	}
	for range s {
		wantsList(t, "within itself", collect(s), api.OK, want, api.OK)
	}
}

// P11.1: the filter and the packets are those of when it was called, whatever is changed later.
func TestPassingWhen(t *testing.T) {
	f := one(0, 255, 'a')
	packets := texts("a1", "b1", "a2", "b2")
	s := filter.Passing(f, packets...)
	want := []told{{0, "a1"}, {2, "a2"}}
	f[0].Value = 'b'
	wantsList(t, "when the filter is another", collect(s), api.OK, want, api.OK)
	packets[0], packets[1] = packets[1], packets[0]
	wantsList(t, "when the packets' places are others", collect(s), api.OK, want, api.OK)
	packets[1][1], packets[2][0] = '9', 'b'
	wantsList(t, "when bytes are others", collect(s), api.OK, want, api.OK)
	for _, packet := range s {
		packets[2][1] = '8'
		clear(packet[:cap(packet)])
	}
	wantsList(t, "when what was told is changed", collect(s), api.OK, want, api.OK)
	wantsList(t, "called anew", collect(filter.Passing(f, packets...)), api.OK, []told{{0, "b1"}, {2, "b8"}, {3, "b2"}}, api.OK)
}

// P11.2: two tests of one byte go together, or not.
func TestNeverPairs(t *testing.T) {
	r := rand.New(rand.NewSource(112))
	masks := []int{0, 1, 2, 3, 128, 129, 240, 15, 60, 255}
	for _, m := range masks {
		for _, o := range masks {
			for range 20 {
				v, w := r.Intn(256), r.Intn(256)
				if r.Intn(4) > 0 {
					v &= m
				}
				if r.Intn(4) > 0 {
					w &= o
				}
				at := r.Intn(maxPacket)
				asks(t, append(one(at, m, v), one(at, o, w)...))
				asks(t, append(one(at, m, v), one((at+1)%maxPacket, o, w)...))
				asksTwo(t, one(at, m, v), one(at, o, w))
				asksTwo(t, one(at, m, v), one((at+1)%maxPacket, o, w))
			}
		}
	}
	contrary := append(one(0, 255, 1), row(1, 6)...)
	asks(t, append(contrary, api.Test{At: 0, Mask: 1, Value: 0}))
	asks(t, append(contrary, api.Test{At: 0, Mask: 1, Value: 1}))
}

// P11.2: masks of one byte are put together, bytes without a bit fall away but for the last one.
func TestPlain(t *testing.T) {
	type tests = []api.Test
	for _, x := range []struct{ f, want tests }{
		{nil, nil},
		{tests{{At: 0}}, tests{{At: 0}}},
		{tests{{At: 63}}, tests{{At: 63}}},
		{tests{{At: 63}, {At: 62}, {At: 0}}, tests{{At: 63}}},
		{tests{{At: 4}, {At: 2, Mask: 1}, {At: 4}}, tests{{At: 2, Mask: 1}, {At: 4}}},
		{tests{{At: 2, Mask: 1, Value: 1}, {At: 1}}, tests{{At: 2, Mask: 1, Value: 1}}},
		{tests{{At: 5, Mask: 8}, {At: 2, Mask: 3, Value: 2}, {At: 5, Mask: 16, Value: 16}, {At: 2, Mask: 6, Value: 6}}, tests{{At: 2, Mask: 7, Value: 6}, {At: 5, Mask: 24, Value: 16}}},
		{tests{{At: 7, Mask: 1}, {At: 6, Mask: 1}, {At: 5, Mask: 1}, {At: 4, Mask: 1}, {At: 3, Mask: 1}, {At: 2, Mask: 1}, {At: 1, Mask: 1}, {At: 0, Mask: 1}},
			tests{{At: 0, Mask: 1}, {At: 1, Mask: 1}, {At: 2, Mask: 1}, {At: 3, Mask: 1}, {At: 4, Mask: 1}, {At: 5, Mask: 1}, {At: 6, Mask: 1}, {At: 7, Mask: 1}}},
		{tests{{At: 9, Mask: 1, Value: 1}, {At: 9, Mask: 2}, {At: 9, Mask: 4, Value: 4}, {At: 9, Mask: 8}, {At: 9, Mask: 16}, {At: 9, Mask: 32}, {At: 9, Mask: 64}, {At: 9, Mask: 128, Value: 128}}, tests{{At: 9, Mask: 255, Value: 133}}},
	} {
		got, e := filter.Plain(x.f)
		wantsList(t, fmt.Sprintf("Plain(%v)", x.f), got, e, x.want, api.OK)
	}
}

// P11.2 to P11.4: where several errors apply, the first one: ErrArg, ErrNever, ErrLong.
func TestErrors(t *testing.T) {
	bad, tooMany := one(64, 0, 0), row(0, 9)
	never, late := one(0, 1, 2), append(row(0, 7), api.Test{At: 8, Mask: 0, Value: 1})
	for _, x := range []struct {
		what string
		f, g []api.Test
		want api.Errno
	}{
		{"one may not be", bad, nil, api.ErrArg},
		{"the other may not be", nil, bad, api.ErrArg},
		{"one is too long", tooMany, nil, api.ErrArg},
		{"the other is too long", nil, tooMany, api.ErrArg},
		{"never, and one that may not be", never, bad, api.ErrArg},
		{"one that may not be, and never", bad, never, api.ErrArg},
		{"never, and too long", never, tooMany, api.ErrArg},
		{"too long, and never", tooMany, never, api.ErrArg},
		{"never", never, nil, errNever},
		{"the other is never", nil, never, errNever},
		{"never, and more than there may be", late, row(20, 8), errNever},
		{"more than there may be, and never", row(20, 8), late, errNever},
		{"contrary, and more than there may be", row(0, 8), append(row(10, 7), api.Test{At: 0, Mask: 255, Value: 1}), errNever},
		{"nine in all", row(0, 8), one(8, 1, 1), api.ErrLong},
		{"nine in all, the last one for the length", row(0, 8), one(9, 0, 0), api.ErrLong},
		{"sixteen in all", row(0, 8), row(8, 8), api.ErrLong},
		{"eight in all", row(0, 8), row(0, 8), api.OK},
		{"eight in all, half of each", row(0, 4), row(4, 4), api.OK},
		{"eight in all, the last one for the length", row(0, 7), one(63, 0, 0), api.OK},
		{"sixteen that go together", row(0, 8), []api.Test{{At: 0}, {At: 1}, {At: 2}, {At: 3, Mask: 1, Value: row(0, 8)[3].Value & 1}, {At: 4}, {At: 5}, {At: 6}, {At: 7}}, api.OK},
		{"fifteen, of which seven fall away", row(20, 8), make([]api.Test, 7), api.OK},
	} {
		if _, e := filter.Both(x.f, x.g); e != x.want {
			t.Errorf("%s: Both: %v, should be %v", x.what, e, x.want)
		}
		asksTwo(t, x.f, x.g)
		asksTwo(t, x.g, x.f)
	}
}

// P11.2, P11.3: filters of some sorts, each with each.
func TestTwo(t *testing.T) {
	for _, f := range few() {
		for _, g := range few() {
			asksTwo(t, f, g)
		}
	}
	for _, n := range numbers() {
		asksTwo(t, one(n, 0, 0), one(3, 1, 1))
		asksTwo(t, one(3, 1, 1), one(0, n, 0))
		asksTwo(t, one(3, 1, 2), one(0, 0, n))
		asksTwo(t, one(0, n, n), one(0, n, n))
	}
}

// P11.3: what holds of a filter and one that asks for a bit, or a byte, more.
func TestWithin(t *testing.T) {
	for _, x := range []struct {
		f, g        []api.Test
		there, back bool
	}{
		{one(3, 7, 5), one(3, 5, 5), true, false},
		{one(3, 7, 5), one(3, 7, 1), false, false},
		{one(3, 7, 5), one(3, 8, 0), false, false},
		{one(3, 0, 0), nil, true, false},
		{one(3, 0, 0), one(2, 0, 0), true, false},
		{one(3, 0, 0), one(2, 1, 0), false, false},
		{one(3, 1, 0), one(2, 0, 0), true, false},
		{one(3, 1, 0), one(3, 0, 0), true, false},
		{append(one(3, 1, 0), one(2, 0, 0)...), one(3, 1, 0), true, true},
		{append(one(3, 1, 1), one(3, 2, 0)...), one(3, 3, 1), true, true},
		{one(3, 1, 2), one(9, 9, 9), true, false},
		{one(3, 1, 2), one(9, 9, 255), true, true},
		{one(3, 1, 2), append(one(9, 1, 0), one(9, 1, 1)...), true, true},
		{one(0, 255, 7), one(0, 255, 8), false, false},
		{one(0, 1, 2), nil, true, false},
	} {
		there, e := filter.Within(x.f, x.g)
		wants(t, fmt.Sprintf("Within(%v, %v)", x.f, x.g), [2]any{there, e}, [2]any{x.there, api.OK})
		back, e := filter.Within(x.g, x.f)
		wants(t, fmt.Sprintf("Within(%v, %v)", x.g, x.f), [2]any{back, e}, [2]any{x.back, api.OK})
		same, e := filter.Same(x.f, x.g)
		wants(t, fmt.Sprintf("Same(%v, %v)", x.f, x.g), [2]any{same, e}, [2]any{x.there && x.back, api.OK})
	}
}

// P11.4: accounts that are, that are none, and filters that ask for the byte 0, too.
func TestHome(t *testing.T) {
	accounts := numbers()
	for account := range 257 {
		accounts = append(accounts, account)
	}
	for _, account := range accounts {
		asksHome(t, account, nil)
		asksHome(t, account, one(0, 0, 0))
		asksHome(t, account, one(0, 255, 3))
		asksHome(t, account, one(0, 3, 2))
		asksHome(t, account, one(9, 3, 2))
		asksHome(t, account, one(9, 0, 0))
	}
	for _, f := range few() {
		for _, account := range []int{-1, 0, 3, 5, 7, 8, 255, 256} {
			asksHome(t, account, f)
		}
	}
	got, e := filter.Home(7, row(1, 7))
	wantsList(t, "Home of seven tests", got, e, append(one(0, 255, 7), row(1, 7)...), api.OK)
	got, e = filter.Home(7, row(1, 8))
	wantsList(t, "Home of eight tests", got, e, nil, api.ErrLong)
	got, e = filter.Home(0, append(row(1, 7), api.Test{At: 1, Mask: 255, Value: 9}))
	wantsList(t, "Home of eight tests, never", got, e, nil, errNever)
	got, e = filter.Home(-1, one(0, 1, 2))
	wantsList(t, "Home of no account, never", got, e, nil, api.ErrArg)
	got, e = filter.Home(256, row(1, 8))
	wantsList(t, "Home of no account, eight tests", got, e, nil, api.ErrArg)
}

// P11.4: the fewest bytes, each of them the least.
func TestLeast(t *testing.T) {
	for _, x := range []struct {
		f    []api.Test
		want string
	}{
		{nil, ""},
		{one(0, 0, 0), "\x00"},
		{one(2, 0, 0), "\x00\x00\x00"},
		{one(1, 240, 16), "\x00\x10"},
		{[]api.Test{{At: 2, Mask: 255, Value: 'c'}, {At: 0, Mask: 255, Value: 'a'}}, "a\x00c"},
		{[]api.Test{{At: 1, Mask: 240, Value: 160}, {At: 1, Mask: 15, Value: 3}, {At: 3}}, "\x00\xa3\x00\x00"},
		{one(63, 255, 'z'), strings.Repeat("\x00", 63) + "z"},
	} {
		got, e := filter.Least(x.f)
		wantsList(t, fmt.Sprintf("Least(%v)", x.f), got, e, []byte(x.want), api.OK)
	}
}

// P11.1 to P11.4: what is handed in is not changed and not kept, and each answer is memory of its own, spare room included.
func TestMemory(t *testing.T) {
	all := append(row(3, 4), one(40, 3, 1)...)
	given := slices.Clone(all)
	f, g := all[:2], all[2:4]
	packet := []byte("....\x0a\x11\x18.more")
	asksTwo(t, f, g)
	asksHome(t, 2, f)
	asks(t, f)
	filter.Match(f, packet[:8])
	for _, p := range filter.Passing(f, packet[:8], packet[:4]) {
		clear(p[:cap(p)])
	}
	wants(t, "the tests, and behind them", fmt.Sprint(all), fmt.Sprint(given))
	wants(t, "the packet, and behind it", string(packet), "....\x0a\x11\x18.more")
	made := map[string]func() []api.Test{
		"Plain": func() []api.Test { l, _ := filter.Plain(f); return l },
		"Both":  func() []api.Test { l, _ := filter.Both(f, g); return l },
		"Home":  func() []api.Test { l, _ := filter.Home(2, f); return l },
	}
	for what, ask := range made {
		first, second := ask(), ask()
		want := fmt.Sprint(second)
		clear(first[:cap(first)])
		wants(t, what+", when another answer is changed", fmt.Sprint(second), want)
		wants(t, what+", asked again", fmt.Sprint(ask()), want)
		wants(t, "the tests behind "+what, fmt.Sprint(all), fmt.Sprint(given))
	}
	first, _ := filter.Least(f)
	second, _ := filter.Least(f)
	clear(first[:cap(first)])
	wants(t, "Least, when another answer is changed", string(second), "\x00\x00\x00\x03\x0a")
	plain, _ := filter.Plain(f)
	clear(all)
	wants(t, "Plain, when the tests are changed", fmt.Sprint(plain), fmt.Sprint(given[:2]))
}

// small are packets in which the bytes 0, 1 and 5 have all values of the bits 0 and 7, with and without another bit, and all others are 0: of each length to 8, and of the greatest ones.
func small() [][]byte {
	values := []byte{0, 1, 128, 129, 16, 145}
	var l [][]byte
	for _, n := range []int{0, 1, 2, 3, 4, 5, 6, 7, 8, 63, 64} {
		for i := range 6 * 6 * 6 {
			p := make([]byte, max(n, 6))
			p[0], p[1], p[5] = values[i%6], values[i/6%6], values[i/36]
			l = append(l, p[:n])
		}
	}
	return l
}

// smallFilter is a filter of which small packets tell all.
func smallFilter(r *rand.Rand) []api.Test {
	f := make([]api.Test, r.Intn(5))
	for i := range f {
		f[i] = api.Test{At: []int{0, 1, 5, 62}[r.Intn(40)/13], Mask: []int{0, 1, 128, 129}[r.Intn(4)]}
		if f[i].At == 62 {
			f[i].Mask = 0
		}
		f[i].Value = f[i].Mask & []int{0, 255, 1, 128}[r.Intn(4)]
		if r.Intn(20) == 0 {
			f[i].Value |= 1
		}
	}
	return f
}

// P11.2 to P11.5: what is told of filters holds of the packets themselves, one by one.
func TestPackets(t *testing.T) {
	r := rand.New(rand.NewSource(115))
	packets := small()
	for range 1500 {
		f, g := smallFilter(r), smallFilter(r)
		never, apart, within, same := true, true, true, true
		both, e := filter.Both(f, g)
		for _, p := range packets {
			a, b := filter.Match(f, p), filter.Match(g, p)
			if a != passes(f, p) {
				t.Fatalf("Match(%v, %v): %v", f, p, a)
			}
			if got := e == api.OK && filter.Match(both, p); got != (a && b) {
				t.Fatalf("Both(%v, %v): %v, %v; of %v %v", f, g, both, e, p, got)
			}
			never, apart, within, same = never && !a, apart && !(a && b), within && (!a || b), same && a == b
		}
		said, _ := filter.Never(f)
		wants(t, fmt.Sprintf("Never(%v)", f), said, never)
		said, _ = filter.Apart(f, g)
		wants(t, fmt.Sprintf("Apart(%v, %v)", f, g), said, apart)
		said, _ = filter.Within(f, g)
		wants(t, fmt.Sprintf("Within(%v, %v)", f, g), said, within)
		said, _ = filter.Same(f, g)
		wants(t, fmt.Sprintf("Same(%v, %v)", f, g), said, same)
		if t.Failed() {
			t.FailNow()
		}
	}
}

// P11.5: what follows, of two filters.
func follows(t *testing.T, f, g []api.Test) {
	t.Helper()
	asks(t, f)
	asks(t, g)
	asksTwo(t, f, g)
	asksTwo(t, g, f)
	asksTwo(t, f, f)
	plain, e := filter.Plain(f)
	other, otherE := filter.Plain(g)
	same, sameE := filter.Same(f, g)
	if sameE == api.OK {
		wants(t, fmt.Sprintf("Same(%v, %v)", f, g), same, e == otherE && slices.Equal(plain, other))
	}
	if e == api.OK {
		again, e := filter.Plain(plain)
		wantsList(t, "Plain of what is plain", again, e, plain, api.OK)
		asksTwo(t, f, plain)
		shortest(t, f)
	}
	for a := range 3 {
		home, e := filter.Home(a, f)
		neighbour, otherE := filter.Home(a+1, g)
		if e == api.OK && otherE == api.OK {
			apart, e := filter.Apart(home, neighbour)
			wants(t, fmt.Sprintf("Apart(%v, %v)", home, neighbour), [2]any{apart, e}, [2]any{true, api.OK})
		}
	}
}

// shortest fails unless Least of the filter passes it, with no byte less, and no shorter packet does.
func shortest(t *testing.T, f []api.Test) {
	t.Helper()
	least, e := filter.Least(f)
	if e != api.OK || !filter.Match(f, least) {
		t.Errorf("Least(%v): %v, %v does not pass", f, least, e)
	}
	if len(least) > 0 {
		if shorter := least[:len(least)-1]; filter.Match(f, shorter) {
			t.Errorf("Least(%v): %v, of which %v passes", f, least, shorter)
		}
	}
	for at, b := range least {
		for less := range b {
			least[at] = less
			if filter.Match(f, least) {
				t.Errorf("Least(%v): of byte %d %d passes, told is %d", f, at, less, b)
			}
		}
		least[at] = b
	}
}

// P11.5: of any filters.
func TestFollows(t *testing.T) {
	r := rand.New(rand.NewSource(11))
	for range 3000 {
		bytes := make([]byte, r.Intn(60))
		r.Read(bytes)
		f, g := read(bytes)
		follows(t, f, g)
		if t.Failed() {
			t.FailNow()
		}
	}
	for _, f := range few() {
		follows(t, f, one(1, 240, 16))
	}
}

// read is two filters out of any bytes, in most of which values are within masks, and places are few.
func read(b []byte) (f, g []api.Test) {
	var l []api.Test
	for ; len(b) >= 4; b = b[4:] {
		test := api.Test{At: int(b[0]) % 5, Mask: int(b[1]), Value: int(b[1] & b[2])}
		switch how := b[3]; {
		case how >= 250:
			test.Value = int(b[2])
		case how >= 248:
			test.At = int(b[0]) - 64
		case how >= 247:
			test.Mask = 3 * int(b[1])
		case how >= 200:
			test.At = int(b[0]) % 64
		case how >= 100:
			test.Mask, test.Value = test.Mask&15, test.Mask&15
		case how >= 80:
			test.Mask, test.Value = 0, 0
		}
		l = append(l, test)
	}
	half := (len(l) + 1) / 2
	return l[:half:half], l[half:]
}

// FuzzFilters asks of any two filters.
func FuzzFilters(f *testing.F) {
	f.Add([]byte{0, 255, 3, 0, 1, 240, 16, 0, 1, 15, 3, 0, 0, 1, 2, 255})
	f.Fuzz(func(t *testing.T, b []byte) {
		one, two := read(b[:min(len(b), 100)])
		follows(t, one, two)
		for _, g := range [][]api.Test{one, two} {
			for n := range 10 {
				if p := b[:min(len(b), n)]; filter.Match(g, p) != passes(g, p) {
					t.Errorf("Match(%v, %v)", g, p)
				}
			}
		}
	})
}
