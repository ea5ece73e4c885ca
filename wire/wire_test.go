package wire_test

import (
	"bytes"
	"math"
	"math/big"
	"slices"
	"strings"
	"testing"

	"steading/api"
	"steading/wire"
)

// edges are numbers about each place where a form gets one digit more, and the ends of all kinds of numbers.
func edges() []uint64 {
	l := []uint64{0, 1, 2, 5, 63, 64, 65, 300, math.MaxInt64, math.MaxUint64 - 1, math.MaxUint64}
	for bits := 1; bits < 64; bits++ {
		n := uint64(1) << bits
		l = append(l, n-1, n, n+1)
	}
	slices.Sort(l)
	return slices.Compact(l)
}

// digits is the form as the document words it: the digits of n to the base 128, the lowest first, 128 added to all but the last.
func digits(n *big.Int) []byte {
	base, low := big.NewInt(128), new(big.Int)
	left, low := new(big.Int).DivMod(n, base, low)
	form := []byte{byte(low.Int64())}
	for left.Sign() > 0 {
		form[len(form)-1] += 128
		left, low = new(big.Int).DivMod(left, base, new(big.Int))
		form = append(form, byte(low.Int64()))
	}
	return form
}

// double is the number whose form a signed number has.
func double(n int64) *big.Int {
	twice := new(big.Int).Mul(big.NewInt(n), big.NewInt(2))
	if n >= 0 {
		return twice
	}
	return twice.Sub(twice.Neg(twice), big.NewInt(1))
}

// spare is b with spare room behind it, and a function that tells whether that room and b stay as they were.
func spare(b string) ([]byte, func() bool) {
	room := []byte(b + "behind")
	return room[:len(b)], func() bool { return string(room) == b+"behind" }
}

func same(t *testing.T, what string, got []byte, want string) {
	t.Helper()
	if string(got) != want {
		t.Errorf("%s is % x, want % x", what, got, want)
	}
}

func refused(t *testing.T, what string, got, want api.Errno) {
	t.Helper()
	if got != want {
		t.Errorf("%s answers %v, want %v", what, got, want)
	}
}

// TestNumberForm is of P1.1.
func TestNumberForm(t *testing.T) {
	for _, x := range []struct {
		n    uint64
		want string
	}{
		{0, "\x00"}, {1, "\x01"}, {127, "\x7f"}, {128, "\x80\x01"}, {255, "\xff\x01"}, {256, "\x80\x02"}, {300, "\xac\x02"},
		{1<<14 - 1, "\xff\x7f"}, {1 << 14, "\x80\x80\x01"}, {1 << 63, strings.Repeat("\x80", 9) + "\x01"},
		{math.MaxUint64, strings.Repeat("\xff", 9) + "\x01"},
	} {
		same(t, "Number of "+new(big.Int).SetUint64(x.n).String(), wire.Number(x.n), x.want)
	}
	for _, n := range edges() {
		whole := new(big.Int).SetUint64(n)
		same(t, "Number of "+whole.String(), wire.Number(n), string(digits(whole)))
	}
}

// TestSignedForm is of P1.1.
func TestSignedForm(t *testing.T) {
	for _, x := range []struct {
		n    int64
		want string
	}{
		{0, "\x00"}, {-1, "\x01"}, {1, "\x02"}, {-2, "\x03"}, {63, "\x7e"}, {-64, "\x7f"}, {64, "\x80\x01"}, {-65, "\x81\x01"},
		{math.MaxInt64, "\xfe" + strings.Repeat("\xff", 8) + "\x01"}, {math.MinInt64, strings.Repeat("\xff", 9) + "\x01"},
	} {
		same(t, "Signed of "+big.NewInt(x.n).String(), wire.Signed(x.n), x.want)
	}
	for _, n := range edges() {
		for _, s := range []int64{int64(n), -int64(n)} {
			same(t, "Signed of "+big.NewInt(s).String(), wire.Signed(s), string(digits(double(s))))
		}
	}
}

// TestFlagAndBytesForm is of P1.1.
func TestFlagAndBytesForm(t *testing.T) {
	same(t, "Flag of true", wire.Flag(true), "\x01")
	same(t, "Flag of false", wire.Flag(false), "\x00")
	same(t, "Bytes of nil", wire.Bytes(nil), "\x00")
	same(t, "Bytes of none", wire.Bytes([]byte{}), "\x00")
	same(t, "Bytes of ab", wire.Bytes([]byte("ab")), "\x02ab")
	same(t, "Bytes of no UTF-8", wire.Bytes([]byte{0xff, 0, 0x80}), "\x03\xff\x00\x80")
	for _, n := range []int{127, 128, 16383, 16384} {
		text := strings.Repeat("x", n)
		same(t, "Bytes of many", wire.Bytes([]byte(text)), string(digits(big.NewInt(int64(n))))+text)
	}
}

// TestJoin is of P1.1.
func TestJoin(t *testing.T) {
	same(t, "Join of nothing", wire.Join(), "")
	same(t, "Join of a nil list", wire.Join([][]byte(nil)...), "")
	same(t, "Join of empty ones", wire.Join(nil, []byte{}, nil), "")
	same(t, "Join of one", wire.Join([]byte("ab")), "ab")
	same(t, "Join of several", wire.Join([]byte("ab"), nil, []byte("c"), []byte{}, []byte{0, 0xff}), "abc\x00\xff")
}

// TestPut is of P1.1.
func TestPut(t *testing.T) {
	for _, l := range [][]int64{nil, {}, {1, 2}} {
		b, e := wire.Put(l, nil)
		refused(t, "Put without a function", e, api.ErrNil)
		same(t, "Put without a function", b, "")
	}
	for _, x := range []struct {
		l    []int64
		want string
	}{
		{nil, "\x00"}, {[]int64{}, "\x00"}, {[]int64{0}, "\x01\x00"}, {[]int64{1, -1, 64}, "\x03\x02\x01\x80\x01"},
		{make([]int64, 127), "\x7f" + strings.Repeat("\x00", 127)}, {make([]int64, 128), "\x80\x01" + strings.Repeat("\x00", 128)},
	} {
		b, e := wire.Put(x.l, wire.Signed)
		refused(t, "Put", e, api.OK)
		same(t, "Put", b, x.want)
	}
	b, e := wire.Put([]string{"c", "a", "b"}, func(s string) []byte { return []byte(s + s) })
	refused(t, "Put of texts", e, api.OK)
	same(t, "Put of texts", b, "\x03ccaabb")
	b, e = wire.Put([]string{"c", "a"}, func(string) []byte { return nil })
	refused(t, "Put of nothing each", e, api.OK)
	same(t, "Put of nothing each", b, "\x02")
	b, e = wire.Put([][]int64{{1}, nil}, func(l []int64) []byte { inner, _ := wire.Put(l, wire.Signed); return inner })
	refused(t, "Put within Put", e, api.OK)
	same(t, "Put within Put", b, "\x02\x01\x02\x00")
}

// TestPutAsksEachOnce is of P1.1: of each, in order.
func TestPutAsksEachOnce(t *testing.T) {
	var asked []int
	wire.Put([]int{3, 1, 2, 1}, func(n int) []byte { asked = append(asked, n); return nil })
	if !slices.Equal(asked, []int{3, 1, 2, 1}) {
		t.Errorf("Put asks of %v", asked)
	}
}

// TestFormsAreNewMemory: what is handed in is neither changed nor kept, spare room included.
func TestFormsAreNewMemory(t *testing.T) {
	forms := map[string]func([]byte) []byte{
		"Bytes":       wire.Bytes,
		"Join of one": func(b []byte) []byte { return wire.Join(b) },
		"Join of two": func(b []byte) []byte { return wire.Join(b, []byte("more")) },
		"Put": func(b []byte) []byte {
			l, _ := wire.Put([]int{0, 1}, func(int) []byte { return b })
			return l
		},
	}
	for what, form := range forms {
		b, stays := spare("ab")
		got := form(b)
		for i := range got[:cap(got)] {
			got[:cap(got)][i] = '!'
		}
		if !stays() {
			t.Errorf("%s shares memory with what it was handed", what)
		}
	}
}

// TestOpen is of P1.2: as they are then.
func TestOpen(t *testing.T) {
	b, stays := spare("\x01\x02")
	r := wire.Open(b)
	b[0], b[1] = 8, 9
	one, _ := r.Number()
	two, _ := r.Number()
	if one != 1 || two != 2 {
		t.Errorf("what was opened changed with what was handed in: %d %d", one, two)
	}
	b[0], b[1] = 1, 2
	if !stays() {
		t.Error("Open changed what it was handed")
	}
}

// TestLeftAndEnd is of P1.2.
func TestLeftAndEnd(t *testing.T) {
	r := wire.Open([]byte("\x00\x80\x01\x02ab\x01"))
	steps := []struct {
		left int
		read func() api.Errno
	}{
		{7, func() api.Errno { _, e := r.Flag(); return e }},
		{6, func() api.Errno { _, e := r.Number(); return e }},
		{4, func() api.Errno { _, e := r.Bytes(2); return e }},
		{1, func() api.Errno { _, e := r.Signed(); return e }},
	}
	for _, s := range steps {
		if r.Left() != s.left {
			t.Errorf("%d bytes are left, want %d", r.Left(), s.left)
		}
		refused(t, "End ahead of bytes", r.End(), api.ErrBytes)
		refused(t, "a read", s.read(), api.OK)
	}
	if r.Left() != 0 {
		t.Errorf("%d bytes are left at the end", r.Left())
	}
	refused(t, "End at the end", r.End(), api.OK)
}

// TestOpenOfNone is of P1.2: a reader of no bytes is one.
func TestOpenOfNone(t *testing.T) {
	for _, b := range [][]byte{nil, {}} {
		r := wire.Open(b)
		if r == nil || r.Left() != 0 {
			t.Fatalf("Open of %v is no reader at its end", b)
		}
		refused(t, "End of none", r.End(), api.OK)
		_, e := r.Number()
		refused(t, "Number of none", e, api.ErrBytes)
		_, e = r.Flag()
		refused(t, "Flag of none", e, api.ErrBytes)
		_, e = r.Bytes(0)
		refused(t, "Bytes of none", e, api.ErrBytes)
		_, e = wire.Take(r, 0, (*wire.Reader).Flag)
		refused(t, "Take of none", e, api.ErrBytes)
	}
}

// TestNoReader is of P1.2 to P1.4: a nil reader, and a zero one, which is as nil.
func TestNoReader(t *testing.T) {
	for what, r := range map[string]*wire.Reader{"nil": nil, "zero": {}} {
		if r.Left() != 0 {
			t.Errorf("%s has %d bytes left", what, r.Left())
		}
		refused(t, what+" End", r.End(), api.ErrNil)
		n, e := r.Number()
		refused(t, what+" Number", e, api.ErrNil)
		s, e := r.Signed()
		refused(t, what+" Signed", e, api.ErrNil)
		is, e := r.Flag()
		refused(t, what+" Flag", e, api.ErrNil)
		if n != 0 || s != 0 || is {
			t.Errorf("%s answers %d, %d, %v beside an error", what, n, s, is)
		}
		for _, most := range []int{math.MinInt, -1, 0, 1, math.MaxInt} {
			b, e := r.Bytes(most)
			refused(t, what+" Bytes", e, api.ErrNil)
			l, e2 := wire.Take(r, most, (*wire.Reader).Number)
			refused(t, what+" Take", e2, api.ErrNil)
			if len(b) != 0 || len(l) != 0 {
				t.Errorf("%s answers % x, %v beside an error", what, b, l)
			}
		}
	}
}

// noNumbers are bytes that no form of a number begins.
func noNumbers() []string {
	return []string{
		"", "\x80", "\xff\xff", strings.Repeat("\xff", 9), // they end early
		"\x80\x00", "\xff\x00", "\x80\x80\x00", strings.Repeat("\x80", 9) + "\x00", strings.Repeat("\xff", 9) + "\x00", // longer than they need be
		"\x80\x00\x01", strings.Repeat("\x80", 9) + "\x80\x00", strings.Repeat("\x80", 9) + "\x81\x00",
		strings.Repeat("\xff", 9) + "\x02", strings.Repeat("\x80", 9) + "\x02", strings.Repeat("\xff", 9) + "\x7f", // above 2^64 - 1
		strings.Repeat("\xff", 9) + "\x80\x01", strings.Repeat("\xff", 10) + "\x01", strings.Repeat("\x80", 10) + "\x01", strings.Repeat("\xff", 300),
	}
}

// TestNumberReads is of P1.3.
func TestNumberReads(t *testing.T) {
	for _, x := range []struct {
		bytes string
		want  uint64
		left  int
	}{
		{"\x00", 0, 0}, {"\x00\x00", 0, 1}, {"\x7f", 127, 0}, {"\x80\x01", 128, 0}, {"\x80\x01\xff", 128, 1}, {"\xac\x02\x00\x00", 300, 2},
		{strings.Repeat("\xff", 9) + "\x01", math.MaxUint64, 0}, {strings.Repeat("\x80", 9) + "\x01x", 1 << 63, 1}, {strings.Repeat("\xff", 8) + "\x7f", math.MaxInt64, 0},
	} {
		r := wire.Open([]byte(x.bytes))
		n, e := r.Number()
		if n != x.want || e != api.OK || r.Left() != x.left {
			t.Errorf("Number of % x is %d, %v, %d left; want %d, %d left", x.bytes, n, e, r.Left(), x.want, x.left)
		}
	}
}

// TestSignedReads is of P1.3.
func TestSignedReads(t *testing.T) {
	for _, x := range []struct {
		bytes string
		want  int64
	}{
		{"\x00", 0}, {"\x01", -1}, {"\x02", 1}, {"\x7e", 63}, {"\x7f", -64}, {"\x80\x01", 64}, {"\x81\x01", -65},
		{"\xfe" + strings.Repeat("\xff", 8) + "\x01", math.MaxInt64}, {strings.Repeat("\xff", 9) + "\x01", math.MinInt64},
	} {
		r := wire.Open([]byte(x.bytes + "more"))
		n, e := r.Signed()
		if n != x.want || e != api.OK || r.Left() != len("more") {
			t.Errorf("Signed of % x is %d, %v, %d left; want %d", x.bytes, n, e, r.Left(), x.want)
		}
	}
}

// TestFlagReads is of P1.3.
func TestFlagReads(t *testing.T) {
	for _, want := range []bool{false, true} {
		r := wire.Open(append(wire.Flag(want), 1))
		is, e := r.Flag()
		if is != want || e != api.OK || r.Left() != 1 {
			t.Errorf("Flag is %v, %v, %d left; want %v", is, e, r.Left(), want)
		}
	}
	for n := 2; n < 256; n++ {
		r := wire.Open([]byte{byte(n), 0})
		is, e := r.Flag()
		if is || e != api.ErrBytes || r.Left() != 2 {
			t.Errorf("Flag of %d is %v, %v, %d left", n, is, e, r.Left())
		}
	}
}

// TestNoNumbers is of P1.3 and P1.4: where the number is none, whatever is read, the reader stays.
func TestNoNumbers(t *testing.T) {
	for _, s := range noNumbers() {
		r := wire.Open([]byte("\x05" + s))
		r.Number()
		n, e := r.Number()
		refused(t, "Number", e, api.ErrBytes)
		signed, e := r.Signed()
		refused(t, "Signed", e, api.ErrBytes)
		b, e := r.Bytes(math.MaxInt)
		refused(t, "Bytes", e, api.ErrBytes)
		l, e := wire.Take(r, math.MaxInt, (*wire.Reader).Number)
		refused(t, "Take", e, api.ErrBytes)
		if n != 0 || signed != 0 || len(b) != 0 || len(l) != 0 {
			t.Errorf("of % x: %d, %d, % x, %v beside errors", s, n, signed, b, l)
		}
		if r.Left() != len(s) {
			t.Errorf("of % x: %d bytes left, want %d", s, r.Left(), len(s))
		}
	}
}

// TestBytesReads is of P1.3.
func TestBytesReads(t *testing.T) {
	for _, x := range []struct {
		bytes string
		most  int
		want  string
		left  int
	}{
		{"\x00", 0, "", 0}, {"\x00ab", math.MaxInt, "", 2}, {"\x02ab", 2, "ab", 0}, {"\x02abc", 3, "ab", 1}, {"\x01\x00\xff", 1, "\x00", 1},
		{"\x80\x01" + strings.Repeat("y", 129), 128, strings.Repeat("y", 128), 1},
	} {
		r := wire.Open([]byte(x.bytes))
		b, e := r.Bytes(x.most)
		if string(b) != x.want || e != api.OK || r.Left() != x.left {
			t.Errorf("Bytes(%d) of %q is %q, %v, %d left", x.most, x.bytes, b, e, r.Left())
		}
	}
}

// TestBytesRefused is of P1.3: the errors in their order, and the reader stays.
func TestBytesRefused(t *testing.T) {
	for _, x := range []struct {
		bytes string
		most  int
		want  api.Errno
	}{
		{"\x00", -1, api.ErrArg}, {"\x02ab", math.MinInt, api.ErrArg}, {"", -1, api.ErrArg}, {"\x80", -1, api.ErrArg},
		{"\x80\x00", 0, api.ErrBytes},
		{"\x01a", 0, api.ErrLong}, {"\x02ab", 1, api.ErrLong}, {"\x02a", 1, api.ErrLong}, {"\x02", 0, api.ErrLong},
		{"\x02a", 2, api.ErrBytes}, {"\x02", 2, api.ErrBytes}, {"\x01", 1, api.ErrBytes}, {"\x03ab", math.MaxInt, api.ErrBytes},
		{string(wire.Number(math.MaxUint64)), math.MaxInt, api.ErrLong}, {string(wire.Number(1 << 63)), math.MaxInt, api.ErrLong},
		{string(wire.Number(math.MaxInt64)) + "a", math.MaxInt, api.ErrBytes},
	} {
		r := wire.Open([]byte(x.bytes))
		b, e := r.Bytes(x.most)
		if len(b) != 0 || e != x.want || r.Left() != len(x.bytes) {
			t.Errorf("Bytes(%d) of %q is %q, %v, %d left; want %v", x.most, x.bytes, b, e, r.Left(), x.want)
		}
	}
}

// TestBytesAreNewMemory: what a reader answered and what it reads next are apart.
func TestBytesAreNewMemory(t *testing.T) {
	r := wire.Open([]byte("\x02ab\x02cd"))
	b, _ := r.Bytes(2)
	b[0] = '!'
	b = append(b, "!!!!"...)
	if c, e := r.Bytes(2); string(c) != "cd" || e != api.OK {
		t.Errorf("behind a changed answer stands %q, %v", c, e)
	}
	if string(b) != "!b!!!!" {
		t.Errorf("an answer changed: %q", b)
	}
}

// TestTakes is of P1.4.
func TestTakes(t *testing.T) {
	for _, x := range []struct {
		bytes string
		most  int
		want  []uint64
		left  int
	}{
		{"\x02\x05\x80\x01", 9, []uint64{5, 128}, 0}, {"\x02\x05\x80\x01\x07", 2, []uint64{5, 128}, 1},
		{"\x00", 0, nil, 0}, {"\x00\x05", 3, nil, 1}, {"\x01\x00", 1, []uint64{0}, 0}, {"\x01\x00", math.MaxInt, []uint64{0}, 0},
		{"\x80\x01" + strings.Repeat("\x00", 128), 128, make([]uint64, 128), 0},
	} {
		r := wire.Open([]byte(x.bytes))
		l, e := wire.Take(r, x.most, (*wire.Reader).Number)
		if !slices.Equal(l, x.want) || e != api.OK || r.Left() != x.left {
			t.Errorf("Take(%d) of % x is %v, %v, %d left", x.most, x.bytes, l, e, r.Left())
		}
	}
}

// TestTakeRefused is of P1.4: the errors in their order, and the reader stays.
func TestTakeRefused(t *testing.T) {
	for _, x := range []struct {
		bytes string
		most  int
		want  api.Errno
	}{
		{"\x00", -1, api.ErrArg}, {"\x80", -1, api.ErrArg}, {"\x02\x05\x06", math.MinInt, api.ErrArg},
		{"\x80\x00", 0, api.ErrBytes}, {"\x80", 0, api.ErrBytes},
		{"\x01\x00", 0, api.ErrLong}, {"\x02\x05\x06", 1, api.ErrLong}, {"\x02\x80\x00", 1, api.ErrLong}, {"\x02", 1, api.ErrLong},
		{string(wire.Number(math.MaxUint64)), math.MaxInt, api.ErrLong}, {string(wire.Number(1<<63)) + "\x00", math.MaxInt, api.ErrLong},
		{"\x02\x05", 2, api.ErrBytes}, {"\x02", 2, api.ErrBytes}, {"\x03\x05\x80\x00\x06", 9, api.ErrBytes},
		{string(wire.Number(math.MaxInt64)) + "\x05", math.MaxInt, api.ErrBytes},
	} {
		r := wire.Open([]byte("\x07" + x.bytes))
		r.Number()
		l, e := wire.Take(r, x.most, (*wire.Reader).Number)
		if len(l) != 0 || e != x.want || r.Left() != len(x.bytes) {
			t.Errorf("Take(%d) of % x is %v, %v, %d left; want %v", x.most, x.bytes, l, e, r.Left(), x.want)
		}
	}
}

// TestTakeWithoutFunction is of P1.4: it goes ahead of all other errors.
func TestTakeWithoutFunction(t *testing.T) {
	for _, s := range []string{"", "\x00", "\x80", "\x02\x05\x06"} {
		for _, most := range []int{math.MinInt, -1, 0, 1, math.MaxInt} {
			r := wire.Open([]byte(s))
			l, e := wire.Take[uint64](r, most, nil)
			if len(l) != 0 || e != api.ErrNil || r.Left() != len(s) {
				t.Errorf("Take(%d) of % x without a function is %v, %v, %d left", most, s, l, e, r.Left())
			}
		}
	}
}

// TestTakeAsks is of P1.4: so many times, with this reader, and not behind the first error, which is answered.
func TestTakeAsks(t *testing.T) {
	for _, fails := range []int{0, 1, 3, 4} {
		r := wire.Open([]byte("\x04abcdefgh"))
		asked := 0
		l, e := wire.Take(r, 4, func(with *wire.Reader) (string, api.Errno) {
			if with != r || r.Left() != 8-2*asked {
				t.Errorf("asked with another reader, or elsewhere: %d left", r.Left())
			}
			asked++
			with.Number()
			with.Number()
			if asked == fails {
				return "wrong", api.ErrKind
			}
			return "right", api.OK
		})
		if fails == 0 && (asked != 4 || len(l) != 4 || l[3] != "right" || e != api.OK || r.Left() != 0) {
			t.Errorf("Take asks %d times: %v, %v, %d left", asked, l, e, r.Left())
		}
		if fails > 0 && (asked != fails || len(l) != 0 || e != api.ErrKind || r.Left() != 9) {
			t.Errorf("Take asks %d times, want %d: %v, %v, %d left", asked, fails, l, e, r.Left())
		}
	}
}

// TestTakeOfNothingEach is of P1.4: as many as the number says, also where a thing has no bytes.
func TestTakeOfNothingEach(t *testing.T) {
	r := wire.Open(wire.Join(wire.Number(1000), []byte("x")))
	l, e := wire.Take(r, 1000, func(*wire.Reader) (int, api.Errno) { return 7, api.OK })
	if len(l) != 1000 || l[0] != 7 || l[999] != 7 || e != api.OK || r.Left() != 1 {
		t.Errorf("Take of nothing each: %d, %v, %d left", len(l), e, r.Left())
	}
}

// lists takes a list of lists of texts.
func lists(r *wire.Reader) ([][]string, api.Errno) {
	return wire.Take(r, 9, func(r *wire.Reader) ([]string, api.Errno) {
		return wire.Take(r, 9, func(r *wire.Reader) (string, api.Errno) {
			b, e := r.Bytes(9)
			return string(b), e
		})
	})
}

// TestTakeWithinTake is of P1.4 and P1.5.
func TestTakeWithinTake(t *testing.T) {
	whole := "\x03\x02\x01a\x00\x00\x01\x02bc"
	r := wire.Open([]byte(whole))
	l, e := lists(r)
	if e != api.OK || r.End() != api.OK || len(l) != 3 || !slices.Equal(l[0], []string{"a", ""}) || len(l[1]) != 0 || !slices.Equal(l[2], []string{"bc"}) {
		t.Errorf("lists are %q, %v", l, e)
	}
	for n := range len(whole) {
		r := wire.Open([]byte(whole[:n]))
		if l, e := lists(r); len(l) != 0 || e != api.ErrBytes || r.Left() != n {
			t.Errorf("lists of % x are %q, %v, %d left", whole[:n], l, e, r.Left())
		}
	}
}

// TestWrittenIsRead is of P1.5.
func TestWrittenIsRead(t *testing.T) {
	for _, n := range edges() {
		text := bytes.Repeat([]byte{byte(n)}, int(n%300))
		all := wire.Join(wire.Number(n), wire.Signed(int64(n)), wire.Signed(-int64(n)), wire.Flag(n%2 == 1), wire.Bytes(text))
		r := wire.Open(all)
		a, e1 := r.Number()
		b, e2 := r.Signed()
		c, e3 := r.Signed()
		d, e4 := r.Flag()
		f, e5 := r.Bytes(300)
		if a != n || b != int64(n) || c != -int64(n) || d != (n%2 == 1) || !bytes.Equal(f, text) {
			t.Errorf("of %d is read %d, %d, %d, %v, % x", n, a, b, c, d, f)
		}
		if e1 != api.OK || e2 != api.OK || e3 != api.OK || e4 != api.OK || e5 != api.OK || r.End() != api.OK {
			t.Errorf("of %d: %v, %v, %v, %v, %v, %v", n, e1, e2, e3, e4, e5, r.End())
		}
	}
	form, e := wire.Put(edges(), wire.Number)
	r := wire.Open(form)
	l, e2 := wire.Take(r, len(edges()), (*wire.Reader).Number)
	if e != api.OK || e2 != api.OK || !slices.Equal(l, edges()) || r.End() != api.OK {
		t.Errorf("a list is read as %v, %v, %v", l, e, e2)
	}
}

// again tells whether b, as far as it was read, is what is written of what was read.
func again[T any](t *testing.T, b []byte, read func(*wire.Reader) (T, api.Errno), form func(T) []byte) {
	t.Helper()
	r := wire.Open(b)
	x, e := read(r)
	if e == api.OK && !bytes.Equal(form(x), b[:len(b)-r.Left()]) {
		t.Errorf("of % x is read %v, whose form is % x, with %d left", b, x, form(x), r.Left())
	}
	if e != api.OK && r.Left() != len(b) {
		t.Errorf("of % x nothing is read, and %d left", b, r.Left())
	}
}

// allAgain does so for each kind.
func allAgain(t *testing.T, b []byte) {
	t.Helper()
	again(t, b, (*wire.Reader).Number, wire.Number)
	again(t, b, (*wire.Reader).Signed, wire.Signed)
	again(t, b, (*wire.Reader).Flag, wire.Flag)
	again(t, b, func(r *wire.Reader) ([]byte, api.Errno) { return r.Bytes(len(b)) }, wire.Bytes)
	again(t, b, func(r *wire.Reader) ([]int64, api.Errno) { return wire.Take(r, len(b), (*wire.Reader).Signed) },
		func(l []int64) []byte { form, _ := wire.Put(l, wire.Signed); return form })
}

// TestReadIsWritten is of P1.5: all bytes up to two, and those about the edges up to eleven.
func TestReadIsWritten(t *testing.T) {
	allAgain(t, nil)
	for a := range 256 {
		allAgain(t, []byte{byte(a)})
		for b := range 256 {
			allAgain(t, []byte{byte(a), byte(b)})
		}
	}
	for n := range 11 {
		for _, low := range []byte{0x80, 0x81, 0xff} {
			for last := range 256 {
				allAgain(t, append(bytes.Repeat([]byte{low}, n), byte(last), 0, 0))
			}
		}
	}
}

// TestNoBeginnings is of P1.5: no form is the beginning of another one of its kind.
func TestNoBeginnings(t *testing.T) {
	kinds := map[string][][]byte{"Flag": {wire.Flag(false), wire.Flag(true)}}
	var lists [][]uint64
	for _, n := range edges() {
		kinds["Number"] = append(kinds["Number"], wire.Number(n))
		kinds["Signed"] = append(kinds["Signed"], wire.Signed(int64(n)))
		kinds["Bytes"] = append(kinds["Bytes"], wire.Bytes(wire.Number(n)))
		lists = append(lists, []uint64{n}, []uint64{n, n}, make([]uint64, n%5))
	}
	for _, l := range lists {
		form, _ := wire.Put(l, wire.Number)
		kinds["Put"] = append(kinds["Put"], form)
	}
	for kind, forms := range kinds {
		slices.SortFunc(forms, bytes.Compare)
		forms = slices.CompactFunc(forms, bytes.Equal)
		// Sorted, the beginning of any form stands right ahead of one that it begins.
		for i := 1; i < len(forms); i++ {
			if bytes.HasPrefix(forms[i], forms[i-1]) {
				t.Errorf("%s: % x begins % x", kind, forms[i-1], forms[i])
			}
		}
	}
}

// FuzzReads is of P1.3 to P1.5: any bytes are read as what is written of it, or refused.
func FuzzReads(f *testing.F) {
	for _, s := range noNumbers() {
		f.Add([]byte(s))
	}
	f.Add([]byte("\x02ab"))
	f.Add([]byte("\x02\x05\x80\x01"))
	f.Fuzz(func(t *testing.T, b []byte) { allAgain(t, b) })
}
