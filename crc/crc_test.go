package crc_test

import (
	"bytes"
	"hash/crc32"
	"math"
	"math/bits"
	"math/rand"
	"slices"
	"strings"
	"testing"
	"time"

	"steading/crc"
)

// worded is the sum as the chapter's words say it, bit by bit.
func worded(b []byte) uint32 {
	s := uint64(1)<<32 - 1
	for _, x := range b {
		s ^= uint64(x)
		for range 8 {
			if s%2 == 1 {
				s = s/2 ^ 2197175160
			} else {
				s /= 2
			}
		}
	}
	return uint32(s ^ (1<<32 - 1))
}

// texts are bytes of each length up to 70, and of some beyond, and bytes all alike.
func texts() [][]byte {
	r := rand.New(rand.NewSource(1))
	var l [][]byte
	for n := range 71 {
		b := make([]byte, n)
		r.Read(b)
		l = append(l, b, make([]byte, n), bytes.Repeat([]byte{255}, n))
	}
	for _, n := range []int{127, 128, 129, 255, 256, 257, 1000, 4097, 1 << 16} {
		b := make([]byte, n)
		r.Read(b)
		l = append(l, b)
	}
	return l
}

// sums are any sums, the ends among them.
func sums() []uint32 {
	l := []uint32{0, 1, 2, 3, 7, 15, 16, 1 << 31, 2197175160, math.MaxUint32 - 1, math.MaxUint32}
	r := rand.New(rand.NewSource(2))
	for range 20 {
		l = append(l, r.Uint32())
	}
	return l
}

// having is four bytes that have that sum, found backwards from it.
func having(sum uint32) []byte {
	s := ^sum
	for range 32 {
		// Only the step of an odd one sets the highest bit.
		if s>>31 == 1 {
			s = (s^2197175160)<<1 | 1
		} else {
			s <<= 1
		}
	}
	s = ^s
	return []byte{byte(s), byte(s >> 8), byte(s >> 16), byte(s >> 24)}
}

// soon fails where f does not end soon.
func soon(t *testing.T, what string, f func() uint32) uint32 {
	t.Helper()
	c := make(chan uint32, 1)
	go func() { c <- f() }()
	select {
	case x := <-c:
		return x
	case <-time.After(10 * time.Second):
		t.Fatalf("%s does not end soon", what)
		return 0
	}
}

// TestSumExamples is of P2.1: the chapter's examples.
func TestSumExamples(t *testing.T) {
	for _, x := range []struct {
		text string
		want uint32
	}{
		{"", 0}, {"123456789", 3808858755}, {"a", 3251651376}, {"\x00\x00\x00\x00", 1214729159},
	} {
		if got := crc.Sum([]byte(x.text)); got != x.want {
			t.Errorf("Sum of %q is %d, want %d", x.text, got, x.want)
		}
	}
}

// TestSumOfNone is of P2.1: of no lists, and of lists without bytes.
func TestSumOfNone(t *testing.T) {
	for i, got := range []uint32{crc.Sum(), crc.Sum(nil), crc.Sum([]byte{}), crc.Sum(nil, []byte{}, nil), crc.Sum([][]byte{}...), crc.Sum([][]byte(nil)...)} {
		if got != 0 {
			t.Errorf("%d: the sum of none is %d", i, got)
		}
	}
}

// TestSumAsWorded is of P2.1.
func TestSumAsWorded(t *testing.T) {
	for b := range 256 {
		if got, want := crc.Sum([]byte{byte(b)}), worded([]byte{byte(b)}); got != want {
			t.Errorf("Sum of the byte %d is %d, want %d", b, got, want)
		}
	}
	castagnoli := crc32.MakeTable(crc32.Castagnoli)
	for _, b := range texts() {
		got := crc.Sum(b)
		if got != worded(b) || got != crc32.Checksum(b, castagnoli) {
			t.Errorf("Sum of %d bytes is %d, want %d", len(b), got, worded(b))
		}
	}
}

// TestSumOfMany is of P2.1: all lists, in order, wherever the bytes are parted.
func TestSumOfMany(t *testing.T) {
	whole := []byte("ab\x00\xff, one behind the other")
	want := worded(whole)
	for i := range len(whole) + 1 {
		for j := i; j <= len(whole); j++ {
			if got := crc.Sum(whole[:i], whole[i:j], nil, whole[j:]); got != want {
				t.Errorf("Sum parted at %d and %d is %d, want %d", i, j, got, want)
			}
		}
	}
	var each [][]byte
	for i := range whole {
		each = append(each, whole[i:i+1])
	}
	if got := crc.Sum(each...); got != want {
		t.Errorf("Sum of each byte is %d, want %d", got, want)
	}
	if got := crc.Sum([]byte("b"), []byte("a")); got != worded([]byte("ba")) {
		t.Errorf("Sum of b, a is %d", got)
	}
}

// TestNothingIsChanged is of P2.1 to P2.3: what is handed in stays, spare room behind it included, and the next call answers the same.
func TestNothingIsChanged(t *testing.T) {
	room := []byte("123456789 and more")
	kept := bytes.Clone(room)
	b := room[:9]
	lists := [][]byte{b[:4], b[4:], nil}
	for range 3 {
		if crc.Sum(lists...) != 3808858755 || crc.More(0, b) != 3808858755 || !crc.Holds(b, 3808858755) || crc.Zeros(0, 4) != 1214729159 {
			t.Error("a call answers something else the next time")
		}
	}
	if !bytes.Equal(room, kept) || len(lists) != 3 || string(lists[0]) != "1234" || string(lists[1]) != "56789" || lists[2] != nil {
		t.Errorf("what was handed in is changed: %q, %q", room, lists)
	}
	room[0] = 'X'
	if crc.Sum(b) != worded([]byte("X23456789")) {
		t.Error("what was handed in is kept")
	}
}

// TestMore is of P2.2 and P2.4: of the bytes ahead it needs their sum alone, whatever that is.
func TestMore(t *testing.T) {
	if got := crc.More(crc.Sum([]byte("12345")), []byte("6789")); got != 3808858755 {
		t.Errorf("the example is %d", got)
	}
	for _, sum := range sums() {
		ahead := having(sum)
		if worded(ahead) != sum {
			t.Fatalf("% x have not the sum %d", ahead, sum)
		}
		for _, b := range texts() {
			if got, want := crc.More(sum, b), worded(append(ahead, b...)); got != want {
				t.Errorf("More(%d) of %d bytes is %d, want %d", sum, len(b), got, want)
			}
		}
		if crc.More(sum, nil) != sum || crc.More(sum, []byte{}) != sum {
			t.Errorf("More(%d) of none is %d", sum, crc.More(sum, nil))
		}
	}
}

// TestZeros is of P2.2: as many noughts as are asked for.
func TestZeros(t *testing.T) {
	noughts := make([]byte, 1<<20+3)
	for _, sum := range sums() {
		for n := range 300 {
			if got, want := crc.Zeros(sum, n), worded(append(having(sum), noughts[:n]...)); got != want {
				t.Errorf("Zeros(%d, %d) is %d, want %d", sum, n, got, want)
			}
		}
	}
	castagnoli := crc32.MakeTable(crc32.Castagnoli)
	for _, n := range []int{1<<16 - 1, 1 << 16, 1<<16 + 1, 1<<20 - 1, 1 << 20, 1<<20 + 3} {
		for _, sum := range sums() {
			if got, want := crc.Zeros(sum, n), crc32.Update(sum, castagnoli, noughts[:n]); got != want {
				t.Errorf("Zeros(%d, %d) is %d, want %d", sum, n, got, want)
			}
		}
	}
	if crc.Zeros(0, 4) != 1214729159 {
		t.Errorf("the example is %d", crc.Zeros(0, 4))
	}
}

// TestZerosBelowNone is of P2.2: n below 0 is as 0.
func TestZerosBelowNone(t *testing.T) {
	for _, n := range []int{0, -1, -2, -8, -1 << 31, -1<<31 - 1, math.MinInt + 1, math.MinInt} {
		for _, sum := range sums() {
			if got := soon(t, "Zeros below 0", func() uint32 { return crc.Zeros(sum, n) }); got != sum {
				t.Errorf("Zeros(%d, %d) is %d", sum, n, got)
			}
		}
	}
	if crc.Zeros(7, -1) != 7 {
		t.Errorf("the example is %d", crc.Zeros(7, -1))
	}
}

// great are numbers of noughts that no bytes could be there for.
func great() []int {
	l := []int{math.MaxInt, math.MaxInt - 1, math.MaxInt - 4, math.MaxInt32, math.MaxInt32 + 1, math.MaxUint32, math.MaxUint32 + 1, 1<<40 + 5, 1<<62 + 12345}
	for s := 21; s < 63; s++ {
		l = append(l, 1<<s, 1<<s-1, 1<<s+1)
	}
	return l
}

// TestGreatZeros is of P2.2: it ends soon. 2^31 - 1 noughts more make of a sum itself, since the polynomial is x + 1 times a primitive one of degree 31.
func TestGreatZeros(t *testing.T) {
	const round = math.MaxInt32
	for _, n := range great() {
		for _, sum := range sums() {
			got := soon(t, "Zeros of a great number", func() uint32 { return crc.Zeros(sum, n) })
			if want := crc.Zeros(sum, n%round); got != want {
				t.Errorf("Zeros(%d, %d) is %d, want %d", sum, n, got, want)
			}
			if want := crc.Zeros(crc.Zeros(sum, n/3), n-n/3); got != want {
				t.Errorf("Zeros(%d, %d) is %d, want %d of two pieces", sum, n, got, want)
			}
			if want := crc.More(crc.Zeros(sum, n-3), make([]byte, 3)); got != want {
				t.Errorf("Zeros(%d, %d) is %d, want %d of three noughts more", sum, n, got, want)
			}
		}
	}
}

// TestJoin is of P2.3 and P2.4: two pieces, wherever they are parted.
func TestJoin(t *testing.T) {
	if got := crc.Join(crc.Sum([]byte("1234")), crc.Sum([]byte("56789")), 5); got != 3808858755 {
		t.Errorf("the example is %d", got)
	}
	for _, whole := range texts() {
		for _, at := range []int{0, 1, 2, len(whole) / 3, len(whole) - 1, len(whole)} {
			if at < 0 || at > len(whole) {
				continue
			}
			a, b := whole[:at], whole[at:]
			if got := crc.Join(worded(a), worded(b), len(b)); got != worded(whole) {
				t.Errorf("Join of %d and %d bytes is %d, want %d", len(a), len(b), got, worded(whole))
			}
		}
	}
	for _, sum := range sums() {
		b := []byte("behind")
		if got, want := crc.Join(sum, worded(b), len(b)), worded(append(having(sum), b...)); got != want {
			t.Errorf("Join behind the sum %d is %d, want %d", sum, got, want)
		}
	}
}

// TestJoinOfAny is of P2.3: Zeros(a, n) xor Zeros(0, n) xor b, of any a, b and n.
func TestJoinOfAny(t *testing.T) {
	small := []int{0, 1, 2, 3, 4, 5, 100, 128, 2048}
	for _, n := range append(small, great()...) {
		for _, a := range sums() {
			behind := crc.Zeros(a, n) ^ crc.Zeros(0, n)
			for _, b := range []uint32{0, 9, a, 0xDEADBEEF} {
				got := soon(t, "Join of a great number", func() uint32 { return crc.Join(a, b, n) })
				if want := behind ^ b; got != want {
					t.Errorf("Join(%d, %d, %d) is %d, want %d", a, b, n, got, want)
				}
			}
		}
	}
}

// TestJoinOfNoBytes is of P2.3: n at 0 and below it, also where no bytes have the sum b.
func TestJoinOfNoBytes(t *testing.T) {
	for _, n := range []int{0, -1, -7, -1 << 32, math.MinInt} {
		for _, a := range sums() {
			for _, b := range sums() {
				if got := soon(t, "Join below 0", func() uint32 { return crc.Join(a, b, n) }); got != a^b {
					t.Errorf("Join(%d, %d, %d) is %d, want %d", a, b, n, got, a^b)
				}
			}
		}
	}
	if crc.Join(9, 0, 0) != 9 {
		t.Errorf("the example is %d", crc.Join(9, 0, 0))
	}
}

// TestHolds is of P2.3: their sum, and no other one.
func TestHolds(t *testing.T) {
	if !crc.Holds([]byte("123456789"), 3808858755) || crc.Holds([]byte("123456788"), 3808858755) {
		t.Error("the example does not hold")
	}
	if !crc.Holds(nil, 0) || !crc.Holds([]byte{}, 0) || crc.Holds(nil, 1) || crc.Holds(nil, math.MaxUint32) {
		t.Error("Holds of none")
	}
	for _, b := range texts() {
		sum := worded(b)
		if !crc.Holds(b, sum) {
			t.Errorf("%d bytes have not their sum", len(b))
		}
		for bit := range 32 {
			if crc.Holds(b, sum^1<<bit) {
				t.Errorf("%d bytes have a sum with another bit %d", len(b), bit)
			}
		}
	}
}

// TestThreePieces is of P2.4: sums of three pieces that are as long, xor-ed, are that of the pieces xor-ed.
func TestThreePieces(t *testing.T) {
	r := rand.New(rand.NewSource(3))
	for _, n := range []int{0, 1, 2, 3, 4, 5, 31, 32, 33, 128, 1000, 1 << 16} {
		for range 10 {
			a, b, c, all := make([]byte, n), make([]byte, n), make([]byte, n), make([]byte, n)
			r.Read(a)
			r.Read(b)
			r.Read(c)
			for i := range all {
				all[i] = a[i] ^ b[i] ^ c[i]
			}
			if got, want := crc.Sum(a)^crc.Sum(b)^crc.Sum(c), crc.Sum(all); got != want {
				t.Errorf("three pieces of %d bytes: %d, want %d", n, got, want)
			}
		}
	}
}

// flipped is b with these bits turned over.
func flipped(b []byte, at ...int) []byte {
	c := bytes.Clone(b)
	for _, i := range at {
		c[i/8] ^= 1 << (i % 8)
	}
	return c
}

// TestFewBits is of P2.4: all texts of a short length, and some of the greatest, that differ in one to three bits.
func TestFewBits(t *testing.T) {
	b := []byte("short")
	sum := crc.Sum(b)
	for i := range 8 * len(b) {
		for j := i; j < 8*len(b); j++ {
			for k := j; k < 8*len(b); k++ {
				if i < j && j == k || i == j && j < k {
					continue // two alike leave one, which is there as i, i, i
				}
				if crc.Sum(flipped(b, i, j, k)) == sum {
					t.Errorf("the bits %d, %d, %d make no other sum", i, j, k)
				}
			}
			if i < j && crc.Sum(flipped(b, i, j)) == sum {
				t.Errorf("the bits %d, %d make no other sum", i, j)
			}
		}
	}
	r := rand.New(rand.NewSource(4))
	b = make([]byte, 1<<16)
	r.Read(b)
	sum = crc.Sum(b)
	for range 100 {
		at := []int{r.Intn(1 << 18), 1<<18 + r.Intn(1<<17), 3<<17 + r.Intn(1<<17)}
		for n := range at {
			if crc.Sum(flipped(b, at[:n+1]...)) == sum {
				t.Errorf("the bits %v make no other sum", at[:n+1])
			}
		}
	}
}

// TestAllBitsOfTheGreatest is of P2.4. What one bit changes of a sum hangs, by the promise of three pieces, on how many bytes follow alone: so one and two bits make another sum where all these changes are unlike, and none is 0; three do, where each change has an odd number of bits.
func TestAllBitsOfTheGreatest(t *testing.T) {
	const most = 1 << 16
	var changes []uint32
	for bit := range 8 {
		set, unset := crc.Sum([]byte{1 << bit}), crc.Sum([]byte{0})
		for range most {
			changes = append(changes, set^unset)
			set, unset = crc.More(set, []byte{0}), crc.More(unset, []byte{0})
		}
	}
	slices.Sort(changes)
	if len(slices.Compact(slices.Clone(changes))) != 8*most || changes[0] == 0 {
		t.Error("one or two bits make no other sum")
	}
	for _, x := range changes {
		if bits.OnesCount32(x)%2 == 0 {
			t.Fatalf("a bit changes an even number of bits of the sum: %x", x)
		}
	}
}

// within tells whether all texts that differ within these bits alone have other sums: whether no change of one bit is made of those of others.
func within(b []byte, from, n int) bool {
	sum := crc.Sum(b)
	var led [32]uint32 // by its highest bit each change that the ones ahead do not make
next:
	for i := range n {
		x := crc.Sum(flipped(b, from+i)) ^ sum
		for x != 0 {
			high := bits.Len32(x) - 1
			if led[high] == 0 {
				led[high] = x
				continue next
			}
			x ^= led[high]
		}
		return false
	}
	return true
}

// TestBitsThatFollow is of P2.4: texts that differ within 32 bits that follow each other, in a short text wherever they are, in the greatest at its ends and amid.
func TestBitsThatFollow(t *testing.T) {
	b := []byte("bits that follow each other")
	for from := range 8*len(b) - 31 {
		if !within(b, from, 32) {
			t.Errorf("some of the 32 bits from %d on make no other sum", from)
		}
	}
	b = bytes.Repeat(b, 1<<16/len(b)+1)[:1<<16]
	for _, from := range []int{0, 1, 7, 8, 4 << 16, 4<<16 + 13, 8<<16 - 33, 8<<16 - 32} {
		if !within(b, from, 32) {
			t.Errorf("some of the 32 bits from %d on make no other sum in the greatest text", from)
		}
	}
	r := rand.New(rand.NewSource(5))
	text := []byte(strings.Repeat("~", 100))
	sum := crc.Sum(text)
	for range 10000 {
		other := bytes.Clone(text)
		from, change := r.Intn(8*len(text)-31), r.Uint32()|1
		for bit := range 32 {
			other[(from+bit)/8] ^= byte(change>>bit&1) << ((from + bit) % 8)
		}
		if crc.Sum(other) == sum {
			t.Errorf("the change %x from %d on makes no other sum", change, from)
		}
	}
}

// FuzzPieces is of P2.1 to P2.4: any bytes, parted anywhere, behind any sum.
func FuzzPieces(f *testing.F) {
	f.Add([]byte("123456789"), uint32(0), 4)
	f.Add([]byte{}, uint32(math.MaxUint32), -1)
	f.Fuzz(func(t *testing.T, b []byte, sum uint32, n int) {
		at := int(uint(n) % uint(len(b)+1))
		want := worded(append(having(sum), b...))
		if got := crc.More(crc.More(sum, b[:at]), b[at:]); got != want {
			t.Errorf("More is %d, want %d", got, want)
		}
		if got := crc.Join(crc.More(sum, b[:at]), crc.Sum(b[at:]), len(b)-at); got != want {
			t.Errorf("Join is %d, want %d", got, want)
		}
		if got, want := crc.Join(sum, crc.Sum(b), n), crc.Zeros(sum, n)^crc.Zeros(0, n)^worded(b); got != want {
			t.Errorf("Join(%d, n, %d) is %d, want %d", sum, n, got, want)
		}
	})
}
