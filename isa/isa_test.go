package isa_test

import (
	"bytes"
	"encoding/binary"
	"fmt"
	"math"
	"math/rand"
	"slices"
	"strings"
	"testing"
	"time"

	"steading/api"
	"steading/isa"
)

// row is what the chapter says of an op.
type row struct {
	op     api.Op
	name   string
	form   api.Form
	names  string // of D, A, B, and I for Imm
	reads  string
	writes bool
	leads  bool
	half   bool // Imm is from 0 to 65535
}

// rows are all ops, in order.
func rows() []row {
	return []row{
		{op: 1, name: "nop", form: 0},
		{op: 2, name: "stop", form: 0},
		{op: 3, name: "call", form: 1, names: "I", half: true},
		{op: 4, name: "back", form: 0},
		{op: 5, name: "const", form: 3, names: "DI", writes: true},
		{op: 6, name: "high", form: 3, names: "DI", reads: "D", writes: true, half: true},
		{op: 7, name: "copy", form: 4, names: "DA", reads: "A", writes: true},
		{op: 8, name: "add", form: 5, names: "DAB", reads: "AB", writes: true},
		{op: 9, name: "sub", form: 5, names: "DAB", reads: "AB", writes: true},
		{op: 10, name: "mul", form: 5, names: "DAB", reads: "AB", writes: true},
		{op: 11, name: "div", form: 5, names: "DAB", reads: "AB", writes: true},
		{op: 12, name: "mod", form: 5, names: "DAB", reads: "AB", writes: true},
		{op: 13, name: "and", form: 5, names: "DAB", reads: "AB", writes: true},
		{op: 14, name: "or", form: 5, names: "DAB", reads: "AB", writes: true},
		{op: 15, name: "xor", form: 5, names: "DAB", reads: "AB", writes: true},
		{op: 16, name: "shl", form: 5, names: "DAB", reads: "AB", writes: true},
		{op: 17, name: "shr", form: 5, names: "DAB", reads: "AB", writes: true},
		{op: 18, name: "addi", form: 6, names: "DAI", reads: "A", writes: true},
		{op: 19, name: "load", form: 6, names: "DAI", reads: "A", writes: true},
		{op: 20, name: "store", form: 6, names: "DAI", reads: "AD"},
		{op: 21, name: "loadb", form: 6, names: "DAI", reads: "A", writes: true},
		{op: 22, name: "storeb", form: 6, names: "DAI", reads: "AD"},
		{op: 23, name: "jump", form: 1, names: "I", leads: true},
		{op: 24, name: "jumpr", form: 2, names: "A", reads: "A"},
		{op: 25, name: "link", form: 3, names: "DI", writes: true, leads: true},
		{op: 26, name: "beq", form: 6, names: "DAI", reads: "AD", leads: true},
		{op: 27, name: "bne", form: 6, names: "DAI", reads: "AD", leads: true},
		{op: 28, name: "blt", form: 6, names: "DAI", reads: "AD", leads: true},
	}
}

// no are numbers that are no op's.
func no() []api.Op {
	return []api.Op{math.MinInt, -1, 0, 29, 30, 127, 128, 255, 256, 257, 256 + 2, 1 << 32, 1<<32 + 2, math.MaxInt}
}

// may says whether an instruction of that row may be, as the chapter does.
func (r row) may(i api.Instr) bool {
	for _, x := range []struct {
		name string
		n    int
	}{{"D", i.D}, {"A", i.A}, {"B", i.B}} {
		if strings.Contains(r.names, x.name) {
			if x.n < 0 || x.n > 15 {
				return false
			}
		} else if x.n != 0 {
			return false
		}
	}
	switch {
	case !strings.Contains(r.names, "I"):
		return i.Imm == 0
	case r.half:
		return i.Imm >= 0 && i.Imm <= 65535
	}
	return i.Imm >= -32768 && i.Imm <= 32767
}

// word lays an instruction's bytes, as the chapter does.
func (r row) word(i api.Instr) [4]byte {
	var b [4]byte
	b[0] = byte(r.op)
	b[1] = byte(16*i.D + i.A)
	if r.form == api.FormDAB {
		b[2] = byte(i.B)
		return b
	}
	low := (i.Imm + 1<<20) % (1 << 16)
	b[2], b[3] = byte(low%256), byte(low/256)
	return b
}

// text writes an instruction, as the chapter does.
func (r row) text(i api.Instr) string {
	s := r.name
	for _, x := range r.names {
		switch x {
		case 'D':
			s += fmt.Sprintf(" r%d", i.D)
		case 'A':
			s += fmt.Sprintf(" r%d", i.A)
		case 'B':
			s += fmt.Sprintf(" r%d", i.B)
		case 'I':
			s += fmt.Sprintf(" %d", i.Imm)
		}
	}
	return s
}

// registers are some that may be, and some that may not.
func registers() []int { return []int{-1, 0, 1, 2, 14, 15, 16, 17, 256, math.MinInt, math.MaxInt} }

// imms are some that may be, and some that may not.
func imms() []int {
	return []int{math.MinInt, -1 << 32, -65536, -32769, -32768, -32767, -257, -256, -2, -1, 0, 1, 2, 255, 256, 32766, 32767, 32768, 65534, 65535, 65536, 1 << 32, math.MaxInt}
}

// each goes over instructions that may be and that may not, each with its row.
func each(f func(r row, i api.Instr)) {
	for _, r := range rows() {
		for _, d := range registers() {
			for _, a := range registers() {
				for _, b := range registers() {
					for _, imm := range imms() {
						f(r, api.Instr{Op: r.op, D: d, A: a, B: b, Imm: imm})
					}
				}
			}
		}
	}
}

// wordOf is the word of these bytes.
func wordOf(b [4]byte) uint32 { return binary.LittleEndian.Uint32(b[:]) }

// soon fails where f does not end soon.
func soon(t *testing.T, what string, f func()) {
	t.Helper()
	c := make(chan bool)
	go func() {
		defer close(c)
		f()
	}()
	select {
	case <-c:
	case <-time.After(30 * time.Second):
		t.Fatalf("%s does not end soon", what)
	}
}

// parsed is the instruction of a text that is one.
func parsed(t *testing.T, s string) api.Instr {
	t.Helper()
	i, e := isa.Parse(s)
	if e != api.OK {
		t.Fatalf("Parse of %q: %v", s, e)
	}
	return i
}

// TestExamples is of P3.1 to P3.3: the chapter's examples.
func TestExamples(t *testing.T) {
	for _, x := range []struct {
		i    api.Instr
		text string
		want []byte
	}{
		{api.Instr{Op: api.OpConst, D: 1, Imm: -2}, "const r1 -2", []byte{5, 0x10, 0xfe, 0xff}},
		{api.Instr{Op: api.OpAdd, D: 1, A: 2, B: 3}, "add r1 r2 r3", []byte{8, 0x12, 3, 0}},
		{api.Instr{Op: api.OpStop}, "stop", []byte{2, 0, 0, 0}},
		{api.Instr{Op: api.OpBeq, D: 1, A: 2, Imm: -3}, "beq r1 r2 -3", []byte{26, 0x12, 0xfd, 0xff}},
		{api.Instr{Op: api.OpAddi, D: 1, A: 2, Imm: 5}, "addi r1 r2 5", []byte{18, 0x12, 5, 0}},
	} {
		if b, e := isa.Bytes(x.i); !bytes.Equal(b, x.want) || e != api.OK {
			t.Errorf("Bytes of %v: % x, %v", x.i, b, e)
		}
		if s, e := isa.Text(x.i); s != x.text || e != api.OK {
			t.Errorf("Text of %v: %q, %v", x.i, s, e)
		}
		if i, e := isa.Parse(x.text); i != x.i || e != api.OK {
			t.Errorf("Parse of %q: %v, %v", x.text, i, e)
		}
	}
	for _, s := range []string{"addi r1 r2 05", "add r1 r2 r16"} {
		if i, e := isa.Parse(s); i != (api.Instr{}) || e != api.ErrBytes {
			t.Errorf("Parse of %q: %v, %v", s, i, e)
		}
	}
	for _, w := range []uint32{0, 0x01000002} {
		if i, e := isa.Of(w); i != (api.Instr{}) || e != api.ErrBytes {
			t.Errorf("Of %x: %v, %v", w, i, e)
		}
	}
	if i, e := isa.Read([]byte{2, 0, 0}); i != (api.Instr{}) || e != api.ErrBytes {
		t.Errorf("Read of three bytes: %v, %v", i, e)
	}
	if l := isa.Reads(parsed(t, "add r3 r2 r2")); !slices.Equal(l, []int{2}) {
		t.Errorf("Reads of add: %v", l)
	}
	if l := isa.Reads(parsed(t, "high r1 5")); !slices.Equal(l, []int{1}) {
		t.Errorf("Reads of high: %v", l)
	}
	if d, ok := isa.Writes(parsed(t, "store r1 r2 0")); d != 0 || ok {
		t.Errorf("Writes of store: %v, %v", d, ok)
	}
	if to, ok := isa.Leads(parsed(t, "jump -1"), 8); to != 4 || !ok {
		t.Errorf("Leads of jump: %v, %v", to, ok)
	}
	if to, ok := isa.Leads(parsed(t, "call 3"), 8); to != 0 || ok {
		t.Errorf("Leads of call: %v, %v", to, ok)
	}
}

// TestInstructions is of P3.1, P3.2 and P3.4: the words, bytes and texts of instructions at the edges, and the refusal of what may not be.
func TestInstructions(t *testing.T) {
	texts, words := map[string]api.Instr{}, map[uint32]api.Instr{}
	each(func(r row, i api.Instr) {
		w, e := isa.Word(i)
		b, f := isa.Bytes(i)
		s, g := isa.Text(i)
		if !r.may(i) {
			if w != 0 || len(b) != 0 || s != "" || e != api.ErrArg || f != api.ErrArg || g != api.ErrArg {
				t.Fatalf("%v: %x, %v; % x, %v; %q, %v", i, w, e, b, f, s, g)
			}
			return
		}
		want := r.word(i)
		if w != wordOf(want) || !bytes.Equal(b, want[:]) || s != r.text(i) || e != api.OK || f != api.OK || g != api.OK {
			t.Fatalf("%v: %x, %v; % x, %v; %q, %v", i, w, e, b, f, s, g)
		}
		back, e := isa.Of(w)
		read, f := isa.Read(b)
		again, g := isa.Parse(s)
		if back != i || read != i || again != i || e != api.OK || f != api.OK || g != api.OK {
			t.Fatalf("%v comes back as %v, %v; %v, %v; %v, %v", i, back, e, read, f, again, g)
		}
		if _, there := texts[s]; there {
			t.Fatalf("two have the text %q", s)
		}
		if _, there := words[w]; there {
			t.Fatalf("two have the word %x", w)
		}
		texts[s], words[w] = i, i
	})
	if len(texts) < 1000 {
		t.Errorf("only %d instructions that may be", len(texts))
	}
}

// TestNoOps is of P3.1 to P3.3: what is no op may not be, and has nothing.
func TestNoOps(t *testing.T) {
	for _, op := range no() {
		for _, i := range []api.Instr{{Op: op}, {Op: op, D: 1, A: 2, B: 3}, {Op: op, Imm: 5}} {
			if w, e := isa.Word(i); w != 0 || e != api.ErrArg {
				t.Errorf("Word of %v: %x, %v", i, w, e)
			}
			if b, e := isa.Bytes(i); len(b) != 0 || e != api.ErrArg {
				t.Errorf("Bytes of %v: % x, %v", i, b, e)
			}
			if s, e := isa.Text(i); s != "" || e != api.ErrArg {
				t.Errorf("Text of %v: %q, %v", i, s, e)
			}
			if l := isa.Reads(i); len(l) != 0 {
				t.Errorf("Reads of %v: %v", i, l)
			}
			if d, ok := isa.Writes(i); d != 0 || ok {
				t.Errorf("Writes of %v: %v, %v", i, d, ok)
			}
			if to, ok := isa.Leads(i, 8); to != 0 || ok {
				t.Errorf("Leads of %v: %v, %v", i, to, ok)
			}
		}
		if s := isa.Name(op); s != "" {
			t.Errorf("Name of %d: %q", op, s)
		}
		if f := isa.Form(op); f != api.FormNone {
			t.Errorf("Form of %d: %d", op, f)
		}
	}
}

// taken is what the bytes of a word say, as the chapter does; false, if they are none's.
func taken(all []row, b [4]byte) (api.Instr, bool) {
	for _, r := range all {
		if b[0] != byte(r.op) {
			continue
		}
		i := api.Instr{Op: r.op}
		if strings.Contains(r.names, "D") {
			i.D = int(b[1] / 16)
		}
		if strings.Contains(r.names, "A") {
			i.A = int(b[1] % 16)
		}
		if strings.Contains(r.names, "B") {
			i.B = int(b[2])
		}
		if strings.Contains(r.names, "I") {
			i.Imm = int(b[2]) + 256*int(b[3])
			if !r.half && i.Imm > 32767 {
				i.Imm -= 65536
			}
		}
		return i, r.may(i) && r.word(i) == b
	}
	return api.Instr{}, false
}

// TestWords is of P3.1 and P3.4: any word is one instruction's, or none's.
func TestWords(t *testing.T) {
	all := rows()
	check := func(b [4]byte) {
		want, ok := taken(all, b)
		i, e := isa.Of(wordOf(b))
		j, f := isa.Read(b[:])
		if !ok {
			if i != (api.Instr{}) || j != i || e != api.ErrBytes || f != api.ErrBytes {
				t.Fatalf("% x is taken for %v, %v; %v, %v", b, i, e, j, f)
			}
			return
		}
		if i != want || j != want || e != api.OK || f != api.OK {
			t.Fatalf("% x is taken for %v, %v; %v, %v, want %v", b, i, e, j, f, want)
		}
		if w, e := isa.Word(i); w != wordOf(b) || e != api.OK {
			t.Fatalf("Word of %v is %x, %v, want % x", i, w, e, b)
		}
	}
	some := []byte{0, 1, 2, 14, 15, 16, 17, 31, 64, 127, 128, 129, 240, 254, 255}
	for op := range 256 {
		for regs := range 256 {
			for _, low := range some[:8] {
				for _, high := range []byte{0, 1, 127, 128, 255} {
					if op > 32 && regs%16 > 1 {
						continue
					}
					check([4]byte{byte(op), byte(regs), low, high})
				}
			}
		}
		for _, regs := range some {
			for low := range 256 {
				check([4]byte{byte(op), regs, byte(low), 0})
				check([4]byte{byte(op), regs, 0, byte(low)})
			}
		}
	}
	r := rand.New(rand.NewSource(3))
	for range 100000 {
		w := r.Uint32()
		check([4]byte{byte(w) % 32, byte(w >> 8), byte(w >> 16), byte(w >> 24)})
	}
}

// TestSpareBits is of P3.1: each bit that an instruction has not makes its word none's.
func TestSpareBits(t *testing.T) {
	for _, r := range rows() {
		w, e := isa.Word(api.Instr{Op: r.op})
		if e != api.OK || w != uint32(r.op) {
			t.Fatalf("Word of %s without more: %x, %v", r.name, w, e)
		}
		has := uint32(0)
		if strings.Contains(r.names, "A") {
			has |= 0xf00
		}
		if strings.Contains(r.names, "D") {
			has |= 0xf000
		}
		if strings.Contains(r.names, "B") {
			has |= 0xf0000
		}
		if strings.Contains(r.names, "I") {
			has |= 0xffff0000
		}
		for bit := 8; bit < 32; bit++ {
			_, e := isa.Of(w | 1<<bit)
			if is := e == api.OK; is != (has>>bit&1 == 1) {
				t.Errorf("%s with the bit %d: %v", r.name, bit, e)
			}
		}
	}
}

// TestReadLengths is of P3.1: just four bytes.
func TestReadLengths(t *testing.T) {
	for n := range 20 {
		b := make([]byte, n)
		for at := 0; at < n; at += 4 {
			b[at] = 2
		}
		i, e := isa.Read(b)
		if n == 4 {
			if i != (api.Instr{Op: api.OpStop}) || e != api.OK {
				t.Errorf("Read of four: %v, %v", i, e)
			}
		} else if i != (api.Instr{}) || e != api.ErrBytes {
			t.Errorf("Read of %d: %v, %v", n, i, e)
		}
	}
	for _, b := range [][]byte{nil, {}} {
		if i, e := isa.Read(b); i != (api.Instr{}) || e != api.ErrBytes {
			t.Errorf("Read of none: %v, %v", i, e)
		}
	}
	if _, e := isa.Read([]byte{0, 0, 0, 2}); e != api.ErrBytes {
		t.Errorf("Read the other way round: %v", e)
	}
}

// TestBytesOfMany is of P3.1: all, in order; none, if one may not be.
func TestBytesOfMany(t *testing.T) {
	for _, l := range [][]api.Instr{nil, {}} {
		if b, e := isa.Bytes(l...); len(b) != 0 || e != api.OK {
			t.Errorf("Bytes of none: % x, %v", b, e)
		}
	}
	good := []api.Instr{{Op: api.OpNop}, {Op: api.OpHigh, D: 15, Imm: 65535}, {Op: api.OpBlt, D: 1, A: 15, Imm: -32768}}
	if b, e := isa.Bytes(good...); !bytes.Equal(b, []byte{1, 0, 0, 0, 6, 0xf0, 0xff, 0xff, 28, 0x1f, 0, 0x80}) || e != api.OK {
		t.Errorf("Bytes of three: % x, %v", b, e)
	}
	for n := range good {
		l := slices.Clone(good)
		l[n].B = 1
		kept := slices.Clone(l)
		if b, e := isa.Bytes(l...); len(b) != 0 || e != api.ErrArg {
			t.Errorf("Bytes where %d may not be: % x, %v", n, b, e)
		}
		if !slices.Equal(l, kept) {
			t.Errorf("Bytes changed %v to %v", kept, l)
		}
	}
}

// told are what All tells, and where.
func told(b []byte) (places []int, l []api.Instr) {
	for at, i := range isa.All(b) {
		places, l = append(places, at), append(l, i)
	}
	return places, l
}

// TestAll is of P3.1: up to the first four bytes that are none, or fewer than four.
func TestAll(t *testing.T) {
	stop, nop := []byte{2, 0, 0, 0}, []byte{1, 0, 0, 0}
	for _, x := range []struct {
		b []byte
		n int
	}{
		{nil, 0}, {[]byte{}, 0}, {[]byte{2}, 0}, {[]byte{2, 0, 0}, 0}, {stop, 1},
		{slices.Concat(stop, []byte{2}), 1}, {slices.Concat(stop, []byte{2, 0}), 1}, {slices.Concat(stop, []byte{2, 0, 0}), 1},
		{slices.Concat(stop, nop), 2}, {slices.Concat(stop, nop, stop, []byte{1, 0, 0}), 3},
		{slices.Concat([]byte{0, 0, 0, 0}, stop), 0}, {slices.Concat(stop, []byte{29, 0, 0, 0}, nop), 1},
		{slices.Concat(stop, nop, []byte{2, 0, 0, 1}, stop), 2}, {slices.Concat([]byte{0}, stop, nop), 0},
	} {
		places, l := told(x.b)
		if len(l) != x.n {
			t.Errorf("All of % x tells %v", x.b, l)
		}
		for n, i := range l {
			want, e := isa.Read(x.b[4*n : 4*n+4])
			if places[n] != 4*n || i != want || e != api.OK {
				t.Errorf("All of % x tells %d, %v", x.b, places[n], i)
			}
		}
	}
}

// TestAllAgain is of P3.1: All is left at any time, gone over again, and within itself.
func TestAllAgain(t *testing.T) {
	b := bytes.Repeat([]byte{2, 0, 0, 0}, 5)
	all := isa.All(b)
	for left := range 7 {
		n := 0
		for at := range all {
			if n == left {
				break
			}
			if at != 4*n {
				t.Errorf("left at %d, All tells %d", left, at)
			}
			n++
		}
		if n != min(left, 5) {
			t.Errorf("left at %d, All told %d", left, n)
		}
	}
	n := 0
	for a := range all {
		for b := range all {
			if a != 4*(n/5) || b != 4*(n%5) {
				t.Errorf("within itself All tells %d, %d", a, b)
			}
			n++
		}
	}
	if n != 25 {
		t.Errorf("within itself All told %d", n)
	}
}

// TestAllOfThen is of P3.1: the bytes are as they were when All was called.
func TestAllOfThen(t *testing.T) {
	b := []byte{2, 0, 0, 0, 1, 0, 0, 0, 4, 0, 0, 0}
	all := isa.All(b)
	clear(b)
	for range 2 {
		var l []api.Op
		for _, i := range all {
			l = append(l, i.Op)
			b[0] = 5
		}
		if !slices.Equal(l, []api.Op{api.OpStop, api.OpNop, api.OpBack}) {
			t.Errorf("behind a change All tells %v", l)
		}
	}
	late := make([]byte, 8)
	all = isa.All(late)
	late[0], late[4] = 2, 2
	for at := range all {
		t.Errorf("All tells what came later, at %d", at)
	}
}

// TestKeepsHands is of the rules: what is handed in is not changed, spare room included.
func TestKeepsHands(t *testing.T) {
	room := bytes.Repeat([]byte{2, 0, 0, 0}, 6)
	for range isa.All(room[:8]) {
	}
	_, _ = isa.Read(room[:4])
	if !bytes.Equal(room, bytes.Repeat([]byte{2, 0, 0, 0}, 6)) {
		t.Errorf("the bytes are % x", room)
	}
}

// TestNewMemory is of the rules: no two answers share memory, spare room included.
func TestNewMemory(t *testing.T) {
	i := parsed(t, "add r3 r9 r2")
	a, b := isa.Reads(i), isa.Reads(i)
	for n := range a[:cap(a)] {
		a[:cap(a)][n] = 77
	}
	if !slices.Equal(b, []int{2, 9}) || !slices.Equal(isa.Reads(i), b) {
		t.Errorf("Reads is %v", b)
	}
	x, _ := isa.Bytes(i)
	y, _ := isa.Bytes(i)
	for n := range x[:cap(x)] {
		x[:cap(x)][n] = 77
	}
	if z, _ := isa.Bytes(i); !bytes.Equal(y, []byte{8, 0x39, 2, 0}) || !bytes.Equal(z, y) {
		t.Errorf("Bytes is % x", y)
	}
}

// TestNames is of P3.2: names, ops and forms.
func TestNames(t *testing.T) {
	all := rows()
	for _, r := range all {
		if s := isa.Name(r.op); s != r.name {
			t.Errorf("Name of %d: %q, want %q", r.op, s, r.name)
		}
		if op, ok := isa.Named(r.name); op != r.op || !ok {
			t.Errorf("Named %q: %d, %v", r.name, op, ok)
		}
		if f := isa.Form(r.op); f != r.form {
			t.Errorf("Form of %s: %d, want %d", r.name, f, r.form)
		}
		for _, s := range []string{strings.ToUpper(r.name), r.name + " ", " " + r.name, r.name + "\x00", "q" + r.name, r.name + "q"} {
			if op, ok := isa.Named(s); op != 0 || ok {
				t.Errorf("Named %q: %d, %v", s, op, ok)
			}
		}
	}
	for _, s := range []string{"", " ", "no", "op", "noop", "r1", "1", "\xff\xfe", "ädd", strings.Repeat("nop", 1000)} {
		if op, ok := isa.Named(s); op != 0 || ok {
			t.Errorf("Named %q: %d, %v", s, op, ok)
		}
	}
}

// TestOps is of P3.2: all ops in order; left and gone over again.
func TestOps(t *testing.T) {
	want := rows()
	ops := isa.Ops()
	for left := range len(want) + 2 {
		n := 0
		for op, name := range ops {
			if n == left {
				break
			}
			if n >= len(want) || op != want[n].op || name != want[n].name {
				t.Fatalf("left at %d, Ops tells %d, %q", left, op, name)
			}
			n++
		}
		if n != min(left, len(want)) {
			t.Errorf("left at %d, Ops told %d", left, n)
		}
	}
	n := 0
	for range ops {
		for range ops {
			n++
		}
	}
	if n != 28*28 {
		t.Errorf("within itself Ops told %d", n)
	}
}

// TestNoTexts is of P3.2: what is nearly a text is none.
func TestNoTexts(t *testing.T) {
	for _, s := range []string{
		"", " ", "  ", "\n", "r1", "5", "nop ", " nop", "nop\n", "nop  ", "Nop", "NOP", "nop r0", "nop 0", "stop 0", "back r1", "nopp", "no",
		"call", "call ", "call r1", "call -1", "call -0", "call 00", "call 01", "call +1", "call 65536", "call 1 ", "call  1", "call 1 2", "call 0x1", "call 1_0", "call 1.0", "call 1e1", "call １",
		"jump", "jump r1", "jump --1", "jump - 1", "jump -", "jump +0", "jump -0", "jump -01", "jump 32768", "jump -32769", "jump 65535", "jump 4294967296", "jump 4294967297", "jump 18446744073709551617", "jump 99999999999999999999999", "jump -99999999999999999999999",
		"jumpr", "jumpr 1", "jumpr R1", "jumpr r", "jumpr r16", "jumpr r-1", "jumpr r-0", "jumpr r+1", "jumpr r01", "jumpr r00", "jumpr rr1", "jumpr r1 ", "jumpr r1 0", "jumpr r 1", "jumpr r4294967296", "jumpr r18446744073709551616", "jumpr r256", "jumpr\tr1",
		"const", "const r1", "const r1 ", "const 1 r1", "const r1 r1", "const r1 32768", "const r1 -32769", "const r1 5 5", "const r1  5", "const  r1 5", "const r1 5 ", "const r1\t5", "const r1\n5", "const r1,5", "Const r1 5", "const R1 5", "const 1 5",
		"high r1 -1", "high r1 65536", "high r16 0", "link r1 32768", "link r16 0",
		"copy r1", "copy r1 r16", "copy r16 r1", "copy r1 2", "copy r1 r2 0", "copy r1 r2 r3",
		"add r1 r2", "add r1 r2 r16", "add r16 r2 r1", "add r1 r16 r2", "add r1 r2 3", "add r1 r2 r3 0", "add r1 r2 r3 r4", "add r1 r2  r3", "add r1 r2 r3\x00",
		"addi r1 r2 05", "addi r1 r2", "addi r1 r2 r3", "addi r1 2 r3", "addi r1 r2 -0", "addi r1 r2 32768", "addi r1 r2 -32769", "addi r1 r2 5 6",
		"beq r1 r2", "beq r1 r2 r3", "beq r1 r2 65535", "\xff\xfe", "add r1 r2 r\xff", "addi r1 r2 ٣",
		" stop", "stop stop", strings.Repeat(" ", 5000), "call " + strings.Repeat("0", 5000), "call " + strings.Repeat("9", 5000), strings.Repeat("add ", 3000),
	} {
		if i, e := isa.Parse(s); i != (api.Instr{}) || e != api.ErrBytes {
			t.Errorf("Parse of %.40q: %v, %v", s, i, e)
		}
	}
}

// TestTextsNearby is of P3.2 and P3.4: what Parse takes has just that text, whatever byte is put in, taken away, or another one.
func TestTextsNearby(t *testing.T) {
	for _, s := range []string{"nop", "call 65535", "jump -10", "jumpr r15", "const r10 -2", "copy r1 r11", "xor r1 r12 r3", "blt r0 r15 -32768"} {
		parsed(t, s)
		for at := range len(s) + 1 {
			for _, x := range []byte("0159-+ r\x00\t\nRa_.\xff") {
				near := []string{s[:at] + string([]byte{x}) + s[at:]}
				if at < len(s) {
					near = append(near, s[:at]+s[at+1:], s[:at]+string([]byte{x})+s[at+1:])
				}
				for _, n := range near {
					i, e := isa.Parse(n)
					if e == api.OK {
						if back, f := isa.Text(i); back != n || f != api.OK {
							t.Errorf("Parse takes %q for %q", n, back)
						}
					} else if i != (api.Instr{}) || e != api.ErrBytes {
						t.Errorf("Parse of %q: %v, %v", n, i, e)
					}
				}
			}
		}
	}
}

// TestTouches is of P3.3: what instructions read and write, and where they lead.
func TestTouches(t *testing.T) {
	each(func(r row, i api.Instr) {
		var reads []int
		writes, to := 0, uint32(0)
		may := r.may(i)
		if may {
			for _, x := range r.reads {
				reads = append(reads, map[rune]int{'D': i.D, 'A': i.A, 'B': i.B}[x])
			}
			slices.Sort(reads)
			reads = slices.Compact(reads)
			if r.writes {
				writes = i.D
			}
			if r.leads {
				to = uint32(int64(8) + 4*int64(i.Imm))
			}
		}
		if l := isa.Reads(i); !slices.Equal(l, reads) {
			t.Fatalf("Reads of %v: %v, want %v", i, l, reads)
		}
		if d, ok := isa.Writes(i); d != writes || ok != (may && r.writes) {
			t.Fatalf("Writes of %v: %v, %v", i, d, ok)
		}
		if a, ok := isa.Leads(i, 8); a != to || ok != (may && r.leads) {
			t.Fatalf("Leads of %v: %v, %v, want %v", i, a, ok, to)
		}
	})
}

// TestReadsRising is of P3.3: rising, each once, whichever stands first.
func TestReadsRising(t *testing.T) {
	for a := range 16 {
		for b := range 16 {
			want := []int{min(a, b), max(a, b)}
			if a == b {
				want = want[:1]
			}
			for _, i := range []api.Instr{{Op: api.OpShr, D: 7, A: a, B: b}, {Op: api.OpBne, D: b, A: a, Imm: 3}, {Op: api.OpStoreb, D: a, A: b}} {
				if l := isa.Reads(i); !slices.Equal(l, want) {
					t.Errorf("Reads of %v: %v, want %v", i, l, want)
				}
			}
		}
	}
}

// TestLeadsRound is of P3.3: addresses go round.
func TestLeadsRound(t *testing.T) {
	for _, x := range []struct {
		text     string
		at, want uint32
	}{
		{"jump -1", 0, math.MaxUint32 - 3}, {"jump 1", math.MaxUint32, 3}, {"jump 0", 5, 5}, {"jump 1", math.MaxUint32 - 3, 0},
		{"jump -32768", 0, math.MaxUint32 - 131071}, {"jump 32767", math.MaxUint32, 131067}, {"link r1 -2", 4, math.MaxUint32 - 3},
		{"beq r1 r2 -3", 13, 1}, {"bne r1 r2 3", math.MaxUint32 - 11, 0}, {"blt r0 r0 -32768", 131072, 0},
	} {
		if to, ok := isa.Leads(parsed(t, x.text), x.at); to != x.want || !ok {
			t.Errorf("Leads of %s at %d: %d, %v, want %d", x.text, x.at, to, ok, x.want)
		}
	}
	for _, s := range []string{"jumpr r1", "call 1", "back", "stop", "const r1 1", "store r1 r2 4"} {
		if to, ok := isa.Leads(parsed(t, s), math.MaxUint32); to != 0 || ok {
			t.Errorf("Leads of %s: %d, %v", s, to, ok)
		}
	}
}

// TestSoon is of the rules: each call ends, at great arguments too.
func TestSoon(t *testing.T) {
	soon(t, "All", func() {
		n := 0
		for range isa.All(bytes.Repeat([]byte{2, 0, 0, 0}, 1<<20)) {
			n++
		}
		if n != 1<<20 {
			t.Errorf("All told %d", n)
		}
	})
	soon(t, "Parse", func() {
		for _, s := range []string{strings.Repeat(" ", 1<<24), "call " + strings.Repeat("9", 1<<24), strings.Repeat("r", 1<<24)} {
			if _, e := isa.Parse(s); e != api.ErrBytes {
				t.Errorf("Parse: %v", e)
			}
		}
	})
	soon(t, "Bytes", func() {
		b, e := isa.Bytes(make([]api.Instr, 1<<20)...)
		if len(b) != 0 || e != api.ErrArg {
			t.Errorf("Bytes: %d, %v", len(b), e)
		}
		l := slices.Repeat([]api.Instr{{Op: api.OpNop}}, 1<<20)
		if b, e := isa.Bytes(l...); len(b) != 1<<22 || e != api.OK {
			t.Errorf("Bytes: %d, %v", len(b), e)
		}
	})
}

// FuzzWords is of P3.4: whatever is taken comes back as it was, as a word and as a text.
func FuzzWords(f *testing.F) {
	f.Add(uint32(0x0003_1208), "add r1 r2 r3")
	f.Add(uint32(0xfffe_1005), "const r1 -2")
	f.Add(uint32(0), "call 65536")
	f.Fuzz(func(t *testing.T, w uint32, s string) {
		if i, e := isa.Of(w); e == api.OK {
			back, e := isa.Word(i)
			text, f := isa.Text(i)
			again, g := isa.Parse(text)
			if back != w || again != i || e != api.OK || f != api.OK || g != api.OK {
				t.Errorf("%x: %v, %q", w, i, text)
			}
		} else if i != (api.Instr{}) || e != api.ErrBytes {
			t.Errorf("Of %x: %v, %v", w, i, e)
		}
		if i, e := isa.Parse(s); e == api.OK {
			if text, e := isa.Text(i); text != s || e != api.OK {
				t.Errorf("%q is taken for %q", s, text)
			}
		} else if i != (api.Instr{}) || e != api.ErrBytes {
			t.Errorf("Parse of %q: %v, %v", s, i, e)
		}
	})
}
