package cpu_test

import (
	"bytes"
	"fmt"
	"math"
	"math/rand"
	"slices"
	"testing"

	"steading/api"
	"steading/asm"
	"steading/cpu"
	"steading/isa"
)

const (
	read  = 1
	write = 2
	run   = 4
	every = 7

	pageSize = 256
	maxPages = 32
	most     = 65536
)

// wants fails if an answer is not that one.
func wants(t *testing.T, what string, got, want any) {
	t.Helper()
	if got != want {
		t.Errorf("%s: %v, should be %v", what, got, want)
	}
}

// wantsBytes fails if bytes are not these.
func wantsBytes(t *testing.T, what string, got []byte, want ...byte) {
	t.Helper()
	if !bytes.Equal(got, want) {
		t.Errorf("%s: % X, should be % X", what, got, want)
	}
}

// ram is a memory of all addresses, which tells when it is used without being asked.
type ram struct {
	t     *testing.T
	bytes map[uint32]byte
	but   map[uint32]int // the rights of addresses that have not all of them
	asked map[uint32]int // what it was asked for, and answered yes
	sets  int
	uses  int
}

func newRam(t *testing.T, b ...byte) *ram {
	m := &ram{t: t, bytes: map[uint32]byte{}, but: map[uint32]int{}, asked: map[uint32]int{}}
	m.lay(0, b...)
	return m
}

func (m *ram) lay(at uint32, b ...byte) {
	for i, x := range b {
		m.bytes[at+uint32(i)] = x
	}
}

func (m *ram) rights(at uint32) int {
	if r, ok := m.but[at]; ok {
		return r
	}
	return every
}

func (m *ram) May(at uint32, right int) bool {
	m.uses++
	ok := m.rights(at)&right == right
	if ok {
		m.asked[at] |= right
	}
	return ok
}

func (m *ram) Get(at uint32) byte {
	m.uses++
	if m.asked[at] == 0 {
		m.t.Errorf("the byte at %d is got, but was not asked for", at)
	}
	return m.bytes[at]
}

func (m *ram) Set(at uint32, b byte) {
	m.uses++
	m.sets++
	if m.asked[at]&write == 0 || m.rights(at)&write == 0 {
		m.t.Errorf("the byte at %d is set, but may not be, or was not asked for", at)
	}
	m.bytes[at] = b
}

func (m *ram) clone() *ram {
	n := newRam(m.t)
	for at, b := range m.bytes {
		n.bytes[at] = b
	}
	for at, r := range m.but {
		n.but[at] = r
	}
	return n
}

// same holds the bytes of two against each other.
func (m *ram) same(what string, n *ram) {
	m.t.Helper()
	for at, b := range m.bytes {
		if n.bytes[at] != b {
			m.t.Fatalf("%s: at %d stands %d, should be %d", what, at, b, n.bytes[at])
		}
	}
	for at, b := range n.bytes {
		if m.bytes[at] != b {
			m.t.Fatalf("%s: at %d stands %d, should be %d", what, at, m.bytes[at], b)
		}
	}
}

// program is the bytes of lines (layer 4), one an argument.
func program(t *testing.T, lines ...string) []byte {
	t.Helper()
	var text string
	for _, l := range lines {
		text += l + "\n"
	}
	p, line, e := asm.Assemble(text)
	if e != api.OK {
		t.Fatalf("line %d of %q: %v", line, text, e)
	}
	return p.Bytes
}

// state has these registers, from r1 on.
func state(pc uint32, r ...uint32) api.State {
	s := api.State{PC: pc}
	copy(s.R[1:], r)
	return s
}

func bad(used int) api.Stop  { return api.Stop{Kind: api.StopBad, Used: used} }
func fuel(used int) api.Stop { return api.Stop{Kind: api.StopFuel, Used: used} }
func end(used int) api.Stop  { return api.Stop{Kind: api.StopEnd, Used: used} }
func zero(used int) api.Stop { return api.Stop{Kind: api.StopZero, Used: used} }
func fault(at uint32, need, used int) api.Stop {
	return api.Stop{Kind: api.StopFault, At: at, Need: need, Used: used}
}

// runs runs and fails if the state or the stop is not that one.
func runs(t *testing.T, what string, s api.State, m cpu.Memory, fuel int, want api.State, stop api.Stop) {
	t.Helper()
	got, why, e := cpu.Run(s, m, fuel)
	if e != api.OK || got != want || why != stop {
		t.Errorf("%s: %v, %+v, %v; should be %v, %+v", what, got, why, e, want, stop)
	}
}

// model does steps as the chapter's words say it, on numbers that do not go round by themselves.
type model struct {
	s   api.State
	mem *ram
}

const round = 1 << 32

// word is n bytes from at on, the lowest first; or the first address that may not be used so.
func (m *model) word(at int64, n int64, right int) (int64, api.Stop) {
	var x int64
	for i := n - 1; i >= 0; i-- {
		x = x*256 + int64(m.mem.bytes[uint32((at+i)%round)])
	}
	for i := range n {
		if a := uint32((at + i) % round); m.mem.rights(a)&right == 0 {
			return 0, fault(a, right, 0)
		}
	}
	return x, api.Stop{}
}

func (m *model) put(at, n, x int64) api.Stop {
	if _, stop := m.word(at, n, write); stop.Kind != 0 {
		return stop
	}
	for i := range n {
		m.mem.bytes[uint32((at+i)%round)] = byte(x % 256)
		x /= 256
	}
	return api.Stop{}
}

func modelTwo(name string, a, b int64) (int64, bool) {
	switch name {
	case "add":
		return a + b, true
	case "sub":
		return a + round - b, true
	case "mul":
		return int64(uint64(a) * uint64(b) % round), true
	case "div":
		if b == 0 {
			return 0, false
		}
		return (a - a%b) / b, true
	case "mod":
		if b == 0 {
			return 0, false
		}
		return a - a/b*b, true
	case "shl":
		for range b % 32 {
			a = a * 2 % round
		}
		return a, true
	case "shr":
		for range b % 32 {
			a /= 2
		}
		return a, true
	}
	var x int64 // and, or, xor: bit by bit
	for bit := int64(1); bit < round; bit *= 2 {
		n := a/bit%2 + b/bit%2
		if name == "and" && n == 2 || name == "or" && n > 0 || name == "xor" && n == 1 {
			x += bit
		}
	}
	return x, true
}

// step does one instruction, or tells why it stops there.
func (m *model) step() api.Stop {
	if m.s.PC%4 != 0 {
		return bad(0)
	}
	w, stop := m.word(int64(m.s.PC), 4, run)
	if stop.Kind != 0 {
		return stop
	}
	i, e := isa.Of(uint32(w))
	if e != api.OK {
		return bad(0)
	}
	r := func(n int) int64 { return int64(m.s.R[n]) }
	behind, there := int64(m.s.PC)+4, int64(m.s.PC)+4*int64(i.Imm)+4*round
	to, d, at := behind, r(i.D), (r(i.A)+int64(i.Imm)+round)%round
	switch name := isa.Name(i.Op); name {
	case "stop":
		return end(0)
	case "back":
		return api.Stop{Kind: api.StopBack}
	case "call":
		return api.Stop{Kind: api.StopCall, Call: i.Imm}
	case "const":
		d = int64(i.Imm) + round
	case "high":
		d = d%65536 + int64(i.Imm)*65536
	case "copy":
		d = r(i.A)
	case "addi":
		d = at
	case "load":
		d, stop = m.word(at, 4, read)
	case "loadb":
		d, stop = m.word(at, 1, read)
	case "store":
		stop = m.put(at, 4, d)
	case "storeb":
		stop = m.put(at, 1, d)
	case "jump":
		to = there
	case "jumpr":
		to = r(i.A)
	case "link":
		d, to = behind, there
	case "beq", "bne", "blt":
		if name == "beq" && d == r(i.A) || name == "bne" && d != r(i.A) || name == "blt" && d < r(i.A) {
			to = there
		}
	case "nop":
	default:
		var ok bool
		if d, ok = modelTwo(name, r(i.A), r(i.B)); !ok {
			return zero(0)
		}
	}
	if stop.Kind == 0 {
		m.s.R[i.D], m.s.PC = uint32(d%round), uint32(to%round)
	}
	return stop
}

func (m *model) run(fuel int) api.Stop {
	used := 0
	for ; used < fuel; used++ {
		if stop := m.step(); stop.Kind != 0 {
			stop.Used = used
			return stop
		}
	}
	return api.Stop{Kind: api.StopFuel, Used: used}
}

// P8.1: the chapter's examples.
func TestExamples(t *testing.T) {
	add := []string{"const r1 5", "const r2 7", "add r3 r1 r2", "call 9"}
	m := newRam(t, program(t, add...)...)
	runs(t, "add", api.State{}, m, 10, state(12, 5, 7, 12), api.Stop{Kind: api.StopCall, Call: 9, Used: 3})
	runs(t, "add, fuel 2", api.State{}, m, 2, state(8, 5, 7), fuel(2))
	f, e := cpu.NewFlat(program(t, "const r1 -1", "load r2 r1 0"), every)
	wants(t, "NewFlat", e, api.OK)
	runs(t, "load", api.State{}, f, 10, state(4, math.MaxUint32), fault(4294967295, read, 1))
	runs(t, "div", api.State{}, newRam(t, program(t, "div r1 r1 r2")...), 10, api.State{}, zero(0))
}

// P8.1: what is answered where nothing may be run: errors, with nothing beside them.
func TestRunRefused(t *testing.T) {
	m := newRam(t, program(t, "const r1 1", "stop")...)
	s := state(0, 9)
	for _, n := range []int{math.MinInt, -65536, -1, 65537, 1 << 32, math.MaxInt} {
		got, stop, e := cpu.Run(s, m, n)
		wants(t, fmt.Sprint("Run, fuel ", n), e, api.ErrArg)
		wants(t, fmt.Sprint("Run, fuel ", n), got, api.State{})
		wants(t, fmt.Sprint("Run, fuel ", n), stop, api.Stop{})
		for _, fuel := range []int{n, 0, 1, most} {
			got, stop, e = cpu.Run(s, nil, fuel)
			wants(t, fmt.Sprint("Run of no memory, fuel ", fuel), e, api.ErrNil)
			wants(t, fmt.Sprint("Run of no memory, fuel ", fuel), got, api.State{})
			wants(t, fmt.Sprint("Run of no memory, fuel ", fuel), stop, api.Stop{})
		}
	}
	wants(t, "how often the memory was used", m.uses, 0)
}

// P8.1: fuel is asked ahead of each instruction, and ahead of all else.
func TestFuel(t *testing.T) {
	m := newRam(t, program(t, "jump 0")...)
	for _, n := range []int{0, 1, 2, 199, 200, 65535, most} {
		runs(t, "jump 0", state(0, 3), m, n, state(0, 3), fuel(n))
	}
	m = newRam(t, program(t, "nop", "nop", "nop", "stop")...)
	for n := range 4 {
		runs(t, "nops", api.State{}, m, n, state(uint32(4*n)), fuel(n))
	}
	for _, n := range []int{4, 5, most} {
		runs(t, "nops and stop", api.State{}, m, n, state(12), end(3))
	}
	// No fuel: not even a place where nothing can be done is looked at.
	m = newRam(t)
	m.but[0] = 0
	for _, pc := range []uint32{0, 1, 2, 3, 4, math.MaxUint32} {
		runs(t, "no fuel", state(pc, 1, 2), m, 0, state(pc, 1, 2), fuel(0))
	}
	wants(t, "how often the memory was used", m.uses, 0)
}

// P8.1: Next is the same state, four bytes further, going round.
func TestNext(t *testing.T) {
	for _, pc := range []uint32{0, 1, 4, 7, 255, 1 << 31, math.MaxUint32 - 4, math.MaxUint32 - 3, math.MaxUint32} {
		s := api.State{PC: pc}
		for i := range s.R {
			s.R[i] = uint32(i) * 77
		}
		want := s
		want.PC = uint32((uint64(pc) + 4) % round)
		wants(t, fmt.Sprint("Next at ", pc), cpu.Next(s), want)
	}
	wants(t, "Next of a zero state", cpu.Next(api.State{}), api.State{PC: 4})
}

// P8.1: each stop by its instruction leaves all as it is, and PC there; no field but its own is told.
func TestStops(t *testing.T) {
	full := api.State{PC: 8}
	for i := range full.R {
		full.R[i] = uint32(i)*0x1010101 + 0x8000000
	}
	full.R[7] = 0
	for _, c := range []struct {
		line string
		stop api.Stop
	}{
		{"stop", end(2)},
		{"back", api.Stop{Kind: api.StopBack, Used: 2}},
		{"call 0", api.Stop{Kind: api.StopCall, Used: 2}},
		{"call 1", api.Stop{Kind: api.StopCall, Call: 1, Used: 2}},
		{"call 32768", api.Stop{Kind: api.StopCall, Call: 32768, Used: 2}},
		{"call 65535", api.Stop{Kind: api.StopCall, Call: 65535, Used: 2}},
		{"div r1 r2 r7", zero(2)},
		{"mod r1 r2 r7", zero(2)},
		{"div r7 r7 r7", zero(2)},
		{"load r1 r7 100", fault(100, read, 2)},
		{"loadb r1 r7 100", fault(100, read, 2)},
		{"store r1 r7 100", fault(100, write, 2)},
		{"storeb r1 r7 100", fault(100, write, 2)},
		{".word 0", bad(2)},
		{".word 29", bad(2)},
		{".word 257", bad(2)},
		{".word 4294967295", bad(2)},
	} {
		b := program(t, "nop", "jump 1", c.line, "stop")
		m := newRam(t, b...)
		m.but[100] = run
		before := m.clone()
		start := full
		start.PC = 0
		runs(t, c.line, start, m, 9, full, c.stop)
		m.same(c.line, before)
		wants(t, c.line+": bytes set", m.sets, 0)
		// Just up to it, and just with it.
		runs(t, c.line, start, m, 2, full, fuel(2))
		runs(t, c.line, start, m, 3, full, c.stop)
		// It stops there again.
		at := c.stop
		at.Used = 0
		for _, n := range []int{1, 2, most} {
			runs(t, c.line+" again", full, m, n, full, at)
		}
		runs(t, c.line+" again, no fuel", full, m, 0, full, fuel(0))
	}
}

// P8.1: whether PC is a multiple of 4 is asked first, then whether its bytes may be run, then whether they are an instruction.
func TestWhere(t *testing.T) {
	m := newRam(t, program(t, "nop", ".word 0", "nop", "nop")...)
	for pc := range uint32(16) {
		m.but[pc] = every - run
	}
	for _, pc := range []uint32{1, 2, 3, 5, 6, 7, 14, math.MaxUint32, math.MaxUint32 - 1, math.MaxUint32 - 2} {
		runs(t, fmt.Sprint("PC ", pc), state(pc, 1), m, 9, state(pc, 1), bad(0))
	}
	wants(t, "how often the memory was used", m.uses, 0)
	for _, pc := range []uint32{0, 4, 8, 12} {
		runs(t, fmt.Sprint("PC ", pc), state(pc, 1), m, 9, state(pc, 1), fault(pc, run, 0))
	}
	// Of the four bytes the first one that may not be run; bytes elsewhere are not asked.
	for bits := range 16 {
		m := newRam(t, program(t, "nop", "nop", "stop")...)
		want := end(2)
		for i := range uint32(4) {
			if bits>>i&1 == 1 {
				m.but[4+i] = read | write
			}
		}
		for i := uint32(3); i < 4; i-- {
			if bits>>i&1 == 1 {
				want = fault(4+i, run, 1)
			}
		}
		pc := uint32(8)
		if bits > 0 {
			pc = 4
		}
		runs(t, fmt.Sprintf("bytes %04b may not be run", bits), api.State{}, m, 9, state(pc), want)
	}
	m = newRam(t, 0, 0, 0, 0)
	m.but[3] = 0
	runs(t, "no instruction, not to be run", api.State{}, m, 1, api.State{}, fault(3, run, 0))
	m.but[3] = run
	runs(t, "no instruction", api.State{}, m, 1, api.State{}, bad(0))
	// From the last word on it goes round.
	m = newRam(t, program(t, "stop")...)
	m.lay(math.MaxUint32-3, program(t, "nop")...)
	runs(t, "round", state(math.MaxUint32-3), m, 5, state(0), end(1))
}

// P8.1: only what is needed is asked: Run of an instruction, Read of a load, Write of a store.
func TestRights(t *testing.T) {
	m := newRam(t, program(t, "const r1 100", "const r2 200", "load r3 r1 0", "loadb r4 r1 3", "store r3 r2 0", "storeb r3 r2 4", "stop")...)
	m.lay(100, 1, 2, 3, 4)
	for at := range uint32(28) {
		m.but[at] = run
	}
	for at := range uint32(4) {
		m.but[100+at] = read
	}
	for at := range uint32(5) {
		m.but[200+at] = write
	}
	runs(t, "no more than needed", api.State{}, m, 20, state(24, 100, 200, 0x4030201, 4), end(6))
	wants(t, "what was stored", m.bytes[204], byte(1))
	for _, line := range []string{"load r3 r1 0", "loadb r3 r1 0", "store r3 r1 0", "storeb r3 r1 0"} {
		for right := range 8 {
			m := newRam(t, program(t, line)...)
			m.but[400] = right
			need := read
			if line[0] == 's' {
				need = write
			}
			want, pc := fuel(1), uint32(4)
			if right&need == 0 {
				want, pc = fault(400, need, 0), 0
			}
			runs(t, fmt.Sprint(line, " with the rights ", right), state(0, 400), m, 1, state(pc, 400), want)
		}
	}
}

// P8.1, P8.2: no address is asked for but those that are needed, and none behind the first one that may not.
func TestAsked(t *testing.T) {
	asks := func(what string, do func(m *ram), want ...uint32) {
		t.Helper()
		m := newRam(t)
		m.lay(400, program(t, "load r3 r1 0", "loadb r3 r1 8", "store r3 r2 0", "storeb r3 r2 8")...)
		m.but[52] = 0
		do(m)
		var got []uint32
		for at := range m.asked {
			got = append(got, at)
		}
		slices.Sort(got)
		if !slices.Equal(got, want) {
			t.Errorf("%s: asked for %v, should be %v", what, got, want)
		}
	}
	steps := func(pc, r1, r2 uint32) func(m *ram) {
		return func(m *ram) { cpu.Run(state(pc, r1, r2), m, 1) }
	}
	asks("load", steps(400, 100, 200), 100, 101, 102, 103, 400, 401, 402, 403)
	asks("loadb", steps(404, 100, 200), 108, 404, 405, 406, 407)
	asks("store", steps(408, 100, 200), 200, 201, 202, 203, 408, 409, 410, 411)
	asks("storeb", steps(412, 100, 200), 208, 412, 413, 414, 415)
	asks("load, the third one may not", steps(400, 50, 50), 50, 51, 400, 401, 402, 403)
	asks("store, the third one may not", steps(408, 50, 50), 50, 51, 408, 409, 410, 411)
	asks("no instruction", steps(416, 0, 0), 416, 417, 418, 419)
	asks("not to be run", steps(52, 0, 0))
	asks("Load", func(m *ram) { cpu.Load(m, 10, 3, read) }, 10, 11, 12)
	asks("Load of nothing", func(m *ram) { cpu.Load(m, 10, 0, read) })
	asks("Load, the third one may not", func(m *ram) { cpu.Load(m, 50, 5, read) }, 50, 51)
	asks("Store", func(m *ram) { cpu.Store(m, 10, []byte{1, 2}) }, 10, 11)
	asks("Store of nothing", func(m *ram) { cpu.Store(m, 10, nil) })
	asks("Store, the third one may not", func(m *ram) { cpu.Store(m, 50, []byte{1, 2, 3, 4}) }, 50, 51)
}

// two is an op of two registers, what stands in them, and what it answers.
type two struct {
	op         string
	a, b, want uint32
}

// twos are pairs around the edges, with answers worked out by hand.
func twos() []two {
	return []two{
		{"add", 5, 7, 12}, {"add", math.MaxUint32, 1, 0}, {"add", 1 << 31, 1 << 31, 0}, {"add", math.MaxUint32, math.MaxUint32, 4294967294},
		{"sub", 7, 5, 2}, {"sub", 5, 7, 4294967294}, {"sub", 0, 1, math.MaxUint32}, {"sub", 3, 3, 0},
		{"mul", 6, 7, 42}, {"mul", 65536, 65536, 0}, {"mul", math.MaxUint32, math.MaxUint32, 1}, {"mul", math.MaxUint32, 2, 4294967294}, {"mul", 9, 0, 0},
		{"div", 7, 2, 3}, {"div", math.MaxUint32, 2, 2147483647}, {"div", 1, math.MaxUint32, 0}, {"div", 1 << 31, math.MaxUint32, 0}, {"div", 0, 5, 0}, {"div", math.MaxUint32, 1, math.MaxUint32},
		{"mod", 7, 2, 1}, {"mod", math.MaxUint32, 10, 5}, {"mod", 5, math.MaxUint32, 5}, {"mod", 1 << 31, math.MaxUint32, 1 << 31}, {"mod", 8, 4, 0}, {"mod", 3, 1, 0},
		{"and", 12, 10, 8}, {"and", math.MaxUint32, 0xF0F0F0F0, 0xF0F0F0F0}, {"and", 5, 0, 0},
		{"or", 12, 10, 14}, {"or", 0xF0000000, 0xF, 0xF000000F}, {"or", 0, 0, 0},
		{"xor", 12, 10, 6}, {"xor", math.MaxUint32, math.MaxUint32, 0}, {"xor", math.MaxUint32, 1, 4294967294},
		{"shl", 1, 4, 16}, {"shl", 1, 31, 1 << 31}, {"shl", 3, 31, 1 << 31}, {"shl", 5, 32, 5}, {"shl", 5, 33, 10}, {"shl", 5, 0, 5}, {"shl", 1, math.MaxUint32, 1 << 31}, {"shl", 5, 1 << 31, 5},
		{"shr", 16, 4, 1}, {"shr", 1 << 31, 31, 1}, {"shr", math.MaxUint32, 31, 1}, {"shr", 5, 32, 5}, {"shr", 5, 33, 2}, {"shr", 5, 0, 5}, {"shr", math.MaxUint32, math.MaxUint32, 1}, {"shr", 1 << 31, 1, 1 << 30},
	}
}

// P8.1: what the ops of two registers answer, whichever registers these are.
func TestTwo(t *testing.T) {
	for _, c := range twos() {
		what := fmt.Sprintf("%s of %d and %d", c.op, c.a, c.b)
		runs(t, what, state(0, c.a, c.b), newRam(t, program(t, c.op+" r3 r1 r2")...), 1, state(4, c.a, c.b, c.want), fuel(1))
		runs(t, what+" to A", state(0, c.a, c.b), newRam(t, program(t, c.op+" r1 r1 r2")...), 1, state(4, c.want, c.b), fuel(1))
		runs(t, what+" to B", state(0, c.a, c.b), newRam(t, program(t, c.op+" r2 r1 r2")...), 1, state(4, c.a, c.want), fuel(1))
		s := api.State{}
		s.R[15], s.R[0] = c.a, c.b
		want := s
		want.R[15], want.PC = c.want, 4
		runs(t, what+" in r15 and r0", s, newRam(t, program(t, c.op+" r15 r15 r0")...), 1, want, fuel(1))
	}
	for _, c := range []two{{"add", 9, 9, 18}, {"sub", 9, 9, 0}, {"mul", 9, 9, 81}, {"div", 9, 9, 1}, {"mod", 9, 9, 0}, {"and", 9, 9, 9}, {"or", 9, 9, 9}, {"xor", 9, 9, 0}, {"shl", 9, 9, 4608}, {"shr", 9, 9, 0}} {
		runs(t, c.op+" of one register", state(0, c.a), newRam(t, program(t, c.op+" r1 r1 r1")...), 1, state(4, c.want), fuel(1))
	}
}

// P8.1: what lays a register: const, high, copy, addi.
func TestLays(t *testing.T) {
	for _, c := range []struct {
		line string
		want uint32 // of r1, which is 0xAABBCCDD at first; r2 is 0xFFFFFFF0
	}{
		{"const r1 0", 0}, {"const r1 1", 1}, {"const r1 32767", 32767}, {"const r1 -1", math.MaxUint32}, {"const r1 -32768", 0xFFFF8000},
		{"high r1 0", 0xCCDD}, {"high r1 1", 0x1CCDD}, {"high r1 32768", 0x8000CCDD}, {"high r1 65535", 0xFFFFCCDD},
		{"copy r1 r1", 0xAABBCCDD}, {"copy r1 r2", 0xFFFFFFF0}, {"copy r1 r3", 0},
		{"addi r1 r2 0", 0xFFFFFFF0}, {"addi r1 r2 15", math.MaxUint32}, {"addi r1 r2 16", 0}, {"addi r1 r2 32767", 0x7FEF}, {"addi r1 r2 -1", 0xFFFFFFEF}, {"addi r1 r2 -32768", 0xFFFF7FF0},
		{"addi r1 r3 -1", math.MaxUint32}, {"addi r1 r3 -32768", 0xFFFF8000}, {"addi r1 r1 1", 0xAABBCCDE}, {"nop", 0xAABBCCDD},
	} {
		m := newRam(t, program(t, c.line)...)
		runs(t, c.line, state(0, 0xAABBCCDD, 0xFFFFFFF0), m, 1, state(4, c.want, 0xFFFFFFF0), fuel(1))
		wants(t, c.line+": bytes set", m.sets, 0)
	}
}

// P8.1: load and loadb, the lowest byte first, of any address, going round.
func TestLoads(t *testing.T) {
	for _, c := range []struct {
		line string
		a    uint32
		want uint32
	}{
		{"load r1 r2 0", 1000, 0x83828180}, {"load r1 r2 1", 1000, 0x84838281}, {"load r1 r2 -1", 1002, 0x84838281}, {"load r1 r2 3", 1000, 0x86858483},
		{"loadb r1 r2 0", 1000, 0x80}, {"loadb r1 r2 7", 1000, 0x87}, {"loadb r1 r2 -1", 1001, 0x80}, {"loadb r1 r2 32767", 1000 - 32767 + round, 0x80}, {"loadb r1 r2 -32768", 1000 + 32768, 0x80},
		{"load r1 r2 0", math.MaxUint32 - 1, 0x01046661}, {"load r1 r2 0", math.MaxUint32, 0x10010466}, {"load r1 r2 2", math.MaxUint32 - 3, 0x01046661}, {"loadb r1 r2 0", math.MaxUint32, 0x66},
		{"loadb r1 r2 0", 0, 4}, {"loadb r1 r2 1", math.MaxUint32, 4},
	} {
		b := program(t, c.line)
		m := newRam(t, 4, 1, 16, 32)
		m.lay(256, b...)
		m.lay(1000, 0x80, 0x81, 0x82, 0x83, 0x84, 0x85, 0x86, 0x87)
		m.lay(math.MaxUint32-1, 0x61, 0x66)
		runs(t, fmt.Sprintf("%s, r2 %d", c.line, c.a), state(256, 0xFFFFFFFF, c.a), m, 1, state(260, c.want, c.a), fuel(1))
		wants(t, c.line+": bytes set", m.sets, 0)
	}
	m := newRam(t, program(t, "load r2 r2 4")...)
	m.lay(1000, 1, 2, 3, 4)
	runs(t, "load over its own address", state(0, 0, 996), m, 1, state(4, 0, 0x4030201), fuel(1))
}

// P8.1: store and storeb, the lowest byte first, at any address, going round, and nothing beside them.
func TestStores(t *testing.T) {
	for _, c := range []struct {
		line string
		at   uint32
		want []byte
		a    uint32
	}{
		{"store r1 r2 0", 1000, []byte{0xDD, 0xCC, 0xBB, 0xAA}, 1000}, {"store r1 r2 5", 1003, []byte{0xDD, 0xCC, 0xBB, 0xAA}, 998}, {"store r1 r2 -1", 1000, []byte{0xDD, 0xCC, 0xBB, 0xAA}, 1001},
		{"storeb r1 r2 0", 1000, []byte{0xDD}, 1000}, {"storeb r1 r2 -3", 1001, []byte{0xDD}, 1004}, {"storeb r1 r2 32767", 1000, []byte{0xDD}, 1000 - 32767 + round},
		{"store r1 r2 0", math.MaxUint32 - 1, []byte{0xDD, 0xCC, 0xBB, 0xAA}, math.MaxUint32 - 1}, {"store r1 r2 3", 2, []byte{0xDD, 0xCC, 0xBB, 0xAA}, math.MaxUint32}, {"storeb r1 r2 0", math.MaxUint32, []byte{0xDD}, math.MaxUint32},
		{"store r2 r2 0", 0x1000, []byte{0, 0x10, 0, 0}, 0x1000},
	} {
		m := newRam(t)
		for at := range uint32(2000) {
			m.lay(at-900, byte(at))
		}
		m.lay(256, program(t, c.line)...)
		want := m.clone()
		want.lay(c.at, c.want...)
		runs(t, fmt.Sprintf("%s, r2 %d", c.line, c.a), state(256, 0xAABBCCDD, c.a), m, 1, state(260, 0xAABBCCDD, c.a), fuel(1))
		m.same(c.line, want)
		wants(t, c.line+": bytes set", m.sets, len(c.want))
	}
}

// P8.1: of the bytes that are needed the first one that may not be used so; then nothing is loaded, nothing stored.
func TestFaults(t *testing.T) {
	for _, base := range []uint32{1000, 1001, math.MaxUint32 - 1, math.MaxUint32 - 2} {
		for bits := 1; bits < 16; bits++ {
			for _, line := range []string{"load r1 r2 0", "store r1 r2 0", "load r2 r2 0", "loadb r1 r2 0", "storeb r1 r2 0"} {
				m := newRam(t)
				m.lay(256, program(t, line)...)
				m.lay(base, 1, 2, 3, 4)
				need, n := read, 4
				if line[0] == 's' {
					need = write
				}
				if line[4] == 'b' || line[5] == 'b' {
					n = 1
				}
				want := api.Stop{}
				for i := n - 1; i >= 0; i-- {
					if bits>>i&1 == 1 {
						at := base + uint32(i)
						m.but[at] = every - need
						want = fault(at, need, 0)
					}
				}
				if want.Kind == 0 {
					continue
				}
				before := m.clone()
				what := fmt.Sprintf("%s at %d, %04b may not", line, base, bits)
				runs(t, what, state(256, 7, base), m, 3, state(256, 7, base), want)
				m.same(what, before)
				wants(t, what+": bytes set", m.sets, 0)
			}
		}
	}
}

// P8.1: where PC goes, forwards, backwards, round.
func TestGoes(t *testing.T) {
	for _, c := range []struct {
		line string
		pc   uint32
		a, b uint32 // r1, r2
		to   uint32
	}{
		{"jump 0", 400, 0, 0, 400}, {"jump 1", 400, 0, 0, 404}, {"jump 2", 400, 0, 0, 408}, {"jump -1", 400, 0, 0, 396}, {"jump -100", 400, 0, 0, 0}, {"jump -101", 400, 0, 0, math.MaxUint32 - 3},
		{"jump 32767", 400, 0, 0, 400 + 131068}, {"jump -32768", 400, 0, 0, 400 - 131072 + round}, {"jump 1", math.MaxUint32 - 3, 0, 0, 0}, {"jump -1", 0, 0, 0, math.MaxUint32 - 3},
		{"jumpr r1", 400, 8, 0, 8}, {"jumpr r1", 400, 401, 0, 401}, {"jumpr r1", 400, math.MaxUint32, 0, math.MaxUint32}, {"jumpr r2", 400, 8, 0, 0},
		{"beq r1 r2 5", 400, 7, 7, 420}, {"beq r1 r2 5", 400, 7, 8, 404}, {"beq r1 r2 5", 400, 8, 7, 404}, {"beq r1 r2 -5", 400, 0, 0, 380}, {"beq r1 r1 0", 400, 3, 4, 400}, {"beq r1 r2 5", 400, 1, 0x80000001, 404},
		{"bne r1 r2 5", 400, 7, 7, 404}, {"bne r1 r2 5", 400, 7, 8, 420}, {"bne r1 r2 5", 400, 8, 7, 420}, {"bne r1 r2 -5", 400, 0, 1, 380}, {"bne r1 r1 5", 400, 1, 2, 404}, {"bne r1 r2 5", 400, 1, 0x80000001, 420},
		{"blt r1 r2 5", 400, 7, 8, 420}, {"blt r1 r2 5", 400, 7, 7, 404}, {"blt r1 r2 5", 400, 8, 7, 404}, {"blt r1 r2 5", 400, 1, math.MaxUint32, 420}, {"blt r1 r2 5", 400, math.MaxUint32, 1, 404}, {"blt r1 r2 5", 400, 1<<31 - 1, 1 << 31, 420}, {"blt r1 r2 -32768", 400, 0, 1, 400 - 131072 + round},
		{"nop", 400, 0, 0, 404}, {"nop", math.MaxUint32 - 3, 0, 0, 0}, {"bne r1 r2 9", math.MaxUint32 - 3, 5, 5, 0}, {"beq r1 r2 2", math.MaxUint32 - 3, 5, 5, 4},
	} {
		m := newRam(t)
		m.lay(c.pc, program(t, c.line)...)
		what := fmt.Sprintf("%s at %d of %d and %d", c.line, c.pc, c.a, c.b)
		runs(t, what, state(c.pc, c.a, c.b), m, 1, state(c.to, c.a, c.b), fuel(1))
		wants(t, what+": bytes set", m.sets, 0)
	}
	for _, c := range []struct {
		line         string
		pc, link, to uint32
	}{
		{"link r1 3", 400, 404, 412}, {"link r1 -3", 400, 404, 388}, {"link r1 0", 400, 404, 400}, {"link r1 1", 400, 404, 404}, {"link r1 2", math.MaxUint32 - 3, 0, 4}, {"link r1 -32768", 0, 4, round - 131072},
	} {
		m := newRam(t)
		m.lay(c.pc, program(t, c.line)...)
		runs(t, c.line, state(c.pc, 99), m, 1, state(c.to, c.link), fuel(1))
	}
	// A place that is no multiple of 4 is gone to; it stops there.
	m := newRam(t, program(t, "jumpr r1")...)
	for _, to := range []uint32{1, 2, 3, 7, math.MaxUint32} {
		runs(t, "jumpr beside", state(0, to), m, 5, state(to, to), bad(1))
	}
}

// P8.1: a program that goes there and back, five times round.
func TestProgram(t *testing.T) {
	b := program(t,
		"const r1 sum", "load r2 r1 0", "const r3 0", "const r4 0", // r2 how many
		"next:", "link r14 more", "bne r4 r2 next", "storeb r3 r1 4", "stop",
		"more:", "addi r4 r4 1", "mul r5 r4 r4", "add r3 r3 r5", "jumpr r14",
		"sum:", ".word 5", ".space 4")
	f, e := cpu.NewFlat(b, run|read|write)
	wants(t, "NewFlat", e, api.OK)
	s, stop, e := cpu.Run(api.State{}, f, 1000)
	wants(t, "Run", e, api.OK)
	wants(t, "Run", stop, end(4+5*6+1))
	wants(t, "r3", s.R[3], uint32(1+4+9+16+25))
	wants(t, "the byte behind", f.Get(uint32(len(b)-4)), byte(55))
	wants(t, "PC", s.PC, uint32(28))
}

// P8.1: what a program writes over itself is what is done next.
func TestOverItself(t *testing.T) {
	stop := program(t, "stop")
	m := newRam(t, program(t, "store r1 r0 4", "const r2 9", "const r2 9")...)
	w := uint32(stop[0]) | uint32(stop[1])<<8 | uint32(stop[2])<<16 | uint32(stop[3])<<24
	runs(t, "store over the next one", state(0, w), m, 9, state(4, w), end(1))
	m = newRam(t, program(t, "storeb r1 r0 8", "jump 1", "nop")...)
	runs(t, "storeb over one further on", state(0, 2), m, 9, state(8, 2), end(2))
	m = newRam(t, program(t, "storeb r1 r0 0", "jump -1")...)
	runs(t, "storeb over itself", state(0, 2), m, 9, state(0, 2), bad(2))
}

// P8.2: Load, of each right, of each first address that may not; nothing beside an answer.
func TestLoad(t *testing.T) {
	m := newRam(t, 1, 2, 3, 4, 5, 6, 7, 8)
	m.lay(math.MaxUint32-1, 0xAA, 0xBB)
	ok := func(what string, b []byte, at uint32, ok bool, want ...byte) {
		t.Helper()
		wantsBytes(t, what, b, want...)
		wants(t, what, at, uint32(0))
		wants(t, what, ok, true)
	}
	no := func(what string, b []byte, at uint32, ok bool, first uint32) {
		t.Helper()
		wants(t, what, b == nil, true)
		wants(t, what, at, first)
		wants(t, what, ok, false)
	}
	for n := range 9 {
		b, at, is := cpu.Load(m, 0, n, read)
		ok("Load", b, at, is, []byte{1, 2, 3, 4, 5, 6, 7, 8}[:n]...)
	}
	b, at, is := cpu.Load(m, math.MaxUint32-1, 5, every)
	ok("Load, round", b, at, is, 0xAA, 0xBB, 1, 2, 3)
	b, at, is = cpu.Load(m, 5, most, run)
	wants(t, "Load of 65536", len(b) == most && b[0] == 6 && b[3] == 0 && at == 0 && is, true)
	for _, n := range []int{math.MinInt, -65536, -1, 65537, 1 << 32, 1<<32 + 1, math.MaxInt} {
		uses := m.uses
		b, at, is = cpu.Load(m, 3, n, read)
		no(fmt.Sprint("Load of ", n), b, at, is, 0)
		wants(t, "how often the memory was used", m.uses, uses)
		b, at, is = cpu.Load(nil, 3, n, read)
		no(fmt.Sprint("Load of ", n, " of no memory"), b, at, is, 0)
	}
	for _, n := range []int{0, 1, 4, most} {
		b, at, is = cpu.Load(nil, 3, n, read)
		no("Load of no memory", b, at, is, 0)
	}
	for _, right := range []int{read, write, run} {
		for first := range uint32(6) {
			m := newRam(t, 1, 2, 3, 4, 5, 6, 7, 8)
			for at := first; at < 6; at += 2 {
				m.but[math.MaxUint32-2+at] = every - right
			}
			for n := range 8 {
				b, at, is := cpu.Load(m, math.MaxUint32-2, n, right)
				what := fmt.Sprintf("Load of %d for %d, the first one %d", n, right, first)
				if n > int(first) {
					no(what, b, at, is, math.MaxUint32-2+first)
				} else {
					ok(what, b, at, is, []byte{0, 0, 0, 1, 2, 3, 4, 5}[:n]...)
				}
				b, at, is = cpu.Load(m, math.MaxUint32-2, n, every-right)
				if n > 0 {
					ok(what+", for the others", b, at, is, []byte{0, 0, 0, 1, 2, 3, 4, 5}[:n]...)
				}
			}
		}
	}
}

// P8.2: Load of a Flat asks it for what the right says, whatever that is.
func TestLoadFlat(t *testing.T) {
	f, e := cpu.NewFlat([]byte{1, 2, 3}, every, read, every)
	wants(t, "NewFlat", e, api.OK)
	for _, c := range []struct {
		at       uint32
		n, right int
		first    uint32
		ok       bool
	}{
		{0, 256, every, 0, true}, {0, 257, read, 0, true}, {0, 257, run, 256, false}, {0, 257, every, 256, false}, {255, 258, read, 0, true}, {512, 256, write, 0, true}, {512, 257, write, 768, false}, {768, 1, read, 768, false}, {768, 0, read, 0, true},
		{0, 1, 0, 0, false}, {5, 1, 0, 5, false}, {5, 1, 8, 5, false}, {5, 1, -1, 5, false}, {5, 0, 8, 0, true}, {0, most, read, 768, false}, {math.MaxUint32, 2, read, math.MaxUint32, false},
	} {
		b, first, ok := cpu.Load(f, c.at, c.n, c.right)
		what := fmt.Sprintf("Load(%d, %d, %d)", c.at, c.n, c.right)
		wants(t, what, first, c.first)
		wants(t, what, ok, c.ok)
		wants(t, what, len(b), map[bool]int{true: c.n}[c.ok])
	}
	b, _, _ := cpu.Load(f, 0, 3, read)
	b[0] = 9
	_ = append(b, 9, 9, 9)
	wantsBytes(t, "what is loaded is new", f.Bytes()[:6], 1, 2, 3, 0, 0, 0)
}

// P8.2: Store, of each first address that may not: then nothing is written.
func TestStore(t *testing.T) {
	b := []byte{1, 2, 3, 4, 5, 6, 7}
	for first := range uint32(9) {
		for n := range len(b) + 1 {
			m := newRam(t)
			for at := range uint32(12) {
				m.lay(at-4, 0x55)
			}
			for at := first; at < 9; at += 3 {
				m.but[at-2] = read | run
			}
			want := m.clone()
			what := fmt.Sprintf("Store of %d, the first one %d", n, first)
			at, ok := cpu.Store(m, math.MaxUint32-1, b[:n])
			if n > int(first) {
				wants(t, what, at, first-2)
				wants(t, what, ok, false)
				wants(t, what+": bytes set", m.sets, 0)
			} else {
				want.lay(math.MaxUint32-1, b[:n]...)
				wants(t, what, at, uint32(0))
				wants(t, what, ok, true)
			}
			m.same(what, want)
		}
	}
	wantsBytes(t, "what is stored", b, 1, 2, 3, 4, 5, 6, 7)
	for _, n := range []int{most, 65537, 70000, 1 << 20} {
		m := newRam(t)
		at, ok := cpu.Store(m, 5, make([]byte, n))
		wants(t, fmt.Sprint("Store of ", n), at, uint32(0))
		wants(t, fmt.Sprint("Store of ", n), ok, n == most)
		wants(t, fmt.Sprint("Store of ", n, ": bytes set"), m.sets, map[bool]int{true: most}[n == most])
	}
	for _, b := range [][]byte{nil, {}, {1}, make([]byte, most), make([]byte, most+1)} {
		at, ok := cpu.Store(nil, 5, b)
		wants(t, "Store to no memory", at, uint32(0))
		wants(t, "Store to no memory", ok, false)
	}
	// A page that may be written only; one that may be all but written.
	f, _ := cpu.NewFlat(nil, write, read|run)
	at, ok := cpu.Store(f, 254, []byte{8, 9})
	wants(t, "Store", at == 0 && ok, true)
	at, ok = cpu.Store(f, 255, []byte{1, 1})
	wants(t, "Store beyond", at == 256 && !ok, true)
	at, ok = cpu.Store(f, 256, nil)
	wants(t, "Store of nothing", at == 0 && ok, true)
	wantsBytes(t, "behind Store", f.Bytes()[253:258], 0, 8, 9, 0, 0)
}

// P8.3: what NewFlat refuses, and in which order.
func TestNewFlatRefused(t *testing.T) {
	pages := func(n, right int) []int { return slices.Repeat([]int{right}, n) }
	for _, c := range []struct {
		bytes  int
		rights []int
		want   api.Errno
	}{
		{0, nil, api.OK}, {0, []int{}, api.OK}, {1, nil, api.ErrLong}, {0, []int{0}, api.OK}, {256, []int{7}, api.OK}, {257, []int{7}, api.ErrLong}, {257, []int{0, 0}, api.OK}, {512, []int{1, 2}, api.OK}, {513, []int{1, 2}, api.ErrLong},
		{8192, pages(32, 7), api.OK}, {8193, pages(32, 7), api.ErrLong}, {8192, pages(31, 7), api.ErrLong}, {8192, pages(33, 7), api.ErrArg}, {8193, pages(33, 7), api.ErrLong}, {0, pages(33, 0), api.ErrArg}, {0, pages(1000, 7), api.ErrArg}, {0, pages(32, 0), api.OK},
		{8193, nil, api.ErrLong}, {8193, []int{8}, api.ErrLong}, {100000, pages(32, -1), api.ErrLong}, {0, []int{-1}, api.ErrArg}, {0, []int{8}, api.ErrArg}, {0, []int{7, 7, 8}, api.ErrArg}, {0, []int{-1, 7, 7}, api.ErrArg}, {0, []int{math.MinInt}, api.ErrArg}, {0, []int{math.MaxInt, 1}, api.ErrArg},
		{300, []int{8}, api.ErrArg}, {8192, []int{-1}, api.ErrArg}, {0, append(pages(31, 0), 8), api.ErrArg},
	} {
		f, e := cpu.NewFlat(make([]byte, c.bytes), c.rights...)
		what := fmt.Sprintf("NewFlat of %d bytes, %d rights", c.bytes, len(c.rights))
		wants(t, what, e, c.want)
		wants(t, what, f != nil, c.want == api.OK)
		wants(t, what, len(f.Bytes()), map[bool]int{true: len(c.rights) * pageSize}[c.want == api.OK])
	}
}

// P8.3: each page has the right that stands for it; an address beyond has none.
func TestMay(t *testing.T) {
	for _, off := range []int{0, 3} {
		rights := make([]int, maxPages)
		for i := range rights {
			rights[i] = (i*5 + off) % 8
		}
		for _, n := range []int{0, 1, 2, 31, 32} {
			f, e := cpu.NewFlat(nil, rights[:n]...)
			wants(t, "NewFlat", e, api.OK)
			for page := range uint32(maxPages + 2) {
				for _, at := range []uint32{page * pageSize, page*pageSize + 1, page*pageSize + 255} {
					for right := -9; right < 20; right++ {
						want := int(page) < n && right > 0 && right < 8
						for _, bit := range []int{1, 2, 4} {
							if want && right&bit > 0 && rights[page]&bit == 0 {
								want = false
							}
						}
						if f.May(at, right) != want {
							t.Fatalf("of %d pages May(%d, %d): %v", n, at, right, !want)
						}
					}
				}
			}
			for _, at := range []uint32{8192, 1 << 16, 1 << 24, 1<<31 - 1, 1 << 31, 1<<31 + 5, math.MaxUint32 - 255, math.MaxUint32} {
				for _, right := range []int{math.MinInt, -1, 0, 1, 2, 4, 7, 8, 9, 1 << 32, 1<<32 + 1, math.MaxInt} {
					wants(t, "May beyond", f.May(at, right), false)
				}
			}
		}
	}
	f, _ := cpu.NewFlat(nil, 7)
	for _, right := range []int{math.MinInt, math.MinInt + 1, -8, -7, 1<<32 + 1, math.MaxInt} {
		wants(t, "May of a right that is none", f.May(0, right), false)
	}
}

// P8.3: Get and Set ask for no rights; beyond the pages there is nothing.
func TestGetSet(t *testing.T) {
	b := make([]byte, 700)
	for i := range b {
		b[i] = byte(i*7 + 1)
	}
	f, e := cpu.NewFlat(b, 0, 7, 1, 2)
	wants(t, "NewFlat", e, api.OK)
	want := make([]byte, 1024)
	copy(want, b)
	wantsBytes(t, "Bytes", f.Bytes(), want...)
	for at := range uint32(1100) {
		x := byte(0)
		if at < 1024 {
			x = want[at]
		}
		wants(t, fmt.Sprint("Get at ", at), f.Get(at), x)
	}
	for _, at := range []uint32{0, 255, 256, 511, 512, 699, 700, 767, 768, 1023} {
		f.Set(at, byte(at)^0xA5)
		want[at] = byte(at) ^ 0xA5
		wants(t, fmt.Sprint("Get at ", at), f.Get(at), want[at])
	}
	for _, at := range []uint32{1024, 1025, 8191, 8192, 1 << 16, 1 << 31, math.MaxUint32} {
		f.Set(at, 7)
		wants(t, fmt.Sprint("Get at ", at), f.Get(at), byte(0))
		wants(t, fmt.Sprint("May at ", at), f.May(at, read), false)
	}
	wantsBytes(t, "Bytes behind Set", f.Bytes(), want...)
	f, _ = cpu.NewFlat(nil)
	f.Set(0, 1)
	wants(t, "Get of no pages", f.Get(0), byte(0))
	wants(t, "Bytes of no pages", len(f.Bytes()), 0)
}

// P8.3: nothing that comes in is changed or kept, nothing that goes out is.
func TestFlatApart(t *testing.T) {
	b, rights := append(make([]byte, 0, 600), 1, 2, 3), append(make([]int, 0, 8), 7, 3)
	spare, spares := b[:600], rights[:8]
	f, _ := cpu.NewFlat(b, rights...)
	f.Set(0, 9)
	f.Set(3, 8)
	f.Set(500, 7)
	wantsBytes(t, "what came in", b, 1, 2, 3)
	wantsBytes(t, "its spare room", spare, append([]byte{1, 2, 3}, make([]byte, 597)...)...)
	b[1], rights[1] = 77, 0
	spare[4], spares[2] = 66, 7
	wantsBytes(t, "Bytes", f.Bytes()[:6], 9, 2, 3, 8, 0, 0)
	wants(t, "May", f.May(300, 3), true)
	wants(t, "May beyond", f.May(512, 7), false)
	out := f.Bytes()
	wants(t, "how many Bytes", len(out), 512)
	out[0] = 55
	_ = append(out, 1, 2, 3)
	wantsBytes(t, "Bytes", f.Bytes()[:3], 9, 2, 3)
	whole := f.Bytes()
	f.Set(1, 44)
	wants(t, "Bytes told ahead", whole[1], byte(2))
}

// P8.3: a clone stands as the memory, and goes on apart; of none there is none.
func TestClone(t *testing.T) {
	f, _ := cpu.NewFlat([]byte{1, 2, 3}, 7, 0, 5)
	f.Set(600, 6)
	g := f.Clone()
	if g == nil || g == f {
		t.Fatal("Clone is no other memory")
	}
	wantsBytes(t, "Bytes of the clone", g.Bytes(), f.Bytes()...)
	for at := uint32(0); at < 1024; at += 128 {
		for right := range 9 {
			wants(t, "May of the clone", g.May(at, right), f.May(at, right))
		}
	}
	f.Set(0, 50)
	g.Set(1, 60)
	h := g.Clone()
	h.Set(2, 70)
	wantsBytes(t, "Bytes", f.Bytes()[:3], 50, 2, 3)
	wantsBytes(t, "Bytes of the clone", g.Bytes()[:3], 1, 60, 3)
	wantsBytes(t, "Bytes of the clone's clone", h.Bytes()[:3], 1, 60, 70)
	f, _ = cpu.NewFlat(nil)
	if g := f.Clone(); g == nil || g == f || len(g.Bytes()) > 0 || g.Clone() == nil {
		t.Error("the clone of a memory without pages is none, or no other one")
	}
}

// P8.3: of no memory there is nothing, of nil, of a zero one, of one that New refused; nothing runs there.
func TestNoFlat(t *testing.T) {
	var none *cpu.Flat
	refused, _ := cpu.NewFlat(nil, 8)
	for what, f := range map[string]*cpu.Flat{"nil": none, "zero": {}, "new": new(cpu.Flat), "refused": refused, "a clone of zero": new(cpu.Flat).Clone()} {
		for _, at := range []uint32{0, 1, 255, 256, 8191, math.MaxUint32} {
			for right := -1; right < 9; right++ {
				wants(t, what+": May", f.May(at, right), false)
			}
			f.Set(at, 5)
			wants(t, what+": Get", f.Get(at), byte(0))
			runs(t, what+": Run", state(at/4*4, 1), f, 5, state(at/4*4, 1), fault(at/4*4, run, 0))
			b, first, ok := cpu.Load(f, at, 2, read)
			wants(t, what+": Load", len(b) == 0 && first == at && !ok, true)
			first, ok = cpu.Store(f, at, []byte{1})
			wants(t, what+": Store", first == at && !ok, true)
		}
		wants(t, what+": Bytes", f.Bytes() == nil, true)
		wants(t, what+": Clone", f.Clone() == nil, true)
	}
}

// script is a memory and a state that some bytes say.
func script(t *testing.T, b []byte) (*ram, api.State) {
	m, s := newRam(t), api.State{}
	next := func() byte {
		if len(b) == 0 {
			return 0
		}
		x := b[0]
		b = b[1:]
		return x
	}
	places := []uint32{0, 4, 8, 64, 1 << 31, math.MaxUint32 - 3, math.MaxUint32 - 15, 2}
	for range next() % 4 { // addresses with fewer rights
		m.but[places[next()%8]+uint32(next()%48)] = int(next() % 8)
	}
	for i := range s.R { // registers: near places, small, or any
		switch x := next(); x % 4 {
		case 0:
			s.R[i] = places[x/4%8] + uint32(x/32)
		case 1:
			s.R[i] = uint32(x / 4)
		case 2:
			s.R[i] = uint32(x)<<24 | uint32(next())<<12 | uint32(next())
		}
	}
	s.PC = places[next()%8]
	for at := s.PC; len(b) > 0; at += 4 {
		m.lay(at, word(next)...)
	}
	return m, s
}

// word is mostly an instruction's, with a small Imm.
func word(next func() byte) []byte {
	op, regs := next(), next()
	if op > 250 {
		return []byte{op, regs, next(), next()}
	}
	op = op%28 + 1
	i := api.Instr{Op: api.Op(op)}
	imm := int(int8(next())) / 8
	switch isa.Form(i.Op) {
	case api.FormDAB:
		i.B = int(uint8(imm)) % 16
		fallthrough
	case api.FormDA:
		i.D, i.A = int(regs/16), int(regs%16)
	case api.FormA:
		i.A = int(regs % 16)
	case api.FormDAI:
		i.A = int(regs % 16)
		fallthrough
	case api.FormDI:
		i.D = int(regs / 16)
		fallthrough
	case api.FormI:
		i.Imm = imm
	}
	if i.Op == api.OpCall || i.Op == api.OpHigh {
		i.Imm = max(imm, -imm) * 2047
	}
	b, _ := isa.Bytes(i)
	return b
}

// follows holds a run against the model's: whole, in two, and again from where it stopped. Why it stopped.
func follows(t *testing.T, m *ram, s api.State, fuel, first int) api.Stop {
	t.Helper()
	want := &model{s, m.clone()}
	stop := want.run(fuel)
	parts := m.clone()
	got, why, e := cpu.Run(s, m, fuel)
	if e != api.OK || got != want.s || why != stop {
		t.Fatalf("from %v: %v, %+v, %v; should be %v, %+v", s, got, why, e, want.s, stop)
	}
	m.same("behind Run", want.mem)
	// P8.4: so many steps at once are these, and then the others.
	part, one, _ := cpu.Run(s, parts, first)
	if one.Kind == api.StopFuel {
		var two api.Stop
		part, two, _ = cpu.Run(part, parts, fuel-first)
		two.Used += one.Used
		one = two
	}
	if part != got || one != why {
		t.Fatalf("from %v, %d steps first: %v, %+v; should be %v, %+v", s, first, part, one, got, why)
	}
	parts.same("behind Run in two", m)
	if why.Kind == api.StopFuel {
		wants(t, "Used", why.Used, fuel)
		return why
	}
	// P8.4: what it stopped at it stops at again.
	again, at, _ := cpu.Run(got, m, 1+first)
	why.Used = 0
	if again != got || at != why {
		t.Fatalf("again: %v, %+v; should be %v, %+v", again, at, got, why)
	}
	m.same("behind Run again", want.mem)
	return stop
}

// P8.1, P8.4: whatever the program, it does what the words say, and stops where they say it.
func TestFollows(t *testing.T) {
	r := rand.New(rand.NewSource(8))
	kinds, steps := map[api.StopKind]int{}, 0
	for range 20000 {
		b := make([]byte, 40+r.Intn(120))
		r.Read(b)
		m, s := script(t, b)
		fuel := r.Intn(60)
		stop := follows(t, m, s, fuel, r.Intn(fuel+1))
		kinds[stop.Kind]++
		steps += stop.Used
	}
	for kind := api.StopFuel; kind <= api.StopZero; kind++ {
		if kinds[kind] < 800 {
			t.Errorf("no more than %d runs stopped by %d", kinds[kind], kind)
		}
	}
	if steps < 50000 {
		t.Errorf("no more than %d steps", steps)
	}
}

// P8.1, P8.4: any bytes at all (P0.9), in a Flat: it ends within its fuel, and writes no byte that may not be written.
func TestAnyBytes(t *testing.T) {
	r := rand.New(rand.NewSource(88))
	for range 400 {
		b := make([]byte, r.Intn(2000))
		r.Read(b)
		for i := 0; i < len(b); i += 4 { // so that some of them are instructions
			b[i] %= 30
		}
		var rights []int
		for range (len(b) + 255) / 256 {
			rights = append(rights, r.Intn(8)|r.Intn(2)*run)
		}
		f, e := cpu.NewFlat(b, rights...)
		wants(t, "NewFlat", e, api.OK)
		before := f.Bytes()
		s := api.State{PC: uint32(r.Intn(500) * 4)}
		for i := range s.R {
			s.R[i] = uint32(r.Intn(3000))
		}
		fuel := r.Intn(1000)
		_, stop, e := cpu.Run(s, f, fuel)
		wants(t, "Run", e, api.OK)
		if stop.Kind < api.StopFuel || stop.Kind > api.StopZero || stop.Used > fuel || stop.Used == fuel != (stop.Kind == api.StopFuel) {
			t.Fatalf("Run of %d steps: %+v", fuel, stop)
		}
		for at, x := range f.Bytes() {
			if x != before[at] && rights[at/pageSize]&write == 0 {
				t.Fatalf("the byte at %d is written, but may not be", at)
			}
		}
	}
}

// P8.4: runs on the same memory, one behind the other, hang on nothing else.
func TestNothingElse(t *testing.T) {
	b := program(t, "const r1 100", "load r2 r1 0", "addi r2 r2 1", "store r2 r1 0", "call 5")
	m := newRam(t, b...)
	for i := range uint32(5) {
		runs(t, "a run behind others", api.State{}, m, 9, state(16, 100, i+1), api.Stop{Kind: api.StopCall, Call: 5, Used: 4})
	}
	s, stop, _ := cpu.Run(api.State{}, m, 9)
	wants(t, "the stop", stop.Kind, api.StopCall)
	m.lay(20, program(t, "stop")...)
	runs(t, "on behind the call", cpu.Next(s), m, 9, state(20, 100, 6), end(0))
}

// FuzzRuns holds any programs against the model.
func FuzzRuns(f *testing.F) {
	f.Add([]byte{0, 1, 2, 3, 4, 5, 6, 7, 8, 9, 10, 11, 12, 13, 14, 15, 16, 0, 4, 16, 40, 4, 32, 56, 7, 49, 32, 2, 0, 72}, 10, 2)
	f.Add([]byte{2, 0, 5, 3, 1, 9, 0, 0, 4, 8, 12}, 60, 30)
	f.Fuzz(func(t *testing.T, b []byte, fuel, first int) {
		m, s := script(t, b[:min(len(b), 400)])
		fuel = max(0, fuel%200)
		follows(t, m, s, fuel, max(0, first%(fuel+1)))
	})
}
