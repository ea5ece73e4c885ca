package asm_test

import (
	"bytes"
	"fmt"
	"math"
	"math/rand"
	"regexp"
	"slices"
	"strconv"
	"strings"
	"testing"
	"time"

	"steading/api"
	"steading/asm"
	"steading/isa"
)

const opNames = "nop stop call back const high copy add sub mul div mod and or xor shl shr addi load store loadb storeb jump jumpr link beq bne blt"

var (
	nameForm    = regexp.MustCompile(`^[a-z][a-z0-9_]{0,11}$`)
	textForm    = regexp.MustCompile(`^(%|([!-$&-~]|%[0-9A-F][0-9A-F])+)$`)
	escapeForm  = regexp.MustCompile(`%[0-9A-F][0-9A-F]`)
	numberForm  = regexp.MustCompile(`^(0|-?[1-9][0-9]*)$`)
	leadingForm = regexp.MustCompile(`^(jump|const r[0-9]+|link r[0-9]+|(?:beq|bne|blt) r[0-9]+ r[0-9]+) ([^ ]+)$`)
)

func mayName(s string) bool {
	return nameForm.MatchString(s) && !slices.Contains(strings.Fields(opNames), s)
}

// unword reads a text as a word, as the chapter does.
func unword(s string) (string, bool) {
	if !textForm.MatchString(s) {
		return "", false
	}
	if s == "%" {
		return "", true
	}
	ok := true
	text := escapeForm.ReplaceAllStringFunc(s, func(x string) string {
		n, _ := strconv.ParseUint(x[1:], 16, 8)
		if n >= 33 && n <= 126 && n != '%' {
			ok = false
		}
		return string([]byte{byte(n)})
	})
	if !ok {
		return "", false
	}
	return text, true
}

// number reads a number from least to most, as the document does.
func number(s string, least, most int64) (int64, bool) {
	n, err := strconv.ParseInt(s, 10, 64)
	return n, err == nil && numberForm.MatchString(s) && n >= least && n <= most
}

// row is what a line is in the model.
type row struct {
	sort  string // none, nothing, label, code, lead, const, place, data, even
	name  string
	data  []byte
	instr api.Instr
}

func rowOf(line string) row {
	if line == "" || line[0] == '#' {
		return row{sort: "nothing"}
	}
	if name := strings.TrimSuffix(line, ":"); name != line && mayName(name) {
		return row{sort: "label", name: name}
	}
	if i, e := isa.Parse(line); e == api.OK {
		b, _ := isa.Bytes(i)
		return row{sort: "code", data: b, instr: i}
	}
	if m := leadingForm.FindStringSubmatch(line); m != nil && mayName(m[2]) {
		i, e := isa.Parse(m[1] + " 0")
		switch {
		case e != api.OK:
			return row{sort: "none"}
		case i.Op == api.OpConst:
			return row{sort: "const", name: m[2], instr: i}
		}
		return row{sort: "lead", name: m[2], instr: i}
	}
	if line == ".even" {
		return row{sort: "even"}
	}
	what, w, _ := strings.Cut(line, " ")
	switch what {
	case ".word":
		if n, ok := number(w, 0, 1<<32-1); ok {
			return row{sort: "data", data: []byte{byte(n), byte(n / 256), byte(n / 65536), byte(n / 16777216)}}
		}
		if mayName(w) {
			return row{sort: "place", name: w}
		}
	case ".byte":
		if n, ok := number(w, 0, 255); ok {
			return row{sort: "data", data: []byte{byte(n)}}
		}
	case ".space":
		if n, ok := number(w, 1, 4096); ok {
			return row{sort: "data", data: make([]byte, n)}
		}
	case ".text":
		if text, ok := unword(w); ok {
			return row{sort: "data", data: []byte(text)}
		}
	}
	return row{sort: "none"}
}

// assemble is Assemble, as the chapter says it.
func assemble(text string) (api.Program, int, api.Errno) {
	if len(text) > 131072 {
		return api.Program{}, 0, api.ErrLong
	}
	lines := strings.Split(text, "\n")
	lines, tail := lines[:len(lines)-1], lines[len(lines)-1]
	firsts, places, rows := map[string]int{}, map[string]int{}, []row{}
	at := 0
	for n, line := range lines {
		r := rowOf(line)
		rows = append(rows, r)
		switch r.sort {
		case "label":
			if _, ok := firsts[r.name]; !ok {
				firsts[r.name], places[r.name] = n, at
			}
		case "even":
			for at%4 != 0 {
				at++
			}
		case "code", "lead", "const", "place":
			at += 4
		}
		if r.sort == "data" {
			at += len(r.data)
		}
	}
	var p api.Program
	for n, r := range rows {
		at, data, ok := len(p.Bytes), r.data, r.sort != "none"
		to, there := places[r.name]
		switch r.sort {
		case "label":
			ok = firsts[r.name] == n
		case "code":
			ok = at%4 == 0
		case "lead":
			ok = there && at%4 == 0 && (to-at)%4 == 0 && (to-at)/4 <= 32767 && (to-at)/4 >= -32768
			r.instr.Imm = (to - at) / 4
		case "const":
			ok = there && at%4 == 0 && to <= 32767
			r.instr.Imm = to
			p.Places = append(p.Places, api.Place{At: at + 2, Half: true})
		case "place":
			ok = there
			data = []byte{byte(to), byte(to / 256), byte(to / 65536), byte(to / 16777216)}
			p.Places = append(p.Places, api.Place{At: at})
		case "even":
			data = []byte{0, 0, 0}[:(4-at%4)%4]
		}
		if r.sort == "lead" || r.sort == "const" {
			data, _ = isa.Bytes(r.instr)
		}
		if !ok {
			return api.Program{}, n, api.ErrBytes
		}
		if r.sort == "label" {
			p.Labels = append(p.Labels, api.Label{Name: r.name, At: at})
		}
		p.Bytes = append(p.Bytes, data...)
		if len(p.Bytes) > 8192 || len(p.Labels) > 256 {
			return api.Program{}, n, api.ErrFull
		}
	}
	if tail != "" {
		return api.Program{}, len(lines), api.ErrBytes
	}
	slices.SortFunc(p.Labels, func(a, b api.Label) int { return strings.Compare(a.Name, b.Name) })
	return p, 0, api.OK
}

func same(a, b api.Program) bool {
	return bytes.Equal(a.Bytes, b.Bytes) && slices.Equal(a.Labels, b.Labels) && slices.Equal(a.Places, b.Places)
}

func copyOf(p api.Program) api.Program {
	return api.Program{Bytes: bytes.Clone(p.Bytes), Labels: slices.Clone(p.Labels), Places: slices.Clone(p.Places)}
}

// short is a text as a message shows it.
func short(s string) string {
	if len(s) > 200 {
		return fmt.Sprintf("%q... (%d bytes)", s[:200], len(s))
	}
	return fmt.Sprintf("%q", s)
}

// check holds Assemble's answer against the model's.
func check(t *testing.T, text string) (api.Program, api.Errno) {
	t.Helper()
	p, n, e := asm.Assemble(text)
	q, m, f := assemble(text)
	if !same(p, q) || n != m || e != f {
		t.Fatalf("%s:\n%v, %d, %v; should be\n%v, %d, %v", short(text), p, n, e, q, m, f)
	}
	return p, e
}

// wants assembles a text that should be taken, and holds its bytes against these.
func wants(t *testing.T, text, want string) api.Program {
	t.Helper()
	p, n, e := asm.Assemble(text)
	if e != api.OK || n != 0 || string(p.Bytes) != want {
		t.Errorf("%s: % x, %d, %v; should be % x", short(text), p.Bytes, n, e, want)
	}
	check(t, text)
	return p
}

// refuses assembles a text that should be refused.
func refuses(t *testing.T, text string, line int, want api.Errno) {
	t.Helper()
	p, n, e := asm.Assemble(text)
	if n != line || e != want {
		t.Errorf("%s: line %d, %v; should be line %d, %v", short(text), n, e, line, want)
	}
	if p.Bytes != nil || p.Labels != nil || p.Places != nil {
		t.Errorf("%s: %v beside an error", short(text), p)
	}
	check(t, text)
}

// soon fails if f does not end soon.
func soon(t *testing.T, what string, f func()) {
	t.Helper()
	done := make(chan bool)
	go func() { defer close(done); f() }()
	select {
	case <-done:
	case <-time.After(20 * time.Second):
		t.Fatalf("%s does not end soon", what)
	}
}

// P4.1: the chapter's examples.
func TestExamples(t *testing.T) {
	p := wants(t, "a:\naddi r1 r1 1\njump a\n.word a\n", "\x12\x11\x01\x00\x17\x00\xff\xff\x00\x00\x00\x00")
	if !slices.Equal(p.Labels, []api.Label{{Name: "a", At: 0}}) || !slices.Equal(p.Places, []api.Place{{At: 8}}) {
		t.Errorf("%v, %v", p.Labels, p.Places)
	}
	wants(t, ".byte 1\n.even\nstop\n", "\x01\x00\x00\x00\x02\x00\x00\x00")
	refuses(t, "stop", 0, api.ErrBytes)
	refuses(t, "b:\nb:\n", 1, api.ErrBytes)
	refuses(t, "jump c\n", 0, api.ErrBytes)
	refuses(t, ".byte 1\nstop\n", 1, api.ErrBytes)
	if s := asm.List([]byte{2, 0, 0, 0, 255}); s != "stop\n.byte 255\n" {
		t.Errorf("List is %q", s)
	}
	if w := asm.Word("a b"); w != "a%20b" {
		t.Errorf("Word is %q", w)
	}
	if s, e := asm.Unword("%61"); s != "" || e != api.ErrBytes {
		t.Errorf("Unword(%%61) is %q, %v", s, e)
	}
	if s, e := asm.Unword("%"); s != "" || e != api.OK {
		t.Errorf("Unword(%%) is %q, %v", s, e)
	}
}

// P4.1: what each line lays.
func TestLaid(t *testing.T) {
	for text, want := range map[string]string{
		"":                        "",
		"\n":                      "",
		"\n\n\n":                  "",
		"#\n":                     "",
		"# stop\n":                "",
		"#\x00\xff \t  x\r\n":     "",
		"nop\n":                   "\x01\x00\x00\x00",
		"call 65535\n":            "\x03\x00\xff\xff",
		"const r15 -32768\n":      "\x05\xf0\x00\x80",
		"add r1 r2 r3\n":          "\x08\x12\x03\x00",
		"jump -1\n":               "\x17\x00\xff\xff",
		"jumpr r3\n":              "\x18\x03\x00\x00",
		".word 0\n":               "\x00\x00\x00\x00",
		".word 4294967295\n":      "\xff\xff\xff\xff",
		".word 67305985\n":        "\x01\x02\x03\x04",
		".byte 0\n":               "\x00",
		".byte 255\n":             "\xff",
		".space 1\n":              "\x00",
		".space 4096\n":           strings.Repeat("\x00", 4096),
		".text %\n":               "",
		".text %25\n":             "%",
		".text abc:#.\n":          "abc:#.",
		".text %0A%00%FF%20!~%7F": "",
		".even\n":                 "",
		"stop\n.even\nstop\n":     "\x02\x00\x00\x00\x02\x00\x00\x00",
		".byte 1\n.even\n":        "\x01\x00\x00\x00",
		".text ab\n.even\n":       "ab\x00\x00",
		".text abc\n.even\n":      "abc\x00",
		".text abcd\n.even\n":     "abcd",
		".text abcde\n.even\n":    "abcde\x00\x00\x00",
		".byte 7\n.word 1\n":      "\x07\x01\x00\x00\x00",
		"r1:\njump r1\n":          "\x17\x00\x00\x00",
		"beq r1 r2 r3\nr3:\n":     "\x1a\x12\x01\x00",
		"a:\nbne r0 r15 a\n":      "\x1b\x0f\x00\x00",
		"nop\na:\nblt r4 r5 a\n":  "\x01\x00\x00\x00\x1c\x45\x00\x00",
		"a:\nnop\nlink r14 a\n":   "\x01\x00\x00\x00\x19\xe0\xff\xff",
		"const r9 e\n.even\ne:\n": "\x05\x90\x04\x00",
	} {
		if !strings.HasSuffix(text, "\n") && text != "" {
			text, want = text+"\n", "\n\x00\xff !~\x7f"
		}
		wants(t, text, want)
	}
	for b := range 256 {
		one := string([]byte{byte(b)})
		wants(t, ".text "+asm.Word(one)+"\n", one)
		wants(t, ".byte "+strconv.Itoa(b)+"\n", one)
	}
}

// P4.1: lines that are none.
func TestNoLines(t *testing.T) {
	for _, line := range []string{
		" ", "  ", "\t", "\r", " #", " # x", "x", "fly", "a", ":", "a :", " a:", "a: ", "a:b", "a:b:", "a: stop", "1:", "_:", "A:", "aB:", "stop:", "blt:", "a-b:", "é:", "abcdefghijklm:",
		"stop ", " stop", "Stop", "STOP", "stop #", "stop stop", "stop 0", "stop\r", "stop\x00", "nop nop", "call", "call -1", "call 65536", "call a", "const r1", "const r1 32768", "const r1 -32769", "const r1 +1", "const r1 01", "const r1 -0",
		"const  r1 1", "const r1  1", "const r16 1", "const 1 1", "const a", "const r1 A", "const r16 a", "const r1 a ", "const r1 a 1", "high r1 a", "high r1 -1", "addi r1 r1 a", "load r1 r1 a", "store r1 r1 a", "loadb r1 r1 a", "storeb r1 r1 a", "jumpr a", "jumpr 0", "jump", "jump ", "jump  a", " jump a", "jump a ", "jump a:", "jump A", "jump stop", "jump 1a", "jump _a", "jump r1 a", "jump abcdefghijklm",
		"jump 32768", "jump 00", "beq r1 a", "beq r1 r2", "beq r1 r2 a b", "beq a r2 a", "link a", "link r01 a", "copy r1 a", "copy r1 0", "add r1 r2 a", "a 0",
		".", ".word", ".word ", ".word -1", ".word 4294967296", ".word 00", ".word +1", ".word 1 ", ".word  1", ".word 1 2", ".word 1a", ".word A", ".word stop", ".word abcdefghijklm", ".word 18446744073709551616", ".word a b", ".word 0x1", ".word 1_0", ".words 1", ".Word 1", "word 1", " .word 1",
		".byte", ".byte ", ".byte -1", ".byte 256", ".byte 007", ".byte a", ".byte 1 1", ".byte 1 ", ".byte 99999999999999999999",
		".space", ".space ", ".space 0", ".space -1", ".space 4097", ".space 01", ".space a", ".space 1 ", ".space 1 1",
		".text", ".text ", ".text  ", ".text a b", ".text a ", ".text  a", ".text %%", ".text %2", ".text %6", ".text a%", ".text %61", ".text %0a", ".text %2g", ".text %25%", ".text \x7f", ".text é", ".text \x00", ".text %21", ".text %7E", ".text %+1",
		".even ", ".even 4", " .even", ".Even", ".even a", ".even:", ".even#",
	} {
		refuses(t, "a:\n"+line+"\nstop\n", 1, api.ErrBytes)
	}
}

// P4.1: what each label's name may be, and that it is led to from before and behind.
func TestLabels(t *testing.T) {
	names := []string{"z", "a_", "a0", "abcdefghijkl", "stopp", "sto", "r1", "x_1", "b", "a"}
	text := ""
	for _, name := range names {
		text += "jump " + name + "\n.word " + name + "\n"
	}
	for _, name := range names {
		text += name + ":\n.byte 1\n.even\nlink r1 " + name + "\n"
	}
	p, e := check(t, text)
	if e != api.OK || len(p.Labels) != len(names) || len(p.Places) != len(names) {
		t.Fatalf("%v, %v", p, e)
	}
	if !slices.IsSortedFunc(p.Labels, func(a, b api.Label) int { return strings.Compare(a.Name, b.Name) }) {
		t.Errorf("labels: %v", p.Labels)
	}
	for i, name := range names {
		at, ok := asm.Find(p, name)
		if !ok || at != 8*len(names)+8*i {
			t.Errorf("Find(%s) is %d, %v", name, at, ok)
		}
	}
	// At the front, at the end, to itself, at no multiple of four.
	wants(t, "front:\nnop\njump front\njump end\nself:\nbeq r0 r0 self\nend:\n", "\x01\x00\x00\x00\x17\x00\xff\xff\x17\x00\x02\x00\x1a\x00\x00\x00")
	refuses(t, "jump odd\n.byte 1\nodd:\n", 0, api.ErrBytes)
	refuses(t, ".byte 1\nodd:\n.even\njump odd\n", 3, api.ErrBytes)
	p = wants(t, ".byte 1\nodd:\n.even\nconst r1 odd\n.word odd\n", "\x01\x00\x00\x00\x05\x10\x01\x00\x01\x00\x00\x00")
	if !slices.Equal(p.Places, []api.Place{{At: 6, Half: true}, {At: 8}}) {
		t.Errorf("places: %v", p.Places)
	}
	p = wants(t, ".byte 9\n.word e\ne:\n", "\x09\x05\x00\x00\x00")
	if !slices.Equal(p.Places, []api.Place{{At: 1}}) {
		t.Errorf("places: %v", p.Places)
	}
	// Two labels at one place.
	wants(t, "a:\nb:\njump a\njump b\n", "\x17\x00\x00\x00\x17\x00\xff\xff")
	// What leads by a number is no place, nor is a label's number elsewhere.
	if p := wants(t, "jump 0\nconst r1 4\n.word 4\njump a\na:\n", "\x17\x00\x00\x00\x05\x10\x04\x00\x04\x00\x00\x00\x17\x00\x01\x00"); len(p.Places) != 0 {
		t.Errorf("places: %v", p.Places)
	}
}

// P4.1: which line is told, and as what.
func TestFirstWrong(t *testing.T) {
	full := ".space 4096\n.space 4096\n"
	refuses(t, "fly\nfly\n", 0, api.ErrBytes)
	refuses(t, "stop\nfly\nb:\nb:\n", 1, api.ErrBytes)
	refuses(t, "b:\nb:\nfly\n", 1, api.ErrBytes)
	refuses(t, "jump c\nfly\n", 0, api.ErrBytes)
	refuses(t, "const r1 c\nfly\n", 0, api.ErrBytes)
	refuses(t, ".word c\nfly\n", 0, api.ErrBytes)
	refuses(t, "nop\nnop\n.word c\n", 2, api.ErrBytes)
	// What stands behind the last byte 10.
	refuses(t, "stop\nstop", 1, api.ErrBytes)
	refuses(t, "\n\n#", 2, api.ErrBytes)
	refuses(t, " ", 0, api.ErrBytes)
	refuses(t, "fly\nstop", 0, api.ErrBytes)
	refuses(t, full+"nop\nnop", 2, api.ErrFull)
	refuses(t, full+".byte 1", 2, api.ErrBytes)
	refuses(t, "jump a\na:", 0, api.ErrBytes)
	refuses(t, "a:\na:", 1, api.ErrBytes)
	// A line that is wrong in both ways.
	refuses(t, full+".byte 256\n", 2, api.ErrBytes)
	refuses(t, full+"jump c\n", 2, api.ErrBytes)
	refuses(t, full+".word c\n", 2, api.ErrBytes)
	refuses(t, ".space 4095\n.space 4096\nnop\n", 2, api.ErrBytes)
	refuses(t, ".space 4095\n.space 4096\n.even\nnop\n", 3, api.ErrFull)
	// One of each sort, either first.
	refuses(t, full+".byte 1\nfly\n", 2, api.ErrFull)
	refuses(t, "fly\n"+full+".byte 1\n", 0, api.ErrBytes)
	refuses(t, "jump c\n"+full+".byte 1\n", 0, api.ErrBytes)
	// A label that stands further on: the place of its first line.
	refuses(t, "jump a\n.byte 256\na:\n", 1, api.ErrBytes)
	refuses(t, "jump a\n.text %61\na:\n", 1, api.ErrBytes)
	refuses(t, "jump a\n.byte 1\nstop\n.space 3\na:\n", 2, api.ErrBytes)
	refuses(t, "jump a\n.byte 1\na:\n.space 3\na:\n", 0, api.ErrBytes)
	refuses(t, "jump a\na:\n.byte 1\na:\n", 3, api.ErrBytes)
	refuses(t, "jump a\n.byte 1\nfly:\nFly:\n.even\na:\n", 3, api.ErrBytes)
	refuses(t, "jump a\njump b\n.byte 1\njumper:\njump c\n.even\na:\n", 1, api.ErrBytes)
}

// P4.1: a label that stands too far, in a text that is too much anyway.
func TestFar(t *testing.T) {
	spaces := strings.Repeat(".space 4096\n", 31)
	refuses(t, "jump far\n"+spaces+".space 4088\nfar:\n", 3-1, api.ErrFull)
	refuses(t, "jump far\n"+spaces+".space 4064\nfar:\n", 2, api.ErrFull)
	refuses(t, "jump far\n"+spaces+".space 4092\nfar:\n", 0, api.ErrBytes)
	refuses(t, "jump far\n"+spaces+".space 4091\nfar:\n", 0, api.ErrBytes)
	refuses(t, "nop\njump far\n"+spaces+".space 4088\nfar:\n", 3, api.ErrFull)
	refuses(t, "nop\njump far\n"+spaces+".space 4092\nfar:\n", 1, api.ErrBytes)
	spaces = strings.Repeat(".space 4096\n", 7)
	refuses(t, "const r1 far\n"+spaces+".space 4091\nfar:\n", 2, api.ErrFull)
	refuses(t, "const r1 far\n"+spaces+".space 4092\nfar:\n", 0, api.ErrBytes)
	refuses(t, ".word far\n"+spaces+".space 4092\nfar:\n", 2, api.ErrFull)
	// A line of a label that is not there lays its four bytes all the same.
	spaces = strings.Repeat(".space 4096\n", 31)
	refuses(t, "jump far\njump none\n"+spaces+".space 4088\nfar:\n", 0, api.ErrBytes)
	refuses(t, "jump far\n.word none\n"+spaces+".space 4084\nfar:\n", 1, api.ErrBytes)
	// What is no line lays nothing.
	for _, line := range []string{".word A", ".word stop", "jump A", "jump stop", "const r1 stop", "high r1 far", "fly", "stop ", ".byte 256", ".space 4097", ".space 0", ".text %61", ".even 1", ".word 4294967296"} {
		refuses(t, "jump far\n"+line+"\n"+spaces+".space 4088\nfar:\n", 1, api.ErrBytes)
	}
}

// P4.1: texts of just MaxSource bytes, programs of just MaxProgram bytes, just MaxLabels labels, and one more.
func TestBounds(t *testing.T) {
	long := "stop\n#" + strings.Repeat("x", api.MaxSource-7) + "\n"
	wants(t, long, "\x02\x00\x00\x00")
	refuses(t, long+"\n", 0, api.ErrLong)
	refuses(t, long+"fly", 0, api.ErrLong)
	refuses(t, strings.Repeat("\n", api.MaxSource+1), 0, api.ErrLong)
	refuses(t, "stop\n"+strings.Repeat("x", api.MaxSource), 0, api.ErrLong)
	wants(t, strings.Repeat("\n", api.MaxSource), "")

	full := strings.Repeat("nop\n", 2048)
	if p := wants(t, full+"end:\n", strings.Repeat("\x01\x00\x00\x00", 2048)); p.Labels[0].At != api.MaxProgram {
		t.Errorf("the end is at %d", p.Labels[0].At)
	}
	wants(t, ".space 4096\n.space 4095\n.even\n.even\n.text %\n#\n\n", strings.Repeat("\x00", 8192))
	for _, line := range []string{"nop", ".word 1", ".word end", ".byte 1", ".space 1", ".text x", "const r1 end"} {
		refuses(t, full+"end:\n\n"+line+"\n", 2050, api.ErrFull)
		refuses(t, full+"end:\n"+line+"\nfly\n", 2049, api.ErrFull)
	}
	refuses(t, ".space 4096\n.text xy\n.space 4095\n", 2, api.ErrFull)
	refuses(t, ".space 4096\n.space 4095\n.text xy\n", 2, api.ErrFull)

	labels := ""
	for i := range api.MaxLabels {
		labels += "x" + strconv.Itoa(i) + ":\n"
	}
	if p := wants(t, labels+"stop\n", "\x02\x00\x00\x00"); len(p.Labels) != api.MaxLabels {
		t.Errorf("%d labels", len(p.Labels))
	}
	refuses(t, labels+"stop\ny:\n", api.MaxLabels+1, api.ErrFull)
	refuses(t, labels+"x0:\n", api.MaxLabels, api.ErrBytes)
	refuses(t, labels+"x0:\ny:\n", api.MaxLabels, api.ErrBytes)
	refuses(t, labels+"y:\nfly\n", api.MaxLabels, api.ErrFull)
	refuses(t, "jump y\n"+labels+"stop\ny:\n", api.MaxLabels+2, api.ErrFull)
	refuses(t, ".space 4096\n.space 4096\n"+labels+"y:\nnop\n", api.MaxLabels+2, api.ErrFull)
}

// P4.1, P0.9: greatest texts end soon.
func TestSoon(t *testing.T) {
	for _, part := range []string{"\n", "a\n", " ", " \n", "jump a\n", "a:\n", ".space 4096\n", ".text %00", "%", "jump ", ":", "#", "add r1 r2 r3\n"} {
		text := strings.Repeat(part, api.MaxSource/len(part))
		soon(t, "Assemble", func() { check(t, text) })
		soon(t, "Assemble", func() { check(t, text+"\n") })
	}
	many := strings.Builder{}
	for i := 0; many.Len() < api.MaxSource-20; i++ {
		many.WriteString("a" + strconv.Itoa(i) + ":\n")
	}
	soon(t, "Assemble", func() { check(t, many.String()) })
}

// made is a line of a random text.
func made(r *rand.Rand) string {
	names := []string{"a", "b", "c1", "d_", "loop", "end", "r2", "abcdefghijkl", "none"}
	name := names[r.Intn(len(names))]
	reg := func() string { return "r" + strconv.Itoa(r.Intn(16)) }
	switch r.Intn(16) {
	case 0:
		return ""
	case 1:
		return "#" + strings.Repeat(" x", r.Intn(3))
	case 2, 3, 4:
		return name + ":"
	case 5:
		return []string{"jump ", "link " + reg() + " ", "beq " + reg() + " " + reg() + " ", "bne " + reg() + " " + reg() + " ", "blt " + reg() + " " + reg() + " "}[r.Intn(5)] + name
	case 6:
		return "const " + reg() + " " + name
	case 7:
		return ".word " + name
	case 8:
		return ".word " + strconv.FormatUint(uint64(r.Uint32()>>r.Intn(32)), 10)
	case 9:
		return ".byte " + strconv.Itoa(r.Intn(256))
	case 10:
		return ".space " + strconv.Itoa(1+r.Intn(4096)>>r.Intn(12))
	case 11:
		b := make([]byte, r.Intn(6))
		r.Read(b)
		return ".text " + asm.Word(string(b))
	case 12, 13:
		return ".even"
	}
	ops := strings.Fields(opNames)
	for {
		i := api.Instr{Op: api.Op(1 + r.Intn(len(ops)))}
		switch f := isa.Form(i.Op); f {
		case api.FormDAB:
			i.D, i.A, i.B = r.Intn(16), r.Intn(16), r.Intn(16)
		case api.FormDAI:
			i.D, i.A, i.Imm = r.Intn(16), r.Intn(16), r.Intn(65536)-32768
		case api.FormI, api.FormDI:
			i.Imm = r.Intn(65536) - 32768
		case api.FormA, api.FormDA:
			i.A = r.Intn(16)
		}
		if text, e := isa.Text(i); e == api.OK {
			return text
		}
	}
}

// spoiled is a text with some bytes changed.
func spoiled(r *rand.Rand, text string) string {
	b := []byte(text)
	for n := r.Intn(3); n > 0 && len(b) > 0; n-- {
		i := r.Intn(len(b))
		switch r.Intn(4) {
		case 0:
			b = slices.Delete(b, i, i+1)
		case 1:
			b = slices.Insert(b, i, " \n:#.%0a-_r"[r.Intn(11)])
		case 2:
			b[i] = " \n:#.%0a-_r"[r.Intn(11)]
		case 3:
			b[i] = byte(r.Intn(256))
		}
	}
	return string(b)
}

// P4.1, P4.4: random texts, against the model; of those that are taken, what follows.
func TestRandom(t *testing.T) {
	r := rand.New(rand.NewSource(4))
	taken := 0
	for range 6000 {
		lines, have := []string{}, map[string]bool{}
		for range 1 + r.Intn(14) {
			line := made(r)
			if strings.HasSuffix(line, ":") && have[line] && r.Intn(8) > 0 {
				continue
			}
			have[line] = true
			if _, e := isa.Parse(line); r.Intn(4) > 0 && (e == api.OK || strings.HasPrefix(line, "jump")) {
				lines = append(lines, ".even")
			}
			lines = append(lines, line)
		}
		for _, name := range []string{"a", "b", "c1", "d_", "loop", "end", "r2", "abcdefghijkl"} {
			if !have[name+":"] {
				lines = slices.Insert(lines, r.Intn(len(lines)+1), name+":")
				if r.Intn(2) == 0 {
					lines = append(lines, ".even")
				}
			}
		}
		text := strings.Join(lines, "\n") + "\n"
		check(t, spoiled(r, text))
		if p, e := check(t, text); e == api.OK {
			taken++
			follows(t, text, p)
		}
	}
	if taken < 300 {
		t.Errorf("only %d texts were taken", taken)
	}
}

// follows checks P4.4's words of a text that was taken.
func follows(t *testing.T, text string, p api.Program) {
	t.Helper()
	at := 0
	for n, line := range asm.Lines(text) {
		f := strings.Fields(line)
		switch name := append(f, "")[max(0, len(f)-1)]; {
		case line == ".even":
			for at%4 != 0 {
				if p.Bytes[at] != 0 {
					t.Fatalf("%q: line %d, place %d", text, n, at)
				}
				at++
			}
		case asm.Label(name) && !strings.HasPrefix(line, ".text") && line[0] != '#' && rowOf(line).sort != "code":
			to, ok := asm.Find(p, name)
			if !ok {
				t.Fatalf("%q: no label %q", text, name)
			}
			if i, e := isa.Read(p.Bytes[at : at+4]); e == api.OK && f[0] != ".word" && f[0] != "const" {
				if there, ok := isa.Leads(i, uint32(at)); !ok || there != uint32(to) {
					t.Fatalf("%q: line %d leads to %d, %v, not to %d", text, n, there, ok, to)
				}
			}
			at += 4
		default:
			alone, _, e := asm.Assemble(line + "\n")
			if e != api.OK || !bytes.HasPrefix(p.Bytes[at:], alone.Bytes) {
				t.Fatalf("%q: line %d lays % x (%v) by itself", text, n, alone.Bytes, e)
			}
			at += len(alone.Bytes)
		}
	}
	if at != len(p.Bytes) {
		t.Fatalf("%q: lines lay %d bytes of %d", text, at, len(p.Bytes))
	}
	back, _, e := asm.Assemble(asm.List(p.Bytes))
	if e != api.OK || !bytes.Equal(back.Bytes, p.Bytes) || len(back.Labels)+len(back.Places) != 0 {
		t.Fatalf("%q: List is %q", text, asm.List(p.Bytes))
	}
}

// listOf is List, as the chapter says it.
func listOf(b []byte) string {
	s := ""
	for ; len(b) >= 4; b = b[4:] {
		if i, e := isa.Read(b[:4]); e == api.OK {
			text, _ := isa.Text(i)
			s += text + "\n"
		} else {
			s += fmt.Sprintf(".word %d\n", int64(b[0])+256*int64(b[1])+65536*int64(b[2])+16777216*int64(b[3]))
		}
	}
	for _, x := range b {
		s += fmt.Sprintf(".byte %d\n", x)
	}
	return s
}

// P4.2, P4.4: List of any bytes.
func TestList(t *testing.T) {
	lists := func(b []byte, want string) {
		t.Helper()
		before := bytes.Clone(b)
		if s := asm.List(b); s != want {
			t.Errorf("List(% x) is %s; should be %s", b, short(s), short(want))
		}
		if !bytes.Equal(b, before) {
			t.Errorf("List changed % x", before)
		}
		if p, _, e := asm.Assemble(want); e != api.OK || !bytes.Equal(p.Bytes, b) {
			t.Errorf("%s: % x, %v", short(want), p.Bytes, e)
		}
	}
	lists(nil, "")
	lists([]byte{}, "")
	b := []byte{2, 0, 0, 0, 0, 1, 2}
	for i, want := range []string{"", ".byte 2\n", ".byte 2\n.byte 0\n", ".byte 2\n.byte 0\n.byte 0\n", "stop\n", "stop\n.byte 0\n", "stop\n.byte 0\n.byte 1\n", "stop\n.byte 0\n.byte 1\n.byte 2\n"} {
		lists(b[:i], want)
	}
	lists([]byte{0, 0, 0, 0, 1, 2, 3, 4, 2, 0, 0, 1, 0x1a, 0x12, 0xfd, 0xff, 0xff, 0xff, 0xff, 0xff}, ".word 0\n.word 67305985\n.word 16777218\nbeq r1 r2 -3\n.word 4294967295\n")
	lists([]byte{0, 2, 0, 0, 0}, ".word 512\n.byte 0\n")
	lists([]byte{29, 0, 0, 0, 3, 0, 0xff, 0xff}, ".word 29\ncall 65535\n")
	full := bytes.Repeat([]byte{22, 0xff, 0, 0x80}, 2048)
	lists(full, strings.Repeat("storeb r15 r15 -32768\n", 2048))
	if s := asm.List(append(full, 0)); s != "" {
		t.Errorf("List of one byte more: %s", short(s))
	}
	if s := asm.List(make([]byte, 1<<20)); s != "" {
		t.Errorf("List of far more: %s", short(s))
	}
	for op := range len(strings.Fields(opNames)) + 3 {
		b := []byte{byte(op), 0, 0, 0, byte(op), 0x12, 3, 0, byte(op), 0x12, 0xfe, 0xff}
		lists(b, listOf(b))
	}
	r := rand.New(rand.NewSource(5))
	for range 300 {
		b := make([]byte, r.Intn(200))
		r.Read(b)
		for i := range b {
			if i%4 == 0 {
				b[i] %= 32
			}
		}
		lists(b, listOf(b))
	}
}

// P4.2: Find, where names rise and where they do not.
func TestFind(t *testing.T) {
	p := api.Program{Labels: []api.Label{{Name: "z", At: 7}, {Name: "a", At: 3}, {Name: "m", At: -5}, {Name: "a", At: 4}, {Name: "", At: 9}, {Name: "B c", At: math.MaxInt}}}
	for name, at := range map[string]int{"z": 7, "a": 3, "m": -5, "": 9, "B c": math.MaxInt} {
		if n, ok := asm.Find(p, name); n != at || !ok {
			t.Errorf("Find(%q) is %d, %v", name, n, ok)
		}
	}
	for _, name := range []string{"b", "A", "aa", "z ", "stop"} {
		if n, ok := asm.Find(p, name); n != 0 || ok {
			t.Errorf("Find(%q) is %d, %v", name, n, ok)
		}
	}
	if n, ok := asm.Find(api.Program{}, ""); n != 0 || ok {
		t.Errorf("Find in none is %d, %v", n, ok)
	}
	if n, ok := asm.Find(api.Program{Labels: []api.Label{{Name: "a"}}}, "a"); n != 0 || !ok {
		t.Errorf("Find at 0 is %d, %v", n, ok)
	}
}

// moves checks that Move of p answers want, or refuses where want is nil, and that p stays as it is.
func moves(t *testing.T, p api.Program, by int, want *api.Program) {
	t.Helper()
	before := copyOf(p)
	q, e := asm.Move(p, by)
	if !same(p, before) {
		t.Errorf("Move(%v, %d) changed it: %v", before, by, p)
	}
	if want == nil {
		if e != api.ErrArg || q.Bytes != nil || q.Labels != nil || q.Places != nil {
			t.Errorf("Move(%v, %d) is %v, %v", before, by, q, e)
		}
		return
	}
	if e != api.OK || !same(q, *want) {
		t.Errorf("Move(%v, %d) is %v, %v; should be %v", before, by, q, e, *want)
	}
}

// P4.2: Move of places and labels.
func TestMove(t *testing.T) {
	b := func(l ...byte) []byte { return l }
	p := api.Program{
		Bytes:  b(5, 16, 8, 1, 255, 255, 255, 255, 9),
		Labels: []api.Label{{Name: "z", At: 8}, {Name: "a", At: -3}},
		Places: []api.Place{{At: 2, Half: true}, {At: 4}},
	}
	to := func(by int, l []byte) *api.Program {
		return &api.Program{Bytes: l, Labels: []api.Label{{Name: "z", At: 8 + by}, {Name: "a", At: by - 3}}, Places: p.Places}
	}
	moves(t, p, 0, to(0, p.Bytes))
	moves(t, p, 1, to(1, b(5, 16, 9, 1, 0, 0, 0, 0, 9)))
	moves(t, p, 256, to(256, b(5, 16, 8, 2, 255, 0, 0, 0, 9)))
	moves(t, p, 8192, to(8192, b(5, 16, 8, 33, 255, 31, 0, 0, 9)))
	for _, by := range []int{-1, -8192, math.MinInt, 8193, 1 << 32, math.MaxInt} {
		moves(t, p, by, nil)
		moves(t, api.Program{}, by, nil)
	}
	moves(t, api.Program{}, 5, &api.Program{})
	// A carry through all four bytes, and none beyond them.
	moves(t, api.Program{Bytes: b(255, 255, 255, 0, 7), Places: []api.Place{{}}}, 1, &api.Program{Bytes: b(0, 0, 0, 1, 7), Places: []api.Place{{}}})
	// Half a word at its bound; no sign, also where nothing is added.
	half := func(at int) []api.Place { return []api.Place{{At: at, Half: true}} }
	moves(t, api.Program{Bytes: b(0xfe, 0x7f), Places: half(0)}, 1, &api.Program{Bytes: b(0xff, 0x7f), Places: half(0)})
	moves(t, api.Program{Bytes: b(0xff, 0x7f), Places: half(0)}, 0, &api.Program{Bytes: b(0xff, 0x7f), Places: half(0)})
	moves(t, api.Program{Bytes: b(0xff, 0x7f), Places: half(0)}, 1, nil)
	moves(t, api.Program{Bytes: b(0x00, 0x60), Places: half(0)}, 8191, &api.Program{Bytes: b(0xff, 0x7f), Places: half(0)})
	moves(t, api.Program{Bytes: b(0x00, 0x60), Places: half(0)}, 8192, nil)
	moves(t, api.Program{Bytes: b(0x00, 0x80), Places: half(0)}, 0, nil)
	moves(t, api.Program{Bytes: b(0xff, 0xff), Places: half(0)}, 0, nil)
	moves(t, api.Program{Bytes: b(0xff, 0xff), Places: half(0)}, 1, nil)
	moves(t, api.Program{Bytes: b(0xff, 0xff), Places: half(0)}, 8192, nil)
	// Places over bytes that are not there.
	four := b(1, 0, 0, 0)
	moves(t, api.Program{Bytes: four, Places: half(2)}, 1, &api.Program{Bytes: b(1, 0, 1, 0), Places: half(2)})
	for _, at := range []int{-1, 3, 4, 5, math.MinInt, math.MaxInt, math.MaxInt - 1} {
		moves(t, api.Program{Bytes: four, Places: half(at)}, 1, nil)
	}
	for _, at := range []int{-1, 1, 4, math.MinInt, math.MaxInt, math.MaxInt - 3} {
		moves(t, api.Program{Bytes: four, Places: []api.Place{{At: at}}}, 0, nil)
	}
	moves(t, api.Program{Bytes: b(1), Places: half(0)}, 0, nil)
	moves(t, api.Program{Bytes: b(1, 2, 3), Places: []api.Place{{}}}, 0, nil)
	moves(t, api.Program{Places: half(0)}, 0, nil)
	moves(t, api.Program{Places: []api.Place{{}}}, 0, nil)
	// One behind the other: one place twice, places that overlap.
	moves(t, api.Program{Bytes: four, Places: []api.Place{{}, {}}}, 3, &api.Program{Bytes: b(7, 0, 0, 0), Places: []api.Place{{}, {}}})
	over := []api.Place{{At: 1}, {At: 0, Half: true}}
	moves(t, api.Program{Bytes: b(255, 0, 0, 0, 1), Places: over}, 1, &api.Program{Bytes: b(0, 2, 0, 0, 1), Places: over})
	back := []api.Place{{At: 0, Half: true}, {At: 1}}
	moves(t, api.Program{Bytes: b(255, 0, 0, 0, 1), Places: back}, 1, &api.Program{Bytes: b(0, 2, 0, 0, 1), Places: back})
	twice := []api.Place{{Half: true}, {Half: true}}
	moves(t, api.Program{Bytes: b(0xfd, 0x7f), Places: twice}, 1, &api.Program{Bytes: b(0xff, 0x7f), Places: twice})
	moves(t, api.Program{Bytes: b(0xfe, 0x7f), Places: twice}, 1, nil)
	// Later places see what the earlier ones laid.
	low := []api.Place{{At: 0}, {At: 1, Half: true}}
	moves(t, api.Program{Bytes: b(0xff, 0xff, 0x7e, 0), Places: low}, 1, &api.Program{Bytes: b(0, 1, 0x7f, 0), Places: low})
	moves(t, api.Program{Bytes: b(0xff, 0xff, 0x7f, 0), Places: low}, 1, nil)
	// More than Assemble would make is moved all the same.
	big := api.Program{Bytes: make([]byte, 9000), Places: []api.Place{{At: 8996}}}
	if q, e := asm.Move(big, 2); e != api.OK || q.Bytes[8996] != 2 {
		t.Errorf("a great one: %v", e)
	}
	round := api.Program{Labels: []api.Label{{Name: "a", At: math.MaxInt}}}
	moves(t, round, 1, &api.Program{Labels: []api.Label{{Name: "a", At: math.MinInt}}})
}

// P4.2: what is moved behaves as what is assembled there.
func TestMoveFollows(t *testing.T) {
	text := "const r1 e\nb:\n.byte 1\nc:\n.word b\n.even\n.word c\njump b\ne:\n"
	p, _, e := asm.Assemble(text)
	if e != api.OK {
		t.Fatal(e)
	}
	for _, by := range []int{0, 4, 256, 4096} {
		ahead := ""
		if by > 0 {
			ahead = ".space " + strconv.Itoa(by) + "\n"
		}
		want, _, _ := asm.Assemble(ahead + text)
		q, e := asm.Move(p, by)
		if e != api.OK || !bytes.Equal(q.Bytes, want.Bytes[by:]) || !slices.Equal(q.Labels, want.Labels) || !slices.Equal(q.Places, p.Places) {
			t.Errorf("by %d: %v, %v", by, q, e)
		}
	}
}

// Answers share no memory with what is handed in, nor with each other, spare room included.
func TestMemory(t *testing.T) {
	room := bytes.Repeat([]byte{9}, 16)
	labels := []api.Label{{Name: "a", At: 1}, {Name: "spare", At: 2}}
	places := []api.Place{{At: 0}, {At: 99}}
	p := api.Program{Bytes: room[:4], Labels: labels[:1], Places: places[:1]}
	q, e := asm.Move(p, 1)
	if e != api.OK {
		t.Fatal(e)
	}
	for i := range q.Bytes[:cap(q.Bytes)] {
		q.Bytes[:cap(q.Bytes)][i] = 77
	}
	for i := range q.Labels[:cap(q.Labels)] {
		q.Labels[:cap(q.Labels)][i].At = 77
	}
	for i := range q.Places[:cap(q.Places)] {
		q.Places[:cap(q.Places)][i].At = 77
	}
	if !bytes.Equal(room, bytes.Repeat([]byte{9}, 16)) || labels[0].At != 1 || labels[1].At != 2 || places[0].At != 0 || places[1].At != 99 {
		t.Errorf("shared: %v, %v, %v", room, labels, places)
	}
	if asm.List(room[:4]); !bytes.Equal(room, bytes.Repeat([]byte{9}, 16)) {
		t.Errorf("List changed %v", room)
	}
	text := "a:\n.word a\n"
	one, _, _ := asm.Assemble(text)
	one.Bytes[0], one.Labels[0].At, one.Places[0].At = 5, 5, 5
	two, _, _ := asm.Assemble(text)
	if two.Bytes[0] != 0 || two.Labels[0].At != 0 || two.Places[0].At != 0 {
		t.Errorf("kept: %v", two)
	}
}

// P4.3: Lines.
func TestLines(t *testing.T) {
	for text, want := range map[string][]string{
		"":                 nil,
		"a":                nil,
		"\n":               {""},
		"a\n":              {"a"},
		"a\nb":             {"a"},
		"\n\n":             {"", ""},
		"a\n\nb":           {"a", ""},
		" x \n\r\n\xff#\n": {" x ", "\r", "\xff#"},
	} {
		var l []string
		lines := asm.Lines(text)
		for n, line := range lines {
			if n != len(l) {
				t.Errorf("%q: number %d for %d", text, n, len(l))
			}
			l = append(l, line)
		}
		if !slices.Equal(l, want) {
			t.Errorf("Lines(%q) are %q; should be %q", text, l, want)
		}
		// Left early, and gone through again.
		for stop := range want {
			for n, line := range lines {
				if n > stop || line != want[n] {
					t.Errorf("again %q: %d, %q", text, n, line)
				}
				if n == stop {
					break
				}
			}
		}
		n := 0
		for range lines {
			n++
		}
		if n != len(want) {
			t.Errorf("again %q: %d lines", text, n)
		}
	}
	// Two ways through one at a time.
	lines, l := asm.Lines("a\nb\n"), ""
	for _, x := range lines {
		for _, y := range lines {
			l += x + y + " "
		}
	}
	if l != "aa ab ba bb " {
		t.Errorf("one in the other: %q", l)
	}
	n := 0
	for range asm.Lines(strings.Repeat("x\n", api.MaxSource)) {
		n++
	}
	if n != api.MaxSource {
		t.Errorf("%d lines of a long text", n)
	}
}

// P4.3: Label.
func TestLabel(t *testing.T) {
	for _, s := range []string{"a", "z", "a_", "a0", "z9", "a_0", "abcdefghijkl", "a___________", "stops", "sto", "nopnop", "r1", "word"} {
		if !asm.Label(s) {
			t.Errorf("%q may be a label's name", s)
		}
	}
	for _, s := range append([]string{"", "_", "0", "_a", "9a", "A", "aB", "a-", "a ", " a", "a:", "a\n", "a\x00", "é", "aé", "a\xff", "`", "{", "a`", "a{", "a/", "a^", "abcdefghijklm", strings.Repeat("a", 1<<20)}, strings.Fields(opNames)...) {
		if asm.Label(s) {
			t.Errorf("%q may be no label's name", s)
		}
	}
	for b := range 256 {
		for _, s := range []string{string([]byte{byte(b)}), string([]byte{'q', byte(b)}), string([]byte{'q', byte(b), 'q'})} {
			if asm.Label(s) != mayName(s) {
				t.Errorf("Label(%q)", s)
			}
		}
	}
}

// P4.3, P4.4: Word and Unword.
func TestWords(t *testing.T) {
	for s, word := range map[string]string{
		"": "%", "%": "%25", "%%": "%25%25", "a": "a", " ": "%20", "\x00": "%00", "!": "!", "~": "~", "\x7f": "%7F", "\xff": "%FF", "$": "$", "&": "&",
		"a b%": "a%20b%25", "\n": "%0A", "é": "%C3%A9", "#:.": "#:.", "%41": "%2541", "\xab\xcd\xef": "%AB%CD%EF", "\x89": "%89",
	} {
		if w := asm.Word(s); w != word {
			t.Errorf("Word(%q) is %q", s, w)
		}
		if u, e := asm.Unword(word); u != s || e != api.OK {
			t.Errorf("Unword(%q) is %q, %v", word, u, e)
		}
	}
	for _, w := range []string{"", "%%", "%2", "%6", "a%", "a%2", "%61", "%21", "%7E", "%0a", "%aF", "%c3", "%g0", "%0g", "%+1", "%-1", "%_1", "% 1", "a b", " ", "a\n", "\x7f", "\xff", "é", "%25%", "%%25", "a%61b", "%00%", "%0x", "%20%4"} {
		if u, e := asm.Unword(w); u != "" || e != api.ErrBytes {
			t.Errorf("Unword(%q) is %q, %v", w, u, e)
		}
	}
	seen := map[string]bool{}
	for a := range 256 {
		for b := range 256 {
			s := string([]byte{byte(a), byte(b)})
			w := asm.Word(s)
			if u, e := asm.Unword(w); u != s || e != api.OK || seen[w] {
				t.Fatalf("Unword(%q) is %q, %v", w, u, e)
			}
			seen[w] = true
			if m, ok := unword(s); ok {
				if u, e := asm.Unword(s); u != m || e != api.OK {
					t.Fatalf("Unword(%q) is %q, %v", s, u, e)
				}
			} else if u, e := asm.Unword(s); u != "" || e != api.ErrBytes {
				t.Fatalf("Unword(%q) is %q, %v", s, u, e)
			}
			s = "%" + s
			m, ok := unword(s)
			if u, e := asm.Unword(s); u != m || (e == api.OK) != ok {
				t.Fatalf("Unword(%q) is %q, %v", s, u, e)
			}
		}
	}
	soon(t, "Unword", func() {
		long := strings.Repeat("%00a", 1<<20)
		if u, e := asm.Unword(long); u != strings.Repeat("\x00a", 1<<20) || e != api.OK {
			t.Errorf("a long word: %v", e)
		}
		if _, e := asm.Unword(long + "%"); e != api.ErrBytes {
			t.Errorf("a long wrong word: %v", e)
		}
	})
}

// FuzzTexts: any text is assembled as the chapter says; what is taken is listed and read again.
func FuzzTexts(f *testing.F) {
	for _, s := range []string{"", "a:\naddi r1 r1 1\njump a\n.word a\n", ".byte 1\n.even\nstop\n", "stop", "const r1 e\n.text a%20\ne:\n", "jump  a\n", ".space 4096\n.space 4096\n.byte 1\n"} {
		f.Add(s)
	}
	f.Fuzz(func(t *testing.T, text string) {
		if p, e := check(t, text); e == api.OK {
			back, _, e := asm.Assemble(asm.List(p.Bytes))
			if e != api.OK || !bytes.Equal(back.Bytes, p.Bytes) {
				t.Errorf("List(% x)", p.Bytes)
			}
			if q, e := asm.Move(p, 0); e != api.OK || !same(p, q) {
				t.Errorf("Move by 0: %v, %v", q, e)
			}
		}
		u, e := asm.Unword(text)
		if m, ok := unword(text); u != m || (e == api.OK) != ok {
			t.Errorf("Unword: %q, %v", u, e)
		}
		if u, e := asm.Unword(asm.Word(text)); u != text || e != api.OK {
			t.Errorf("Unword of Word: %q, %v", u, e)
		}
		if asm.Label(text) != mayName(text) {
			t.Error("Label")
		}
	})
}
