package code_test

import (
	"bytes"
	"math"
	"math/big"
	"slices"
	"testing"

	"windrow/api"
	"windrow/code"
)

// wrongByte is an error of bytes, and where it is.
type wrongByte struct {
	at int
	e  api.Errno
}

// source is bytes that are read as the chapter says.
type source struct {
	b  []byte
	at int
}

func (s *source) one() byte {
	if s.at >= len(s.b) {
		panic(wrongByte{len(s.b), api.ErrEnds})
	}
	s.at++
	return s.b[s.at-1]
}

// number: with all its bytes at hand, the errors are looked for in the chapter's order.
func (s *source) number(most *big.Int) *big.Int {
	begin, digits := s.at, []byte{}
	for len(digits) < 10 {
		digits = append(digits, s.one())
		if digits[len(digits)-1] < 128 {
			break
		}
	}
	last := digits[len(digits)-1]
	if len(digits) == 10 && last > 1 {
		panic(wrongByte{begin, api.ErrBig})
	}
	if len(digits) > 1 && last == 0 {
		panic(wrongByte{begin, api.ErrLoose})
	}
	n := new(big.Int)
	for _, d := range slices.Backward(digits) {
		n.Add(n.Lsh(n, 7), big.NewInt(int64(d%128)))
	}
	if n.Cmp(most) > 0 {
		panic(wrongByte{begin, api.ErrBig})
	}
	return n
}

func (s *source) count(most int64) int { return int(s.number(big.NewInt(most)).Int64()) }

func (s *source) name() string {
	n := s.count(16)
	name := make([]byte, n)
	for i := range name {
		name[i] = s.one()
	}
	return string(name)
}

func (s *source) kind() int {
	b := s.one()
	if b > 2 {
		panic(wrongByte{s.at - 1, api.ErrType})
	}
	return int(b)
}

func (s *source) kinds(most int64) []int {
	var l []int
	for range s.count(most) {
		l = append(l, s.kind())
	}
	return l
}

func (s *source) instruction() api.Ins {
	i := api.Ins{Op: int(s.one())}
	if i.Op < 1 || i.Op > 39 {
		panic(wrongByte{s.at - 1, api.ErrOp})
	}
	if i.Op == code.Const {
		n := s.number(new(big.Int).SetUint64(math.MaxUint64))
		half := new(big.Int).Rsh(n, 1)
		if n.Bit(0) == 1 {
			half.Neg(half.Add(half, big.NewInt(1)))
		}
		i.A = half.Int64()
		return i
	}
	operands := instructions()[i.Op-1].operands
	if operands > 0 {
		i.A = int64(s.count(mostOperand))
	}
	if operands > 1 {
		i.B = int64(s.count(mostOperand))
	}
	return i
}

// decode: the program by the chapter's words, or its first error.
func decode(b []byte) (p api.Program, at int, e api.Errno) {
	if len(b) > 65536 {
		return api.Program{}, 0, api.ErrBig
	}
	defer func() {
		if caught := recover(); caught != nil {
			wrong := caught.(wrongByte)
			p, at, e = api.Program{}, wrong.at, wrong.e
		}
	}()
	s := &source{b: b}
	for i := range 4 {
		if s.one() != "WDR1"[i] {
			panic(wrongByte{i, api.ErrMagic})
		}
	}
	for range s.count(16) {
		c := api.Class{Name: s.name()}
		for range s.count(15) {
			f := api.Field{Name: s.name()}
			f.Type = s.kind()
			c.Fields = append(c.Fields, f)
		}
		p.Classes = append(p.Classes, c)
	}
	for range s.count(16) {
		f := api.Func{Name: s.name()}
		f.Params = s.kinds(6)
		f.Result = s.kind()
		f.Locals = s.kinds(16)
		for range s.count(256) {
			f.Code = append(f.Code, s.instruction())
		}
		p.Funcs = append(p.Funcs, f)
	}
	if s.at < len(b) {
		panic(wrongByte{s.at, api.ErrMore})
	}
	return p, 0, api.OK
}

// checkDecode holds Decode against the chapter's words, and Encode against Decode.
func checkDecode(t *testing.T, b []byte) api.Errno {
	t.Helper()
	want, wantAt, wantE := decode(b)
	p, at, e := code.Decode(b)
	if !code.Equal(p, want) || at != wantAt || e != wantE {
		t.Fatalf("Decode(%x) = %+v, %d, %d, not %+v, %d, %d", b, p, at, e, want, wantAt, wantE)
	}
	if e == api.OK {
		if back, e := code.Encode(p); !bytes.Equal(back, b) || e != api.OK {
			t.Fatalf("Encode(Decode(%x)) = %x, %d", b, back, e)
		}
	}
	return e
}

// P13.1: the chapter's examples, and the sample.
func TestDecodeExamples(t *testing.T) {
	known := []struct {
		b  string
		at int
		e  api.Errno
	}{
		{"WDR1\x00\x00", 0, api.OK},
		{"WDR1\x00", 5, api.ErrEnds},
		{"WDR1\x00\x80\x00", 5, api.ErrLoose},
		{"", 0, api.ErrEnds},
		{"WD", 2, api.ErrEnds},
		{"WDR1", 4, api.ErrEnds},
		{"X", 0, api.ErrMagic},
		{"WX", 1, api.ErrMagic},
		{"WDR2\x00\x00", 3, api.ErrMagic},
		{"wdr1\x00\x00", 0, api.ErrMagic},
		{"WXR2", 1, api.ErrMagic},
		{"WDR1\x00\x00\x00", 6, api.ErrMore},
		{"WDR1\x00\x00WDR1", 6, api.ErrMore},
		{"WDR1\x11", 4, api.ErrBig},
		{"WDR1\x00\x11", 5, api.ErrBig},
		{"WDR1\x00\x80", 6, api.ErrEnds},
		{"WDR1\x00\xff\xff\xff\xff\xff\xff\xff\xff\xff", 14, api.ErrEnds},
		{"WDR1\x00\xff\xff\xff\xff\xff\xff\xff\xff\xff\xff", 5, api.ErrBig},
		{"WDR1\x00\x80\x80\x80\x80\x80\x80\x80\x80\x80\x02", 5, api.ErrBig},
		{"WDR1\x00\x80\x80\x80\x80\x80\x80\x80\x80\x80\x01", 5, api.ErrBig},
		{"WDR1\x00\x80\x80\x80\x80\x80\x80\x80\x80\x80\x00", 5, api.ErrLoose},
		{"WDR1\x00\xff\x00", 5, api.ErrLoose},
		{"WDR1\x01\x11", 5, api.ErrBig},
		{"WDR1\x01\x10aaaaaaaaaaaaaaa", 21, api.ErrEnds},
		{"WDR1\x01\x11aaa", 5, api.ErrBig},
		{"WDR1\x01\x01a\x01\x01b\x03", 10, api.ErrType},
		{"WDR1\x01\x01a\x10", 7, api.ErrBig},
		{"WDR1\x00\x01\x00\x07", 7, api.ErrBig},
		{"WDR1\x00\x01\x00\x01\xff", 8, api.ErrType},
		{"WDR1\x00\x01\x00\x00\x03", 8, api.ErrType},
		{"WDR1\x00\x01\x00\x00\x00\x11", 9, api.ErrBig},
		{"WDR1\x00\x01\x00\x00\x00\x01\x04", 10, api.ErrType},
		{"WDR1\x00\x01\x00\x00\x00\x00\x81\x02", 10, api.ErrBig},
		{"WDR1\x00\x01\x00\x00\x00\x00\x80\x02", 12, api.ErrEnds},
		{"WDR1\x00\x01\x00\x00\x00\x00\x01\x00", 11, api.ErrOp},
		{"WDR1\x00\x01\x00\x00\x00\x00\x01\x28", 11, api.ErrOp},
		{"WDR1\x00\x01\x00\x00\x00\x00\x01\xff", 11, api.ErrOp},
		{"WDR1\x00\x01\x00\x00\x00\x00\x01\x03\x80\x80\x80\x80\x08", 12, api.ErrBig},
		{"WDR1\x00\x01\x00\x00\x00\x00\x01\x03\xff\xff\xff\xff\x07", 0, api.OK},
		{"WDR1\x00\x01\x00\x00\x00\x00\x01\x19\x01\x80\x00", 13, api.ErrLoose},
		{"WDR1\x00\x01\x00\x00\x00\x00\x01\x19\x01", 13, api.ErrEnds},
		{"WDR1\x00\x01\x00\x00\x00\x00\x01\x01\xff\xff\xff\xff\xff\xff\xff\xff\xff\x01", 0, api.OK},
		{"WDR1\x00\x01\x00\x00\x00\x00\x01\x01\xff\xff\xff\xff\xff\xff\xff\xff\xff\x02", 12, api.ErrBig},
		{"WDR1\x00\x01\x00\x00\x00\x00\x01\x01\xff\xff\xff\xff\xff\xff\xff\xff\xff\x80\x00", 12, api.ErrBig},
		{"WDR1\x00\x01\x00\x00\x00\x00\x01\x01\xff\xff\xff\xff\xff\xff\xff\xff\xff\x00", 12, api.ErrLoose},
	}
	for _, k := range known {
		p, at, e := code.Decode([]byte(k.b))
		if at != k.at || e != k.e || e != api.OK && !code.Equal(p, api.Program{}) {
			t.Errorf("Decode(%x) = %+v, %d, %d, not %d, %d", k.b, p, at, e, k.at, k.e)
		}
		checkDecode(t, []byte(k.b))
	}
	if p, at, e := code.Decode(nil); !code.Equal(p, api.Program{}) || at != 0 || e != api.ErrEnds {
		t.Errorf("Decode(nil) = %+v, %d, %d", p, at, e)
	}
	if p, at, e := code.Decode(sampleBytes()); !code.Equal(p, sample()) || at != 0 || e != api.OK {
		t.Errorf("Decode(%x) = %+v, %d, %d", sampleBytes(), p, at, e)
	}
}

// P13.1: more than 65536 bytes are too many, whatever they are.
func TestDecodeBig(t *testing.T) {
	empty := []byte("WDR1\x00\x00")
	for _, n := range []int{65535, 65536, 65537, 70000} {
		for _, front := range [][]byte{empty, nil, sampleBytes()} {
			b := append(slices.Clone(front), make([]byte, n-len(front))...)
			e := checkDecode(t, b)
			if (e == api.ErrBig) != (n > 65536) {
				t.Errorf("%d bytes: %d", n, e)
			}
		}
	}
}

// P13.1: numbers of all lengths and with all kinds of last bytes, at counts and operands, also at the end of the bytes.
func TestDecodeNumbers(t *testing.T) {
	ahead := []string{"WDR1", "WDR1\x01", "WDR1\x00", "WDR1\x00\x01\x00\x00\x00\x00", "WDR1\x00\x01\x00\x00\x00\x00\x01\x01", "WDR1\x00\x01\x00\x00\x00\x00\x01\x14", "WDR1\x00\x01\x00\x00\x00\x00\x01\x1a\x05"}
	for _, front := range ahead {
		for length := range 13 {
			for _, fill := range []byte{0x80, 0x81, 0xFF} {
				for last := range 256 {
					for _, more := range []string{"", "\x00", "\x80\x80\x01", "\xff\xff\x00"} {
						b := append([]byte(front), bytes.Repeat([]byte{fill}, length)...)
						checkDecode(t, append(append(b, byte(last)), more...))
					}
				}
			}
		}
	}
}

// P13.1 and P13.2: each byte of some programs, changed to each other one; left out; doubled; and their ends cut off, or with more behind.
func TestDecodeChanged(t *testing.T) {
	seen := map[api.Errno]int{}
	random := seed(7046029254386353087)
	all := [][]byte{sampleBytes(), []byte("WDR1\x00\x00")}
	for len(all) < 12 {
		// The smallest ones, since the time grows with the square.
		if b, _ := code.Encode(random.program(0)); len(b) < 200 {
			all = append(all, b)
		}
	}
	for _, b := range all {
		for at := range b {
			for x := range 256 {
				other := slices.Clone(b)
				other[at] = byte(x)
				seen[checkDecode(t, other)]++
			}
			seen[checkDecode(t, b[:at])]++
			seen[checkDecode(t, slices.Delete(slices.Clone(b), at, at+1))]++
			seen[checkDecode(t, slices.Insert(slices.Clone(b), at, b[at]))]++
		}
		for x := range 256 {
			seen[checkDecode(t, append(slices.Clone(b), byte(x)))]++
		}
	}
	for _, e := range []api.Errno{api.OK, api.ErrBig, api.ErrEnds, api.ErrMore, api.ErrMagic, api.ErrLoose, api.ErrType, api.ErrOp} {
		if seen[e] < 50 {
			t.Error("error", e, "was hardly tried:", seen[e])
		}
	}
}

// P13.1: bytes that end too early, at each place of the program with the most bytes; and bytes without a pattern.
func TestDecodeAny(t *testing.T) {
	b, _ := code.Encode(greatest())
	for at := 0; at < len(b); at += 37 {
		if _, where, e := code.Decode(b[:at]); where != at || e != api.ErrEnds {
			t.Fatalf("%d of %d bytes: %d, %d", at, len(b), where, e)
		}
	}
	random := seed(88172645463325252)
	for range 20000 {
		b := []byte("WDR1")[:min(4, random.below(99))]
		for range random.below(60) {
			b = append(b, byte(random.next())>>random.below(8))
		}
		checkDecode(t, b)
	}
}

// P13.3 and Rule 4: Decode leaves its bytes as they are, keeps none, and each list of its answer is new.
func TestDecodeMemory(t *testing.T) {
	whole, _ := code.Encode(greatest())
	for _, b := range [][]byte{sampleBytes(), whole, []byte("WDR1\x00\x00"), []byte("WDR1\x01\x11"), nil} {
		given := append(make([]byte, 0, len(b)+16), b...)
		p, _, _ := code.Decode(given)
		if !bytes.Equal(given, b) || !isZero(given) {
			t.Fatalf("Decode changed %x to %x", b, given)
		}
		want, _, _ := decode(b)
		for i := range given {
			given[i] = 0xEE
		}
		if !code.Equal(p, want) {
			t.Fatalf("Decode kept its bytes %x", b)
		}
		one, _, _ := code.Decode(b)
		spoil(one)
		if !code.Equal(p, want) {
			t.Fatal("two answers share memory")
		}
		apart(t, p)
	}
	apart(t, code.Copy(sample()))
	apart(t, code.Copy(greatest()))
}

// apart: does no list of a program change with another one, also in its spare capacity?
func apart(t *testing.T, p api.Program) {
	t.Helper()
	want := emptied(p)
	for i := range p.Classes {
		c := &p.Classes[i]
		spoil(api.Program{Classes: []api.Class{{Fields: c.Fields}}})
		c.Fields = want.Classes[i].Fields
		alone(t, p, want)
	}
	for i := range p.Funcs {
		f, own := &p.Funcs[i], want.Funcs[i]
		spoil(api.Program{Funcs: []api.Func{{Params: f.Params}}})
		f.Params = own.Params
		alone(t, p, want)
		spoil(api.Program{Funcs: []api.Func{{Locals: f.Locals}}})
		f.Locals = own.Locals
		alone(t, p, want)
		spoil(api.Program{Funcs: []api.Func{{Code: f.Code}}})
		f.Code = own.Code
		alone(t, p, want)
	}
}

// alone: did nothing change beside the list that was changed and put right again?
func alone(t *testing.T, p, want api.Program) {
	t.Helper()
	if !code.Equal(p, want) {
		t.Fatalf("two lists share memory: %+v, not %+v", p, want)
	}
}
