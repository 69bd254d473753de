package nor

import (
	"bytes"
	"math"
	"slices"
	"testing"

	"waterline/api"
)

const sec = api.Sector

// far are numbers that no flash has a byte or a sector at.
var far = []int{math.MinInt, math.MinInt + 1, -1 << 40, -sec, -2, -1, 1 << 40, math.MaxInt - sec, math.MaxInt - 1, math.MaxInt}

// row makes n bytes, others for each seed.
func row(seed uint32, n int) []byte {
	out := make([]byte, n)
	for i := range out {
		seed = seed*1664525 + 1013904223
		out[i] = byte(seed >> 24)
	}
	return out
}

func full(n int, x byte) []byte { return bytes.Repeat([]byte{x}, n) }

// state is all that can be asked of a flash.
type state struct {
	memory []byte
	wears  []int
	ops    int
	off    bool
}

func asked(f *Flash) state {
	s := state{memory: f.Read(0, f.Len()*sec), ops: f.Ops(), off: f.Off()}
	for i := range f.Len() {
		s.wears = append(s.wears, f.Wear(i))
	}
	return s
}

func same(a, b state) bool {
	return bytes.Equal(a.memory, b.memory) && slices.Equal(a.wears, b.wears) && a.ops == b.ops && a.off == b.off
}

// filled makes a flash of n sectors with b at its beginning.
func filled(t *testing.T, n int, b []byte) *Flash {
	t.Helper()
	f := New(n)
	if e := f.Program(0, b); e != api.OK {
		t.Fatalf("P601: Program of %d bytes into a new flash: %v", len(b), e)
	}
	return f
}

func TestExample(t *testing.T) {
	if got := New(3).Len(); got != 3 {
		t.Errorf("P601: Len of New(3) is %d", got)
	}
}

func TestNew(t *testing.T) {
	if api.MaxSectors != 400 || sec != 320 {
		t.Fatal("the limits are others")
	}
	for _, x := range []struct{ n, want int }{
		{math.MinInt, 0}, {-401, 0}, {-1, 0}, {0, 0}, {1, 1}, {2, 2}, {3, 3}, {399, 399}, {400, 400}, {401, 400}, {1 << 40, 400}, {math.MaxInt, 400},
	} {
		f := New(x.n)
		if f == nil || f.Len() != x.want {
			t.Fatalf("P601: Len of New(%d) is %d, not %d", x.n, f.Len(), x.want)
		}
		want := state{memory: full(x.want*sec, 0xff), wears: make([]int, x.want)}
		if got := asked(f); !same(got, want) {
			t.Errorf("P601: New(%d) has %d bytes, wears %v, ops %d, off %v", x.n, len(got.memory), got.wears, got.ops, got.off)
		}
		for s := range x.want {
			if !f.Blank(s) {
				t.Errorf("P601: sector %d of New(%d) is not blank", s, x.n)
			}
		}
		if f.Blank(x.want) || f.Wear(x.want) != 0 || f.Erase(x.want) != api.ErrBounds || len(f.Read(x.want*sec, 1)) > 0 {
			t.Errorf("P601: New(%d) has a sector %d", x.n, x.want)
		}
	}
}

// TestFlashThatIsOnlyDeclared is not asked for by the chapter; it is as one of no sectors.
func TestFlashThatIsOnlyDeclared(t *testing.T) {
	var f Flash
	if f.Len() != 0 || f.Program(0, []byte{0}) != api.ErrBounds || f.Erase(0) != api.ErrBounds || f.Read(0, 1) != nil {
		t.Error("P601: a flash that is only declared has sectors")
	}
}

func TestRead(t *testing.T) {
	all := row(1, 2*sec)
	f := filled(t, 2, all)
	places := []int{-sec, -2, -1, 0, 1, 2, sec - 2, sec - 1, sec, sec + 1, 2*sec - 2, 2*sec - 1, 2 * sec, 2*sec + 1, 3 * sec}
	for _, at := range append(slices.Clone(far), places...) {
		for _, n := range append(slices.Clone(far), append(places, 3, sec/2)...) {
			var want []byte
			if at >= 0 && n > 0 && at < len(all) && n <= len(all)-at {
				want = all[at : at+n]
			}
			if got := f.Read(at, n); !bytes.Equal(got, want) {
				t.Errorf("P601: Read(%d, %d) has %d bytes, not %d, or others", at, n, len(got), len(want))
			}
		}
	}
	if f.Ops() != 1 {
		t.Errorf("P601: Ops behind Reads is %d", f.Ops())
	}
}

func TestReadEachByte(t *testing.T) {
	all := row(2, 3*sec)
	f := filled(t, 3, all)
	for i := range all {
		if got := f.Read(i, 1); len(got) != 1 || got[0] != all[i] {
			t.Fatalf("P601: Read(%d, 1) is %v, not %d", i, got, all[i])
		}
		if got := f.Read(0, i+1); !bytes.Equal(got, all[:i+1]) {
			t.Fatalf("P601: Read(0, %d) has %d bytes, or others", i+1, len(got))
		}
	}
}

func TestReadIsNewMemory(t *testing.T) {
	all := row(3, 2*sec)
	f := filled(t, 2, all)
	for _, x := range []struct{ at, n int }{{0, 1}, {0, 2 * sec}, {5, 7}, {sec - 1, 2}, {2*sec - 1, 1}} {
		got, again := f.Read(x.at, x.n), f.Read(x.at, x.n)
		room := got[:cap(got)]
		for i := range room {
			room[i] ^= 0xff
		}
		if !bytes.Equal(again, all[x.at:x.at+x.n]) || !bytes.Equal(f.Read(0, 2*sec), all) {
			t.Errorf("P603: what Read(%d, %d) answers is the flash's or another answer's memory", x.at, x.n)
		}
	}
	before := f.Read(0, 4)
	kept := slices.Clone(before)
	f.Erase(0)
	if !bytes.Equal(before, kept) {
		t.Error("P603: an Erase turned what a Read had answered")
	}
}

func TestProgramOfNoBytes(t *testing.T) {
	for _, n := range []int{0, 1, 3} {
		for _, b := range [][]byte{nil, {}, row(1, 9)[:0]} {
			f := filled(t, n, row(4, n*sec))
			want := asked(f)
			for _, at := range []int{0, n * sec / 2, max(n*sec-1, 0), n * sec} {
				want.ops++
				if e := f.Program(at, b); e != api.OK || !same(asked(f), want) {
					t.Errorf("P601: Program(%d) of no bytes into %d sectors: %v, ops %d", at, n, e, f.Ops())
				}
			}
			for _, at := range append(slices.Clone(far), n*sec+1, n*sec+sec) {
				if e := f.Program(at, b); e != api.ErrBounds || !same(asked(f), want) {
					t.Errorf("P601: Program(%d) of no bytes into %d sectors: %v, ops %d", at, n, e, f.Ops())
				}
			}
		}
	}
}

func TestProgram(t *testing.T) {
	for _, x := range []struct{ sectors, at, n int }{
		{1, 0, 1}, {1, 0, sec}, {1, sec - 1, 1}, {1, 7, 9},
		{3, 0, 1}, {3, 0, 3 * sec}, {3, 3*sec - 1, 1}, {3, sec - 1, 2}, {3, sec - 1, sec + 2}, {3, 2 * sec, sec}, {3, 1, 3*sec - 1},
		{400, 0, 400 * sec}, {400, 400*sec - 1, 1}, {400, 399*sec - 5, 10},
	} {
		f, b := New(x.sectors), row(uint32(x.at+x.n), x.n)
		want := asked(f)
		want.ops = 1
		copy(want.memory[x.at:], b)
		if e := f.Program(x.at, b); e != api.OK || !same(asked(f), want) {
			t.Errorf("P601: Program(%d) of %d bytes into %d sectors: %v, ops %d, or other bytes", x.at, x.n, x.sectors, e, f.Ops())
		}
	}
}

// TestProgramOverAnyByte lays each byte over each other one: it is there, or it would set a bit.
func TestProgramOverAnyByte(t *testing.T) {
	for was := range 256 {
		for now := range 256 {
			f := New(1)
			f.Program(9, []byte{byte(was)})
			want, errno := asked(f), api.ErrSet
			if was|now == was {
				want.ops, errno = 2, api.OK
				want.memory[9] = byte(now)
			}
			if e := f.Program(9, []byte{byte(now)}); e != errno || !same(asked(f), want) {
				t.Fatalf("P601: Program of %02x over %02x: %v, %v", now, was, e, f.Read(9, 1))
			}
		}
	}
}

func TestProgramBitByBit(t *testing.T) {
	f, b := New(2), full(2*sec, 0xff)
	ops := 0
	for bit := range 8 {
		for _, at := range []int{0, 1, sec - 1, sec, 2*sec - 1} {
			b[at] &^= 1 << ((bit + at) % 8)
			ops++
			if e := f.Program(0, b); e != api.OK || !bytes.Equal(f.Read(0, 2*sec), b) || f.Ops() != ops {
				t.Fatalf("P601: Program of a bit of byte %d: %v", at, e)
			}
		}
	}
	if f.Read(0, 1)[0] != 0 || f.Read(2, 1)[0] != 0xff {
		t.Error("P601: not all bits of a byte were turned, or others were")
	}
}

// TestProgramThatWouldSetABit has one such bit at each place of a row whose other bits may all be turned.
func TestProgramThatWouldSetABit(t *testing.T) {
	for i := range 12 {
		for bit := range 8 {
			f := New(2)
			was := full(12, 0xff)
			was[i] &^= 1 << bit
			f.Program(sec-6, was)
			want := asked(f)
			b := row(uint32(i), 12)
			b[i] |= 1 << bit
			if e := f.Program(sec-6, b); e != api.ErrSet || !same(asked(f), want) {
				t.Fatalf("P601: Program that would set bit %d of byte %d: %v, ops %d, or it turned something", bit, i, e, f.Ops())
			}
			b[i] &^= 1 << bit
			if e := f.Program(sec-6, b); e != api.OK || !bytes.Equal(f.Read(sec-6, 12), b) {
				t.Fatalf("P601: Program behind one that would set a bit: %v", e)
			}
		}
	}
}

func TestProgramBeyond(t *testing.T) {
	for _, n := range []int{0, 1, 3} {
		f := New(n)
		want := asked(f)
		end := n * sec
		for _, x := range []struct{ at, n int }{
			{-1, 1}, {-1, 2}, {-1, end + 2}, {-sec, sec}, {end, 1}, {end - 1, 2}, {end + 1, 1}, {0, end + 1}, {end - sec, sec + 1}, {end + sec, 5},
			{math.MinInt, 1}, {math.MinInt, sec}, {math.MinInt + 1, 7}, {math.MaxInt, 1}, {math.MaxInt, sec}, {math.MaxInt - 1, 2}, {math.MaxInt - 5, 6}, {math.MaxInt - 5, 400},
		} {
			if e := f.Program(x.at, make([]byte, x.n)); e != api.ErrBounds || !same(asked(f), want) {
				t.Errorf("P601: Program(%d) of %d bytes into %d sectors: %v, ops %d, or it turned something", x.at, x.n, n, e, f.Ops())
			}
		}
	}
}

// TestWhichErrorIsTold meets several at once: ErrOff is ahead of ErrBounds, that of ErrSet.
func TestWhichErrorIsTold(t *testing.T) {
	f := filled(t, 1, make([]byte, sec))
	for _, at := range []int{-1, 1, sec} {
		if e := f.Program(at, full(sec, 0xff)); e != api.ErrBounds {
			t.Errorf("P601: Program(%d), beyond and with bits that would be set: %v", at, e)
		}
	}
	f.Cut(0, []byte{0xff})
	if e := f.Erase(0); e != api.ErrOff {
		t.Fatalf("P602: Erase that is cut: %v", e)
	}
	want := asked(f)
	for _, at := range []int{math.MinInt, -1, 0, 1, sec, math.MaxInt} {
		if e := f.Program(at, full(sec, 0xff)); e != api.ErrOff || !same(asked(f), want) {
			t.Errorf("P601: Program(%d) while it is off: %v", at, e)
		}
		if e := f.Program(at, nil); e != api.ErrOff || !same(asked(f), want) {
			t.Errorf("P601: Program(%d) of no bytes while it is off: %v", at, e)
		}
		if e := f.Erase(at); e != api.ErrOff || !same(asked(f), want) {
			t.Errorf("P601: Erase(%d) while it is off: %v", at, e)
		}
	}
}

func TestErase(t *testing.T) {
	for _, n := range []int{1, 2, 5, 400} {
		f := filled(t, n, row(uint32(n), n*sec))
		want := asked(f)
		for k := range n {
			s := (k*3 + 1) % n // 3 divides none of these: each sector's turn comes once
			copy(want.memory[s*sec:], full(sec, 0xff))
			if f.Blank(s) {
				t.Errorf("P601: sector %d of %d is blank ahead of its Erase", s, n)
			}
			want.wears[s]++
			want.ops++
			if e := f.Erase(s); e != api.OK || !f.Blank(s) {
				t.Errorf("P601: Erase of sector %d of %d: %v", s, n, e)
			}
			if n < 400 && !same(asked(f), want) {
				t.Errorf("P601: Erase of sector %d of %d turned something else", s, n)
			}
		}
		if !same(asked(f), want) {
			t.Errorf("P601: all of %d sectors are erased: wears %v, ops %d", n, f.wears, f.Ops())
		}
	}
}

func TestEraseAgainAndAgain(t *testing.T) {
	f := New(3)
	for i := range 1500 {
		if f.Wear(1) != i || f.Erase(1) != api.OK || f.Wear(1) != i+1 || f.Ops() != i+1 {
			t.Fatalf("P601: Wear behind %d Erases is %d, Ops %d", i+1, f.Wear(1), f.Ops())
		}
	}
	if f.Wear(0) != 0 || f.Wear(2) != 0 || f.Erase(2) != api.OK || f.Wear(2) != 1 || f.Wear(1) != 1500 {
		t.Errorf("P601: the sectors beside have the Wears %d and %d", f.Wear(0), f.Wear(2))
	}
}

func TestProgramWearsNothing(t *testing.T) {
	f := filled(t, 2, row(1, 2*sec))
	if f.Wear(0) != 0 || f.Wear(1) != 0 {
		t.Error("P601: a Program counts as Wear")
	}
	if f.Erase(0) != api.OK || f.Program(0, row(7, sec)) != api.OK || !bytes.Equal(f.Read(0, sec), row(7, sec)) || f.Wear(0) != 1 {
		t.Error("P601: what an Erase made FF can't be programmed")
	}
}

func TestSectorsThatAreNone(t *testing.T) {
	for _, n := range []int{0, 1, 3, 400} {
		f := filled(t, n, row(9, n*sec))
		want := asked(f)
		for _, s := range append(slices.Clone(far), n, n+1, 401, sec*n) {
			if e := f.Erase(s); e != api.ErrBounds || f.Wear(s) != 0 || f.Blank(s) || !same(asked(f), want) {
				t.Errorf("P601: sector %d of %d: Erase %v, Wear %d, Blank %v", s, n, e, f.Wear(s), f.Blank(s))
			}
		}
	}
	f := New(2)
	for _, s := range append(slices.Clone(far), 2) {
		if f.Blank(s) {
			t.Errorf("P601: sector %d, which is none, is blank", s)
		}
	}
}

// TestBlank makes each bit of a sector the one that is 0.
func TestBlank(t *testing.T) {
	f := New(3)
	for i := range sec {
		for bit := range 8 {
			f.Program(sec+i, []byte{^byte(1 << bit)})
			if f.Blank(1) || !f.Blank(0) || !f.Blank(2) {
				t.Fatalf("P601: bit %d of byte %d is 0: Blank is %v, %v, %v", bit, i, f.Blank(0), f.Blank(1), f.Blank(2))
			}
			f.Erase(1)
			if !f.Blank(1) {
				t.Fatal("P601: not blank behind an Erase")
			}
		}
	}
	if f.Program(0, full(sec, 0xff)) != api.OK || !f.Blank(0) {
		t.Error("P601: a sector that was programmed with FF is not blank")
	}
}

func TestOps(t *testing.T) {
	f := New(2)
	step := func(what string, want int) {
		t.Helper()
		if f.Ops() != want {
			t.Errorf("P601: Ops behind %s is %d, not %d", what, f.Ops(), want)
		}
	}
	f.Program(0, []byte{1})
	step("a Program", 1)
	f.Program(0, []byte{1})
	step("a Program that turns nothing", 2)
	f.Program(5, nil)
	step("a Program of no bytes", 3)
	f.Program(0, []byte{3})
	f.Program(-1, []byte{0})
	f.Program(2*sec, []byte{0})
	f.Erase(2)
	f.Erase(-1)
	step("calls that fail", 3)
	f.Erase(0)
	f.Erase(1)
	step("Erases", 5)
	f.Read(0, 9)
	f.Blank(0)
	f.Wear(0)
	f.Off()
	f.Len()
	f.Power()
	f.Cut(1, []byte{1})
	step("calls that are none", 5)
	f.Program(0, []byte{7})
	f.Program(0, []byte{3})
	step("a Program that is cut", 7)
	f.Program(0, []byte{0})
	f.Erase(0)
	step("calls while it is off", 7)
	f.Power()
	f.Cut(0, []byte{0xff})
	f.Erase(0)
	step("an Erase that is cut", 8)
	f.Power()
	f.Erase(0)
	step("an Erase behind Power", 9)
}

// TestCutCounts goes through Cuts of each n, behind as many operations as were done ahead of it; calls that fail stand in between.
func TestCutCounts(t *testing.T) {
	for _, n := range []int{math.MinInt, -400, -1, 0, 1, 2, 3, 7} {
		for ahead := range 4 {
			f := New(3)
			for range ahead {
				f.Erase(2)
			}
			f.Program(sec, []byte{0})
			f.Cut(n, []byte{0xff})
			for k := range max(n, 0) {
				want := asked(f)
				if f.Program(-1, nil) != api.ErrBounds || f.Program(sec, []byte{1}) != api.ErrSet || f.Erase(3) != api.ErrBounds || f.Program(3*sec, []byte{0}) != api.ErrBounds || !same(asked(f), want) {
					t.Errorf("P602: Cut(%d): calls that fail, ahead of operation %d", n, k)
				}
				e := api.OK
				switch k % 3 {
				case 0:
					e = f.Erase(2)
				case 1:
					e = f.Program(0, nil)
				case 2:
					e = f.Program(7, []byte{0xff, 0xff})
				}
				if e != api.OK || f.Off() || f.Ops() != want.ops+1 {
					t.Errorf("P602: Cut(%d): operation %d: %v, off %v", n, k, e, f.Off())
				}
			}
			want := asked(f)
			want.ops++
			want.off = true
			if e := f.Program(9, []byte{0}); e != api.ErrOff || !same(asked(f), want) {
				t.Errorf("P602: Cut(%d), with %d operations ahead of it: %v, off %v", n, ahead, e, f.Off())
			}
		}
	}
}

func TestCutOfOperationsThatTurnNothing(t *testing.T) {
	for i, work := range []func(f *Flash) api.Errno{
		func(f *Flash) api.Errno { return f.Program(0, nil) },
		func(f *Flash) api.Errno { return f.Program(2*sec, []byte{}) },
		func(f *Flash) api.Errno { return f.Program(sec, []byte{0xff}) },
		func(f *Flash) api.Errno { return f.Erase(1) },
	} {
		f := New(2)
		f.Cut(0, []byte{0x55})
		if e := work(f); e != api.ErrOff || !f.Off() || f.Ops() != 1 || !f.Blank(0) || !f.Blank(1) || f.Wear(1) != i/3 {
			t.Errorf("P602: operation %d, which turns nothing, is cut: %v, off %v, ops %d, wear %d", i, e, f.Off(), f.Ops(), f.Wear(1))
		}
	}
}

func TestCutFarAway(t *testing.T) {
	f := New(1)
	f.Cut(math.MaxInt, []byte{0xff})
	for i := range 2000 {
		if f.Erase(0) != api.OK || f.Off() {
			t.Fatalf("P602: a Cut of the greatest int came at operation %d", i)
		}
	}
}

// bitByBit is the chapter's sentence read a second way: it goes through bits, one at a time.
func bitByBit(was, now, mask []byte) []byte {
	out := slices.Clone(was)
	for i := range 8 * len(now) {
		at, bit := i/8, byte(1)<<(i%8)
		turns := was[at]&bit != now[at]&bit
		stays := len(mask) > 0 && mask[at%max(len(mask), 1)]&bit != 0
		if turns && !stays {
			out[at] ^= bit
		}
	}
	return out
}

func TestBitsThatStay(t *testing.T) {
	for _, x := range []struct{ was, now, mask, want []byte }{
		{[]byte{0xff}, []byte{0}, []byte{0xf0}, []byte{0xf0}},
		{[]byte{0x3c}, []byte{0x18}, []byte{0xf0}, []byte{0x38}},
		{[]byte{0x21}, []byte{0xff}, []byte{0x0f}, []byte{0xf1}},
		{[]byte{0xff, 0xff, 0xff}, []byte{0, 0, 0}, nil, []byte{0, 0, 0}},
		{[]byte{0xff, 0xff, 0xff}, []byte{0, 0, 0}, []byte{1, 2}, []byte{1, 2, 1}},
	} {
		if got := bitByBit(x.was, x.now, x.mask); !bytes.Equal(got, x.want) {
			t.Fatalf("the test's own reckoning: %v over %v by %v is %v", x.now, x.was, x.mask, got)
		}
	}
}

// masks are of no bytes, of one, and shorter, as long as and longer than the rows they are asked for.
func masks() [][]byte {
	out := [][]byte{nil, {}, {0}, {0xff}, {0x01}, {0x80}, {0xf0}, {0x0f, 0xf0}, {0, 0xff}, {0xff, 0}}
	for _, n := range []int{3, 4, 5, 6, 7, 64, sec - 1, sec, sec + 1, 2*sec - 1, 2 * sec, 2*sec + 1, 5000} {
		out = append(out, row(uint32(n), n), full(n, 0), full(n, 0xff))
	}
	return out
}

func TestCutProgram(t *testing.T) {
	for m, mask := range masks() {
		for _, n := range []int{1, 2, 3, 5, 6, 7, 65, sec, sec + 1, 2 * sec} {
			for _, at := range []int{0, 1, sec - 1, sec, 2*sec - n} {
				if at < 0 || at+n > 2*sec {
					continue
				}
				was := row(uint32(m), 2*sec)
				f := filled(t, 2, was)
				now := row(uint32(n), n)
				for i := range now {
					now[i] &= was[at+i]
				}
				want := asked(f)
				copy(want.memory[at:], bitByBit(was[at:at+n], now, mask))
				want.ops, want.off = 2, true
				f.Cut(0, mask)
				if e := f.Program(at, now); e != api.ErrOff || !same(asked(f), want) {
					t.Fatalf("P602: Program(%d) of %d bytes, cut with %d bytes of mask: %v, or other bytes", at, n, len(mask), e)
				}
			}
		}
	}
}

func TestCutErase(t *testing.T) {
	for m, mask := range masks() {
		for s := range 3 {
			was := row(uint32(m), 3*sec)
			f := filled(t, 3, was)
			f.Erase(s)
			f.Program(s*sec, was[s*sec:][:sec])
			want := asked(f)
			copy(want.memory[s*sec:], bitByBit(was[s*sec:][:sec], full(sec, 0xff), mask))
			want.wears[s] = 2
			want.ops, want.off = 4, true
			f.Cut(0, mask)
			if e := f.Erase(s); e != api.ErrOff || !same(asked(f), want) {
				t.Fatalf("P602: Erase of sector %d, cut with %d bytes of mask: %v, wear %d, or other bytes", s, len(mask), e, f.Wear(s))
			}
		}
	}
}

// TestCutAnyByte cuts a Program of any byte over any other one, with masks of which each bit is 1 once.
func TestCutAnyByte(t *testing.T) {
	for _, mask := range []byte{0, 1, 2, 4, 8, 16, 32, 64, 128, 0x55, 0xaa, 0xff} {
		for was := range 256 {
			for now := range 256 {
				if was|now != was {
					continue
				}
				f := filled(t, 1, []byte{byte(was)})
				f.Cut(0, []byte{mask})
				want := bitByBit([]byte{byte(was)}, []byte{byte(now)}, []byte{mask})
				if e := f.Program(0, []byte{byte(now)}); e != api.ErrOff || !bytes.Equal(f.Read(0, 1), want) {
					t.Fatalf("P602: Program of %02x over %02x, cut with %02x: %v, %x, not %x", now, was, mask, e, f.Read(0, 1), want)
				}
			}
		}
	}
}

// TestCutThatFailsIsNone has calls that fail where the cut is due: it waits for one that would be OK.
func TestCutThatFailsIsNone(t *testing.T) {
	f := filled(t, 1, []byte{0})
	f.Cut(0, nil)
	want := asked(f)
	for range 3 {
		if f.Program(0, []byte{1}) != api.ErrSet || f.Program(sec, []byte{1}) != api.ErrBounds || f.Erase(1) != api.ErrBounds || !same(asked(f), want) {
			t.Fatal("P602: a call that fails is cut")
		}
	}
	if f.Erase(0) != api.ErrOff || !f.Off() {
		t.Error("P602: the cut did not come")
	}
}

func TestWhileItIsOff(t *testing.T) {
	f := filled(t, 2, row(5, sec))
	f.Cut(0, []byte{0xff})
	if f.Off() {
		t.Error("P602: a Cut that is to come turned it off")
	}
	if f.Erase(0) != api.ErrOff || !f.Off() {
		t.Fatal("P602: Erase is not cut")
	}
	if f.Len() != 2 || !bytes.Equal(f.Read(0, sec), row(5, sec)) || f.Read(2*sec, 1) != nil || f.Wear(0) != 1 || f.Wear(1) != 0 || f.Blank(0) || !f.Blank(1) || f.Ops() != 2 {
		t.Error("P602: what can be asked while it is off")
	}
	want := asked(f)
	for range 3 {
		if f.Program(sec, []byte{0}) != api.ErrOff || f.Program(sec, nil) != api.ErrOff || f.Erase(1) != api.ErrOff || !same(asked(f), want) {
			t.Error("P602: it is off, and works")
		}
	}
	f.Power()
	if f.Off() || f.Program(sec, []byte{0}) != api.OK || f.Erase(0) != api.OK || f.Wear(0) != 2 || f.Ops() != 4 {
		t.Error("P602: it is on, and does not work")
	}
}

func TestCutComesOnce(t *testing.T) {
	f := New(1)
	f.Cut(1, []byte{0xff})
	if f.Erase(0) != api.OK || f.Erase(0) != api.ErrOff {
		t.Fatal("P602: the second operation is not the one that is cut")
	}
	f.Power()
	for range 10 {
		if f.Erase(0) != api.OK || f.Program(0, []byte{0}) != api.OK || f.Off() {
			t.Fatal("P602: a cut came twice")
		}
	}
}

func TestPowerTakesACutBack(t *testing.T) {
	for n := range 3 {
		f := New(1)
		f.Cut(n, []byte{0xff})
		f.Power()
		for range 5 {
			if f.Program(0, []byte{0}) != api.OK || f.Off() {
				t.Errorf("P602: Cut(%d) came behind Power", n)
			}
		}
		if f.Read(0, 1)[0] != 0 {
			t.Error("P602: a mask that was taken back held a bit")
		}
	}
	f := New(1)
	f.Cut(2, []byte{0xff})
	f.Erase(0)
	f.Power()
	if f.Erase(0) != api.OK || f.Erase(0) != api.OK {
		t.Error("P602: a Cut of which a part was counted came behind Power")
	}
	f.Cut(0, nil)
	f.Erase(0)
	f.Cut(0, []byte{0xff}) // said while it is off: it is on behind Power, and none is to come
	if !f.Off() {
		t.Error("P602: a Cut turned it on")
	}
	f.Power()
	if f.Off() || f.Erase(0) != api.OK || f.Erase(0) != api.OK {
		t.Error("P602: a Cut that was said while it was off came behind Power")
	}
	f.Power()
	f.Power()
	if f.Off() || f.Erase(0) != api.OK {
		t.Error("P602: Power of one that is on")
	}
}

func TestCutTakesTheLastOnesPlace(t *testing.T) {
	for _, first := range []int{-1, 0, 1, 5, math.MaxInt} {
		for second := range 4 {
			for between := range min(max(first, 0), 3) + 1 {
				f := New(2)
				f.Cut(first, []byte{0xff, 0xff})
				for range between {
					f.Erase(1)
				}
				f.Cut(second, []byte{0xf0})
				for k := range second {
					if e := f.Erase(1); e != api.OK {
						t.Fatalf("P602: Cut(%d) behind Cut(%d): operation %d: %v", second, first, k, e)
					}
				}
				if e := f.Program(0, []byte{0, 0, 0}); e != api.ErrOff || !bytes.Equal(f.Read(0, 3), []byte{0xf0, 0xf0, 0xf0}) {
					t.Fatalf("P602: Cut(%d) behind Cut(%d): %v, %x", second, first, e, f.Read(0, 3))
				}
				f.Power()
				for range 8 {
					if f.Erase(0) != api.OK {
						t.Fatalf("P602: Cut(%d) came, though another one took its place", first)
					}
				}
			}
		}
	}
	f := New(1)
	f.Cut(0, []byte{0xff})
	f.Cut(0, nil)
	if f.Program(0, []byte{0}) != api.ErrOff || f.Read(0, 1)[0] != 0 {
		t.Error("P602: a mask stayed, though a Cut without one took its place")
	}
}

func TestTwoFlashes(t *testing.T) {
	x, y := New(2), New(2)
	want := asked(y)
	x.Program(0, row(1, 2*sec))
	x.Erase(1)
	x.Cut(0, []byte{0xff})
	if !same(asked(y), want) || y.Erase(1) != api.OK || y.Erase(1) != api.OK || x.Off() || x.Wear(1) != 1 {
		t.Error("P603: what one flash was told turned another")
	}
	want = asked(y)
	if x.Erase(0) != api.ErrOff || !same(asked(y), want) || y.Off() || y.Program(0, []byte{0}) != api.OK {
		t.Error("P603: the power of one flash is another's")
	}
	y.Power()
	if !x.Off() || x.Erase(0) != api.ErrOff || y.Ops() != 3 || x.Ops() != 3 {
		t.Error("P603: Power of one flash turned another on")
	}
	x.Power()
	y.Cut(0, nil)
	if x.Erase(0) != api.OK || y.Erase(0) != api.ErrOff || x.Off() {
		t.Error("P603: a Cut of one flash came to another")
	}
	if z := New(2); z.Ops() != 0 || z.Off() || !z.Blank(0) || z.Wear(0) != 0 {
		t.Error("P603: a new flash knows of others")
	}
}

// TestNilFlash asks all of a nil one; no bytes at its beginning lie within it, as within any other of no sectors.
func TestNilFlash(t *testing.T) {
	var f *Flash
	for range 2 {
		for _, at := range append(slices.Clone(far), 0, 1, sec) {
			for _, n := range append(slices.Clone(far), 0, 1, sec) {
				if f.Read(at, n) != nil {
					t.Errorf("P603: Read(%d, %d) of a nil flash", at, n)
				}
			}
			if f.Program(at, []byte{0xff}) != api.ErrBounds || f.Erase(at) != api.ErrBounds || f.Wear(at) != 0 || f.Blank(at) {
				t.Errorf("P603: a nil flash at %d", at)
			}
			if e := f.Program(at, nil); (e == api.OK) != (at == 0) || at != 0 && e != api.ErrBounds {
				t.Errorf("P603: Program(%d) of no bytes of a nil flash: %v", at, e)
			}
		}
		if f.Len() != 0 || f.Ops() != 0 || f.Off() {
			t.Error("P603: a nil flash has something")
		}
		f.Cut(0, []byte{1, 2})
		f.Cut(-1, nil)
	}
	f.Power()
	if f.Len() != 0 || f.Ops() != 0 || f.Off() {
		t.Error("P603: a nil flash keeps something")
	}
}

// TestFlashOfNoSectors is told apart from a nil one by what it keeps.
func TestFlashOfNoSectors(t *testing.T) {
	f := New(0)
	f.Cut(1, []byte{0xff})
	if f.Program(0, nil) != api.OK || f.Program(1, nil) != api.ErrBounds || f.Program(0, nil) != api.ErrOff || !f.Off() || f.Ops() != 2 {
		t.Error("P602: a cut of a flash of no sectors")
	}
	f.Power()
	if f.Off() || f.Program(0, nil) != api.OK || f.Ops() != 3 {
		t.Error("P602: Power of a flash of no sectors")
	}
}

// within lays b into greater memory, so that it has memory ahead of it and behind.
func within(b []byte) (all, part []byte) {
	all = slices.Concat(full(8, 0xa5), b, full(8, 0x5a))
	return all, all[8 : 8+len(b)]
}

func TestRowsStay(t *testing.T) {
	f := New(2)
	now := row(3, 40)
	all, part := within(now)
	kept := slices.Clone(all)
	f.Program(sec-20, part)
	f.Program(0, part)
	f.Program(2*sec, part)
	f.Program(sec-20, full(40, 0xff))
	if !bytes.Equal(all, kept) {
		t.Error("P603: Program turned the row it was handed, or memory beside it")
	}
	clear(all)
	if !bytes.Equal(f.Read(sec-20, 40), now) || !bytes.Equal(f.Read(0, 40), now) {
		t.Error("P603: Program kept the row it was handed")
	}
	copy(all, kept)
	f.Erase(0)
	f.Erase(1)
	if !bytes.Equal(all, kept) {
		t.Error("P603: Erase turned a row that Program was handed")
	}
	f.Cut(0, []byte{0xf0, 0x0f, 0xff})
	f.Program(sec-20, part)
	want := bitByBit(full(40, 0xff), now, []byte{0xf0, 0x0f, 0xff})
	if !bytes.Equal(all, kept) {
		t.Error("P603: a Program that is cut turned the row it was handed")
	}
	clear(all)
	if !bytes.Equal(f.Read(sec-20, 40), want) {
		t.Error("P603: a Program that is cut kept the row it was handed")
	}
}

func TestMasksStay(t *testing.T) {
	for _, n := range []int{0, 1, 3, 7, sec, 3 * sec} {
		for way := range 2 {
			f := filled(t, 2, full(2*sec, 0x3c))
			mask := row(uint32(n), n)
			all, part := within(mask)
			kept := slices.Clone(all)
			f.Cut(1, part)
			f.Erase(1)
			if !bytes.Equal(all, kept) {
				t.Errorf("P603: Cut turned the mask of %d bytes it was handed", n)
			}
			for i := range all {
				all[i] ^= 0xff
			}
			turned := slices.Clone(all)
			now, e := make([]byte, sec), api.OK
			if way == 0 {
				e = f.Program(0, now)
			} else {
				now = full(sec, 0xff)
				e = f.Erase(0)
			}
			if want := bitByBit(full(sec, 0x3c), now, mask); e != api.ErrOff || !bytes.Equal(f.Read(0, sec), want) {
				t.Errorf("P603: Cut kept the mask of %d bytes it was handed: %v", n, e)
			}
			f.Power()
			f.Erase(0)
			if !bytes.Equal(all, turned) {
				t.Errorf("P603: the mask of %d bytes was turned behind Cut", n)
			}
		}
	}
}

// TestMaskAndRowAreOne hands in the same memory for both.
func TestMaskAndRowAreOne(t *testing.T) {
	b := row(8, 50)
	kept := slices.Clone(b)
	f := New(1)
	f.Cut(0, b)
	if f.Program(1, b) != api.ErrOff || !bytes.Equal(b, kept) || !bytes.Equal(f.Read(1, 50), bitByBit(full(50, 0xff), b, b)) {
		t.Error("P603: one row as mask and as bytes")
	}
}

// twin is a flash told a second way: it remembers its cut as the number of the operation at which it is due.
type twin struct {
	state
	due  int // -1: none
	mask []byte
}

func newTwin(n int) *twin {
	return &twin{state: state{memory: full(n*sec, 0xff), wears: make([]int, n)}, due: -1}
}

func (w *twin) work(at int, b []byte) api.Errno {
	cutNow, mask := w.ops == w.due, []byte(nil)
	if cutNow {
		w.off, w.due, mask = true, -1, w.mask
	}
	copy(w.memory[at:], bitByBit(w.memory[at:at+len(b)], b, mask))
	w.ops++
	if cutNow {
		return api.ErrOff
	}
	return api.OK
}

func (w *twin) program(at int, b []byte) api.Errno {
	if w.off {
		return api.ErrOff
	}
	if at < 0 || at+len(b) > len(w.memory) {
		return api.ErrBounds
	}
	for i := range b {
		if b[i]|w.memory[at+i] != w.memory[at+i] {
			return api.ErrSet
		}
	}
	return w.work(at, b)
}

func (w *twin) erase(s int) api.Errno {
	if w.off {
		return api.ErrOff
	}
	if s < 0 || s >= len(w.wears) {
		return api.ErrBounds
	}
	w.wears[s]++
	return w.work(s*sec, full(sec, 0xff))
}

// TestLongRuns holds flashes against their twins through long rows of calls, most of them good.
func TestLongRuns(t *testing.T) {
	for seed := range uint32(40) {
		n := int(seed % 5)
		f, w := New(n), newTwin(n)
		dice := row(seed+100, 8*400)
		for k := range 400 {
			d := dice[8*k:][:8]
			at := (int(d[1])<<8|int(d[2]))%(n*sec+12) - 4
			sector := int(d[1])%(n+2) - 1
			got, want := api.OK, api.OK
			switch d[0] % 16 {
			case 0, 1, 2, 3, 4, 5:
				b := row(uint32(d[3]), int(d[4]))
				for i := range b {
					if at >= 0 && at+i < n*sec && d[5]%8 > 0 {
						b[i] &= w.memory[at+i]
					}
				}
				got, want = f.Program(at, b), w.program(at, b)
			case 6, 7, 8, 9, 10, 11:
				got, want = f.Erase(sector), w.erase(sector)
			case 12, 13:
				mask := row(uint32(d[3]), int(d[4])%9)
				later := int(d[5])%7 - 1
				f.Cut(later, mask)
				w.due, w.mask = w.ops+max(later, 0), mask
			default:
				f.Power()
				w.off, w.due = false, -1
			}
			if got != want || !same(asked(f), w.state) {
				t.Fatalf("P601, P602: seed %d, call %d (kind %d): %v, not %v, or another state", seed, k, d[0]%16, got, want)
			}
		}
	}
}

// TestAnswersHangOnWhatItWasTold tells two flashes the same, one of them with questions in between.
func TestAnswersHangOnWhatItWasTold(t *testing.T) {
	x, y := New(3), New(3)
	for k := range 200 {
		b := row(uint32(k), k%50)
		x.Len()
		x.Read(k, k)
		x.Blank(k % 4)
		x.Wear(k % 4)
		x.Off()
		x.Ops()
		if x.Program(7*k%(3*sec), b) != y.Program(7*k%(3*sec), b) || x.Erase(k%4) != y.Erase(k%4) || !same(asked(x), asked(y)) {
			t.Fatalf("P603: two flashes that were told the same differ behind call %d", k)
		}
		if k%20 == 7 {
			x.Cut(k%6, b)
			y.Cut(k%6, b)
		}
		if k%20 == 19 {
			x.Power()
			y.Power()
		}
	}
}
