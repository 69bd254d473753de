package slot

import (
	"bytes"
	"crypto/sha256"
	"fmt"
	"math"
	"slices"
	"strings"
	"sync"
	"testing"

	"waterline/api"
	"waterline/area"
	"waterline/nor"
	"waterline/ring"
)

const (
	sec     = 320
	most    = 6 // sectors of a slot
	ringLen = 4
	fromSec = 2 // where the areas of the tests begin in their flashes
	behind  = 2 // how many sectors are behind them
)

// blank is a sector of which all bits are 1.
var blank = strings.Repeat("\xff", sec)

// chance makes numbers, the same ones at each run.
type chance uint64

// below makes a number of 0 to n-1.
func (c *chance) below(n int) int {
	*c = *c*6364136223846793005 + 1442695040888963407
	return int(*c>>33) % n
}

// one makes one of the numbers of l.
func (c *chance) one(l []int) int { return l[c.below(len(l))] }

func (c *chance) row(n int) []byte {
	out := make([]byte, n)
	for i := range out {
		out[i] = byte(c.below(256))
	}
	return out
}

func full(n int, x byte) []byte { return bytes.Repeat([]byte{x}, n) }

// edges are numbers at and around each limit, far from them, and those that have the lowest bits of one that may be.
func edges() []int {
	return []int{
		math.MinInt, math.MinInt + 1, math.MinInt + 2, math.MinInt + 6, math.MinInt / 2, -1 << 32, -1<<32 + 1, math.MinInt32, -256, -255, -7, -6, -5, -4, -3, -2, -1,
		0, 1, 2, 3, 4, 5, 6, 7, 8, 12, 13, 15, 16, 255, 256, 257, math.MaxInt32, math.MaxInt32 + 1, 1 << 32, 1<<32 + 1, 1<<32 + 2, 1<<32 + 6, math.MaxInt / 2, math.MaxInt/2 + 1, math.MaxInt - 5, math.MaxInt - 1, math.MaxInt,
	}
}

// chunk is one of a slot.
type chunk struct{ slot, k int }

// layout gives each sector of an area behind its ring the chunk that lies there.
func layout(sectors int) []chunk {
	var out []chunk
	for s := range 2 {
		for k := range sectors {
			out = append(out, chunk{s, k})
		}
	}
	return out
}

// place is a second reading of From.
func place(slot, k, sectors int) int {
	if sectors > 6 {
		return -1
	}
	at := slices.Index(layout(max(sectors, 0)), chunk{slot, k})
	if at < 0 {
		return -1
	}
	return 4 + at
}

// bench is a flash, and an area of n of its sectors with others on both sides.
type bench struct {
	n, budget int
	f         *nor.Flash
	a         *area.Area
}

func newBench(n, budget int) bench {
	f := nor.New(fromSec + n + behind)
	return bench{n, budget, f, area.New(f, api.Cap{From: fromSec, Len: n}, budget)}
}

// whole makes a bench that just has the ring and two slots.
func whole(sectors, budget int) bench { return newBench(ringLen+2*sectors, budget) }

// lay writes b at the beginning of a sector of the area, by the flash alone.
func (x bench) lay(t *testing.T, sector int, b []byte) {
	t.Helper()
	if e := x.f.Program((fromSec+sector)*sec, b); e != api.OK {
		t.Fatalf("Program of %d bytes into sector %d: %d", len(b), sector, e)
	}
}

// wear erases a sector of the area n times, by the flash alone.
func (x bench) wear(t *testing.T, sector, n int) {
	t.Helper()
	for range n {
		if e := x.f.Erase(fromSec + sector); e != api.OK {
			t.Fatalf("Erase of sector %d: %d", sector, e)
		}
	}
}

// fillAll writes other bytes into each sector of the flash.
func (x bench) fillAll(t *testing.T, seed int) {
	t.Helper()
	c := chance(seed)
	for s := -fromSec; s < x.n+behind; s++ {
		x.lay(t, s, c.row(sec))
	}
}

// turnOff makes the flash one that is off, and turns nothing else of it but its ops.
func (x bench) turnOff(t *testing.T) {
	t.Helper()
	x.f.Cut(0, []byte{0xff})
	if e := x.f.Program(0, nil); e != api.ErrOff || !x.f.Off() {
		t.Fatalf("a cut: %d", e)
	}
}

// state is all that can be asked of a flash.
type state struct {
	sectors []string
	wears   []int
	ops     int
	off     bool
}

func (x bench) state() state {
	s := state{ops: x.f.Ops(), off: x.f.Off()}
	for i := range x.f.Len() {
		s.sectors = append(s.sectors, string(x.f.Read(i*sec, sec)))
		s.wears = append(s.wears, x.f.Wear(i))
	}
	return s
}

func same(a, b state) bool {
	return slices.Equal(a.sectors, b.sectors) && slices.Equal(a.wears, b.wears) && a.ops == b.ops && a.off == b.off
}

// differ tells where two states are not the same.
func differ(a, b state) string {
	out := fmt.Sprintf("%d and %d operations, off: %v and %v", a.ops, b.ops, a.off, b.off)
	for i := range a.sectors {
		if a.sectors[i] != b.sectors[i] || a.wears[i] != b.wears[i] {
			out += fmt.Sprintf(", sector %d: %x.. and %x.., wear %d and %d", i-fromSec, a.sectors[i][:8], b.sectors[i][:8], a.wears[i], b.wears[i])
		}
	}
	return out
}

// cutting says which of the operations to come is cut (below 0: none), and which bits stay.
type cutting struct {
	n    int
	mask []byte
}

var uncut = cutting{n: -1}

// laid tells what is in a sector when b was laid over its beginning, and the bits of the mask stayed.
func laid(was string, b, mask []byte) string {
	out := []byte(was)
	for i, x := range b {
		for bit := range 8 {
			one := byte(1) << bit
			if len(mask) > 0 && mask[i%len(mask)]&one != 0 {
				continue
			}
			out[i] = out[i] &^ one
			out[i] |= x & one
		}
	}
	return string(out)
}

// op does one operation on a state: sector at becomes as it is with b laid over its beginning; it tells whether power is still there.
func (s *state) op(at int, b []byte, c *cutting) bool {
	s.ops++
	c.n--
	if c.n != -1 {
		s.sectors[at] = laid(s.sectors[at], b, nil)
		return true
	}
	s.sectors[at] = laid(s.sectors[at], b, c.mask)
	s.off = true
	return false
}

// reckon is a second reading of Write, by the flash alone: what it leaves, and answers.
func (x bench) reckon(slot, k, sectors int, b []byte, c cutting) (state, api.Errno) {
	s := x.state()
	own := place(slot, k, sectors)
	if own == -1 || len(b) > 320 {
		return s, api.ErrBounds
	}
	at := own + fromSec
	if own >= x.n || s.sectors[at] != blank && s.wears[at] >= min(max(x.budget, 0), 1000) {
		return s, api.ErrWorn
	}
	if s.off && (s.sectors[at] != blank || len(b) > 0) {
		return s, api.ErrOff
	}
	if s.sectors[at] != blank {
		s.wears[at]++
		if !s.op(at, []byte(blank), &c) {
			return s, api.ErrOff
		}
	}
	if len(b) > 0 && !s.op(at, b, &c) {
		return s, api.ErrOff
	}
	return s, api.OK
}

// writeIs has b written, with a cut to come or with none, and fails unless May tells it ahead, and what is answered and left is as reckoned.
func (x bench) writeIs(t *testing.T, slot, k, sectors int, b []byte, c cutting) api.Errno {
	t.Helper()
	x.mayIs(t, slot, k, sectors)
	want, e := x.reckon(slot, k, sectors, b, c)
	if c.n >= 0 {
		x.f.Cut(c.n, c.mask)
	}
	if got := Write(x.a, slot, k, sectors, b); got != e {
		t.Fatalf("P1901: Write of %d bytes to chunk %d of slot %d of %d sectors, budget %d: error %d, not %d", len(b), k, slot, sectors, x.budget, got, e)
	}
	if got := x.state(); !same(got, want) {
		t.Fatalf("P1901: Write of %d bytes to chunk %d of slot %d of %d sectors, budget %d, error %d: %s", len(b), k, slot, sectors, x.budget, e, differ(got, want))
	}
	return e
}

// writeGives fails unless writeIs tells e.
func (x bench) writeGives(t *testing.T, slot, k, sectors int, b []byte, c cutting, e api.Errno) {
	t.Helper()
	if got := x.writeIs(t, slot, k, sectors, b, c); got != e {
		t.Fatalf("P1901: Write of %d bytes to chunk %d of slot %d of %d sectors, budget %d: error %d, not %d", len(b), k, slot, sectors, x.budget, got, e)
	}
}

// mayIs fails unless May tells what the flash alone tells, and turns nothing.
func (x bench) mayIs(t *testing.T, slot, k, sectors int) {
	t.Helper()
	before := x.state()
	_, e := x.reckon(slot, k, sectors, nil, uncut)
	want := e == api.OK || e == api.ErrOff
	if got := May(x.a, slot, k, sectors); got != want {
		t.Fatalf("P1901: May of chunk %d of slot %d of %d sectors, budget %d: %v", k, slot, sectors, x.budget, got)
	}
	if got := x.state(); !same(got, before) {
		t.Fatalf("P1901: May of chunk %d of slot %d of %d sectors: %s", k, slot, sectors, differ(got, before))
	}
}

// image is a second reading of Image, by the flash alone.
func (x bench) image(slot, sectors, size int) []byte {
	if slot != 0 && slot != 1 || sectors < 1 || sectors > 6 || size < 1 || size > 320*sectors {
		return nil
	}
	begin := (4 + slot*sectors) * 320
	if begin+size > x.n*320 {
		return nil
	}
	return x.f.Read(fromSec*sec+begin, size)
}

// imageIs fails unless Image tells want, and Digest the hash of it, and nothing is turned.
func (x bench) imageIs(t *testing.T, slot, sectors, size int, want []byte) {
	t.Helper()
	before := x.state()
	if got := Image(x.a, slot, sectors, size); !bytes.Equal(got, want) {
		t.Fatalf("P1901: Image of %d bytes of slot %d of %d sectors, area of %d: %d bytes %x.., not %d %x..", size, slot, sectors, x.n, len(got), got[:min(8, len(got))], len(want), want[:min(8, len(want))])
	}
	if got := Digest(x.a, slot, sectors, size); got != sha256.Sum256(want) {
		t.Fatalf("P1901: Digest of %d bytes of slot %d of %d sectors, area of %d: %x", size, slot, sectors, x.n, got)
	}
	if got := x.state(); !same(got, before) {
		t.Fatalf("P1901: Image of %d bytes of slot %d of %d sectors: %s", size, slot, sectors, differ(got, before))
	}
}

// imagesAre asks Image and Digest of all sizes around each sector's end, of both slots.
func (x bench) imagesAre(t *testing.T, sectors int) {
	t.Helper()
	for slot := range 2 {
		for k := range sectors + 2 {
			for _, size := range []int{k*sec - 1, k * sec, k*sec + 1, k*sec + 17} {
				x.imageIs(t, slot, sectors, size, x.image(slot, sectors, size))
			}
		}
	}
}

func TestLimits(t *testing.T) {
	if api.Sector != sec || api.RingLen != ringLen || api.MaxSlot != most || api.MaxBudget != 1000 {
		t.Fatal("the limits are others")
	}
}

func TestExample(t *testing.T) {
	if got := From(1, 0, 2); got != 6 {
		t.Errorf("P1901: From(1, 0, 2): %d", got)
	}
}

func fromIs(t *testing.T, slot, k, sectors, want int) {
	t.Helper()
	if got := From(slot, k, sectors); got != want {
		t.Fatalf("P1901: From of chunk %d of slot %d of %d sectors: %d, not %d", k, slot, sectors, got, want)
	}
}

func TestFromByNumbers(t *testing.T) {
	for sectors, want := range map[int][2][]int{
		1: {{4}, {5}},
		2: {{4, 5}, {6, 7}},
		3: {{4, 5, 6}, {7, 8, 9}},
		4: {{4, 5, 6, 7}, {8, 9, 10, 11}},
		5: {{4, 5, 6, 7, 8}, {9, 10, 11, 12, 13}},
		6: {{4, 5, 6, 7, 8, 9}, {10, 11, 12, 13, 14, 15}},
	} {
		for slot := range 2 {
			for k, at := range want[slot] {
				fromIs(t, slot, k, sectors, at)
				fromIs(t, slot, ^k, sectors, -1)
				fromIs(t, slot, sectors+k, sectors, -1)
				fromIs(t, slot+2, k, sectors, -1)
				fromIs(t, slot-2, k, sectors, -1)
			}
		}
	}
}

// TestFromOfNone has one number that can't be in each place beside others that may be.
func TestFromOfNone(t *testing.T) {
	for _, n := range edges() {
		for _, c := range []struct{ slot, k, sectors int }{{0, 0, 1}, {1, 0, 1}, {0, 5, 6}, {1, 5, 6}, {1, 2, 3}} {
			if n != 0 && n != 1 {
				fromIs(t, n, c.k, c.sectors, -1)
			}
			if n < 0 || n >= c.sectors {
				fromIs(t, c.slot, n, c.sectors, -1)
			}
			if n < 1 || n > most || n <= c.k {
				fromIs(t, c.slot, c.k, n, -1)
			}
		}
	}
}

// TestFromAtEachEdge has each edge in each place beside each other one.
func TestFromAtEachEdge(t *testing.T) {
	for _, slot := range edges() {
		for _, k := range edges() {
			for _, sectors := range edges() {
				fromIs(t, slot, k, sectors, place(slot, k, sectors))
			}
		}
	}
}

// TestChunksApart has no two chunks in one sector, none in the ring's, and no sector between them without one.
func TestChunksApart(t *testing.T) {
	for sectors := 1; sectors <= most; sectors++ {
		taken := map[int]int{}
		for s := range ringLen {
			taken[s]++
		}
		for slot := range 2 {
			for k := range sectors {
				taken[From(slot, k, sectors)]++
			}
		}
		for s := range ringLen + 2*sectors {
			if taken[s] != 1 {
				t.Errorf("P1901: %d times something in sector %d, slots of %d", taken[s], s, sectors)
			}
		}
		if len(taken) != ringLen+2*sectors {
			t.Errorf("P1901: From of chunks of slots of %d is elsewhere, too: %v", sectors, taken)
		}
	}
}

func TestMayByNumbers(t *testing.T) {
	for i, c := range []struct {
		budget, wears int
		laid, want    bool
	}{
		{0, 0, false, true}, {-1, 0, false, true}, {math.MinInt, 0, false, true}, {0, 3, false, true}, {2, 2, false, true}, {2, 9, false, true}, {2, 1, false, true},
		{0, 0, true, false}, {-1, 0, true, false}, {math.MinInt, 0, true, false}, {1, 0, true, true}, {1, 1, true, false}, {2, 1, true, true}, {2, 2, true, false}, {2, 3, true, false}, {2, 9, true, false},
		{1000, 999, true, true}, {1000, 1000, true, false}, {1001, 1000, true, false}, {math.MaxInt, 999, true, true}, {math.MaxInt, 1000, true, false},
	} {
		for _, n := range []int{4, 9, 10, 15} {
			x := newBench(n+1, c.budget)
			x.wear(t, n, c.wears)
			if c.laid {
				x.lay(t, n, []byte{0xfe})
			}
			slot, k := (n-4)/6, (n-4)%6
			if got := May(x.a, slot, k, 6); got != c.want {
				t.Errorf("P1901: May %d of sector %d: %v", i, n, got)
			}
			x.turnOff(t)
			if got := May(x.a, slot, k, 6); got != c.want {
				t.Errorf("P1901: May %d of sector %d, without power: %v", i, n, got)
			}
		}
	}
}

// TestMayOfEachByte has one bit of 0 anywhere in a sector that has no erase left, and in those ahead of and behind it.
func TestMayOfEachByte(t *testing.T) {
	for i := range sec {
		x := whole(3, 0)
		x.lay(t, 8, append(full(i, 0xff), 0xff^1<<(i%8)))
		for k := range 3 {
			if got := May(x.a, 1, k, 3); got != (k != 1) {
				t.Fatalf("P1901: May of chunk %d with a bit of byte %d of sector 8: %v", k, i, got)
			}
		}
	}
}

// TestChunksThereAreNot asks May and Write of them, with all that could go of an area's sectors.
func TestChunksThereAreNot(t *testing.T) {
	x := newBench(40, 5)
	x.f.Cut(0, nil)
	for _, slot := range edges() {
		for _, k := range edges() {
			for _, sectors := range edges() {
				if place(slot, k, sectors) >= 0 {
					continue
				}
				if May(x.a, slot, k, sectors) {
					t.Fatalf("P1901: May of chunk %d of slot %d of %d sectors", k, slot, sectors)
				}
				if e := Write(x.a, slot, k, sectors, []byte{1}); e != api.ErrBounds {
					t.Fatalf("P1901: Write to chunk %d of slot %d of %d sectors: error %d", k, slot, sectors, e)
				}
			}
		}
	}
	if !same(x.state(), newBench(40, 5).state()) {
		t.Error("P1901: a Write to no chunk turned something")
	}
}

// TestSectorsTheAreaHasNot has areas of fewer sectors than the chunks need, also such as were cut away at the flash's end; there is more behind them in the flash.
func TestSectorsTheAreaHasNot(t *testing.T) {
	for sectors := 1; sectors <= most; sectors++ {
		for n := range ringLen + 2*sectors + 1 {
			for _, budget := range []int{0, 3} {
				x := newBench(n, budget)
				end := bench{n: n, budget: budget, f: nor.New(fromSec + n)}
				end.a = area.New(end.f, api.Cap{From: fromSec, Len: 99}, budget)
				for _, y := range []bench{x, end} {
					for i, c := range layout(sectors) {
						if want := ringLen+i < n; May(y.a, c.slot, c.k, sectors) != want {
							t.Fatalf("P1901: May of chunk %d of slot %d of %d sectors, area of %d, is not %v", c.k, c.slot, sectors, n, want)
						}
						for _, b := range [][]byte{nil, {7}, full(sec+1, 0)} {
							y.writeIs(t, c.slot, c.k, sectors, b, uncut)
						}
					}
				}
			}
		}
	}
}

// TestWriteOfEachLength writes rows of all lengths into blank sectors and such as are not, beside others that are full.
func TestWriteOfEachLength(t *testing.T) {
	c := chance(1)
	for n := range sec + 1 {
		for _, filled := range []bool{false, true} {
			x := whole(2, 1)
			if filled {
				x.fillAll(t, n)
			}
			slot, k := n%2, n/2%2
			b := c.row(n)
			ops, erases := x.f.Ops(), 0
			if filled {
				erases = 1
			}
			x.writeGives(t, slot, k, 2, b, uncut, api.OK)
			at := ringLen + 2*slot + k + fromSec
			if got := x.f.Read(at*sec, sec); !bytes.Equal(got, slices.Concat(b, full(sec-n, 0xff))) {
				t.Fatalf("P1901: Write of %d bytes: %x", n, got)
			}
			if x.f.Wear(at) != erases || x.f.Ops() != ops+erases+min(n, 1) {
				t.Fatalf("P1901: Write of %d bytes: wear %d, %d operations", n, x.f.Wear(at), x.f.Ops()-ops)
			}
		}
	}
}

func TestWriteByNumbers(t *testing.T) {
	for i, c := range []struct {
		budget   int
		was, b   []byte
		e        api.Errno
		ops, now int // now: the wear
		is       []byte
	}{
		{0, nil, nil, api.OK, 0, 0, nil}, {0, nil, []byte{}, api.OK, 0, 0, nil}, {1, nil, nil, api.OK, 0, 0, nil},
		{0, nil, []byte{5}, api.OK, 1, 0, []byte{5}}, {0, nil, []byte{0xff}, api.OK, 1, 0, nil}, {0, nil, full(sec, 0xff), api.OK, 1, 0, nil}, {0, nil, full(sec, 0), api.OK, 1, 0, full(sec, 0)}, {0, nil, full(sec-1, 0), api.OK, 1, 0, full(sec-1, 0)},
		{1, []byte{1}, nil, api.OK, 1, 1, nil}, {1, []byte{1}, []byte{}, api.OK, 1, 1, nil}, {1, []byte{1}, []byte{1}, api.OK, 2, 1, []byte{1}}, {1, []byte{1}, []byte{2}, api.OK, 2, 1, []byte{2}}, {1, []byte{3}, []byte{1}, api.OK, 2, 1, []byte{1}}, {1, []byte{1, 2}, []byte{1}, api.OK, 2, 1, []byte{1}}, {1, []byte{1}, []byte{0xff}, api.OK, 2, 1, nil},
		{1, full(sec, 0), []byte{1}, api.OK, 2, 1, []byte{1}}, {1, append(full(sec-1, 0xff), 0xfe), []byte{1}, api.OK, 2, 1, []byte{1}}, {1, full(sec, 0), full(sec, 9), api.OK, 2, 1, full(sec, 9)},
		{0, []byte{1}, nil, api.ErrWorn, 0, 0, []byte{1}}, {0, []byte{1}, []byte{1}, api.ErrWorn, 0, 0, []byte{1}}, {0, []byte{1}, []byte{0}, api.ErrWorn, 0, 0, []byte{1}}, {0, append(full(sec-1, 0xff), 0xfe), []byte{1}, api.ErrWorn, 0, 0, append(full(sec-1, 0xff), 0xfe)},
		{0, nil, full(sec+1, 0), api.ErrBounds, 0, 0, nil}, {1, nil, full(sec+1, 0), api.ErrBounds, 0, 0, nil}, {1, []byte{1}, full(sec+1, 0xff), api.ErrBounds, 0, 0, []byte{1}}, {0, []byte{1}, full(sec+1, 0), api.ErrBounds, 0, 0, []byte{1}}, {1, nil, full(2*sec, 0), api.ErrBounds, 0, 0, nil}, {1, nil, full(1<<16, 0), api.ErrBounds, 0, 0, nil}, {1, nil, full(1<<16+1, 0), api.ErrBounds, 0, 0, nil},
	} {
		x := whole(1, c.budget)
		x.lay(t, ringLen, c.was)
		ops := x.f.Ops()
		x.writeGives(t, 0, 0, 1, c.b, uncut, c.e)
		at := fromSec + ringLen
		want := slices.Concat(c.is, full(sec-len(c.is), 0xff))
		if got := x.f.Read(at*sec, sec); !bytes.Equal(got, want) || x.f.Ops() != ops+c.ops || x.f.Wear(at) != c.now {
			t.Errorf("P1901: Write %d: %x.., %d operations, wear %d", i, got[:4], x.f.Ops()-ops, x.f.Wear(at))
		}
	}
}

// TestEachChunk writes each chunk of slots of each number of sectors, into blank sectors and into full ones, over and over, and holds all of the flash against what was.
func TestEachChunk(t *testing.T) {
	c := chance(4)
	for sectors := 1; sectors <= most; sectors++ {
		for _, filled := range []bool{false, true} {
			x := whole(sectors, 3)
			if filled {
				x.fillAll(t, sectors)
			}
			for range 3 {
				for _, ch := range layout(sectors) {
					x.writeGives(t, ch.slot, ch.k, sectors, c.row(1+c.below(sec)), uncut, api.OK)
				}
			}
			x.imagesAre(t, sectors)
		}
	}
}

// TestWriteTillWornOut writes one chunk again and again, till its sector is worn out; what was written last stays, and so do all others.
func TestWriteTillWornOut(t *testing.T) {
	for _, c := range []struct{ budget, writes int }{{math.MinInt, 1}, {-1, 1}, {0, 1}, {1, 2}, {2, 3}, {3, 4}, {7, 8}} {
		for _, ch := range layout(2) {
			x := whole(2, c.budget)
			last := []byte(nil)
			for i := range c.writes {
				last = full(3+i, byte(i))
				x.writeGives(t, ch.slot, ch.k, 2, last, uncut, api.OK)
			}
			for range 3 {
				for _, b := range [][]byte{nil, {}, {0}, last, full(sec, 0xff)} {
					x.writeGives(t, ch.slot, ch.k, 2, b, uncut, api.ErrWorn)
				}
				x.writeGives(t, ch.slot, ch.k, 2, full(sec+1, 0), uncut, api.ErrBounds)
			}
			at := From(ch.slot, ch.k, 2)
			if got := x.a.Read(at, 0, len(last)+1); !bytes.Equal(got, append(last, 0xff)) || x.a.Left(at) != 0 {
				t.Errorf("P1901: worn out by %d writes: %x, %d left", c.writes, got, x.a.Left(at))
			}
			if other := 1 - ch.k; Write(x.a, ch.slot, other, 2, []byte{9}) != api.OK {
				t.Errorf("P1901: chunk %d is worn out with chunk %d", other, ch.k)
			}
		}
	}
}

// TestEraseByNoBytes has a worn sector made blank with its last erase: it can be written once more.
func TestEraseByNoBytes(t *testing.T) {
	x := whole(1, 1)
	x.writeGives(t, 1, 0, 1, []byte{1}, uncut, api.OK)
	x.writeGives(t, 1, 0, 1, nil, uncut, api.OK)
	x.writeGives(t, 1, 0, 1, nil, uncut, api.OK)
	x.writeGives(t, 1, 0, 1, full(5, 0xff), uncut, api.OK)
	x.writeGives(t, 1, 0, 1, []byte{2}, uncut, api.OK)
	x.writeGives(t, 1, 0, 1, nil, uncut, api.ErrWorn)
}

// TestMostErases has the greatest budget there may be, and one more.
func TestMostErases(t *testing.T) {
	for _, budget := range []int{1000, 1001, math.MaxInt} {
		x := whole(1, budget)
		x.wear(t, 4, 999)
		x.lay(t, 4, []byte{1})
		x.writeGives(t, 0, 0, 1, []byte{2}, uncut, api.OK)
		x.writeGives(t, 0, 0, 1, []byte{3}, uncut, api.ErrWorn)
	}
}

// TestWhichErrorIsTold has several things against a Write at once, and a cut to come, which stays to come.
func TestWhichErrorIsTold(t *testing.T) {
	for none := range 2 {
		for long := range 2 {
			for worn := range 2 {
				for off := range 2 {
					x := whole(2, 1-worn)
					x.lay(t, 5, []byte{0})
					if off == 1 {
						x.turnOff(t)
					} else {
						x.f.Cut(0, []byte{0xff})
					}
					e := []api.Errno{api.ErrBounds, api.ErrWorn, api.ErrOff}[slices.Index([]int{none | long, worn, 1}, 1)]
					before := x.state()
					k := 1 + none
					if got := Write(x.a, 0, k, 2, make([]byte, sec+long)); got != e {
						t.Errorf("P1901: no chunk: %d, too long: %d, worn: %d, off: %d: error %d, not %d", none, long, worn, off, got, e)
					}
					if e != api.ErrOff && !same(x.state(), before) {
						t.Errorf("P1901: error %d: %s", e, differ(x.state(), before))
					}
					if e != api.ErrOff && off == 0 && x.f.Erase(0) != api.ErrOff {
						t.Errorf("P1901: error %d: the cut does not come any more", e)
					}
				}
			}
		}
	}
}

// TestWithoutPower asks all calls of a flash that is off: what is there is told; of no bytes into a blank sector nothing is asked of the flash.
func TestWithoutPower(t *testing.T) {
	x := whole(2, 1)
	x.writeGives(t, 0, 0, 2, []byte{1, 2, 3}, uncut, api.OK)
	x.turnOff(t)
	for _, b := range [][]byte{nil, {}, {0}, {1, 2, 3}, full(sec, 0xff)} {
		x.writeGives(t, 0, 0, 2, b, uncut, api.ErrOff)
		want := api.ErrOff
		if len(b) == 0 {
			want = api.OK
		}
		x.writeGives(t, 0, 1, 2, b, uncut, want)
		x.writeGives(t, 0, 2, 2, b, uncut, api.ErrBounds)
	}
	x.imagesAre(t, 2)
	x.f.Power()
	x.writeGives(t, 0, 0, 2, []byte{4}, uncut, api.OK)
}

// masks say which bits stay at a cut.
func masks() [][]byte {
	c := chance(8)
	return [][]byte{nil, {}, {0}, {0xff}, {0x80}, {1}, {0xf0, 0x0f}, {0xff, 0, 0xff}, append(full(sec-1, 0xff), 0), append(full(sec-1, 0), 0xff), c.row(7), c.row(sec), c.row(sec + 9)}
}

// TestCuts has the power go at the erase, at the program, and behind both.
func TestCuts(t *testing.T) {
	c := chance(9)
	for _, mask := range masks() {
		for n := range 4 {
			for _, was := range [][]byte{nil, {0}, c.row(sec), full(sec, 0)} {
				for _, b := range [][]byte{nil, {0}, c.row(9), c.row(sec), full(sec, 0xff), full(sec+1, 0)} {
					for _, budget := range []int{0, 1, 2} {
						x := whole(2, budget)
						x.fillAround(t, 6)
						x.lay(t, 6, was)
						x.writeIs(t, 1, 0, 2, b, cutting{n, mask})
						x.imagesAre(t, 2)
						if x.f.Off() {
							x.writeIs(t, 1, 0, 2, nil, uncut)
							x.writeIs(t, 1, 0, 2, []byte{1}, uncut)
						}
						x.f.Power()
						x.writeIs(t, 1, 0, 2, []byte{3}, uncut)
						x.imagesAre(t, 2)
					}
				}
			}
		}
	}
}

// fillAround writes something into all sectors but one.
func (x bench) fillAround(t *testing.T, but int) {
	t.Helper()
	for s := -fromSec; s < x.n+behind; s++ {
		if s != but {
			x.lay(t, s, []byte{byte(s), byte(s + 1)})
		}
	}
}

func TestCutsByNumbers(t *testing.T) {
	for i, c := range []struct {
		n     int
		mask  []byte
		is    []byte
		wears int
	}{
		{0, nil, []byte{0xff, 0xff}, 1}, {0, []byte{0xff}, []byte{0x12, 0x34}, 1}, {0, []byte{0xf0}, []byte{0x1f, 0x3f}, 1}, {0, []byte{0, 0xff}, []byte{0xff, 0x34}, 1},
		{1, nil, []byte{0xab, 0xcd}, 1}, {1, []byte{0xff}, []byte{0xff, 0xff}, 1}, {1, []byte{0xf0}, []byte{0xfb, 0xfd}, 1}, {1, []byte{0, 0xff}, []byte{0xab, 0xff}, 1},
	} {
		x := whole(1, 2)
		x.lay(t, 5, []byte{0x12, 0x34})
		ops := x.f.Ops()
		x.f.Cut(c.n, c.mask)
		if e := Write(x.a, 1, 0, 1, []byte{0xab, 0xcd}); e != api.ErrOff || x.f.Ops() != ops+c.n+1 || !x.f.Off() {
			t.Errorf("P1901: cut %d: error %d, %d operations", i, e, x.f.Ops()-ops)
		}
		if got := x.a.Read(5, 0, 2); !bytes.Equal(got, c.is) || x.f.Wear(fromSec+5) != c.wears {
			t.Errorf("P1901: cut %d: %x, wear %d", i, got, x.f.Wear(fromSec+5))
		}
	}
}

// TestRingStays has something kept in the ring, in both areas of a flash, and the slots of one of them written.
func TestRingStays(t *testing.T) {
	f := nor.New(20)
	a, other := area.New(f, api.Cap{Len: 10}, 4), area.New(f, api.Cap{From: 10, Len: 10}, 4)
	c := chance(5)
	for i, x := range []*area.Area{a, other} {
		for range 6 {
			ring.Put(x, []byte{byte(i)})
		}
		for _, ch := range layout(3) {
			Write(x, ch.slot, ch.k, 3, c.row(sec))
		}
	}
	was, kept := other.Digest(), area.New(f, api.Cap{Len: ringLen}, 4)
	ringWas := kept.Digest()
	for range 7 {
		for _, ch := range layout(3) {
			Write(a, ch.slot, ch.k, 3, c.row(c.below(sec+2)))
		}
	}
	if other.Digest() != was {
		t.Error("P1901: another area was turned")
	}
	if kept.Digest() != ringWas {
		t.Error("P1901: the ring was turned")
	}
	if n, b, ok := ring.Last(a); n != 6 || b[0] != 0 || !ok {
		t.Errorf("P1901: the ring tells %d, %v", n, ok)
	}
}

// TestImageOfEachSize asks of all sizes, of slots of each number of sectors.
func TestImageOfEachSize(t *testing.T) {
	for sectors := 1; sectors <= most; sectors++ {
		x := whole(sectors, 1)
		x.fillAll(t, sectors)
		all := string(x.f.Read(0, x.f.Len()*sec))
		for slot := range 2 {
			begin := (fromSec + ringLen + slot*sectors) * sec
			for size := -3; size <= sectors*sec+3; size++ {
				want := ""
				if size >= 1 && size <= sectors*sec {
					want = all[begin:][:size]
				}
				if got := Image(x.a, slot, sectors, size); string(got) != want {
					t.Fatalf("P1901: Image of %d bytes of slot %d of %d sectors: %d bytes", size, slot, sectors, len(got))
				}
				if size%64 < 2 || size > sectors*sec-2 {
					x.imageIs(t, slot, sectors, size, []byte(want))
				}
			}
		}
	}
}

// TestImageAtEachEdge has each edge in each place, in an area with more sectors than any slots need.
func TestImageAtEachEdge(t *testing.T) {
	x := newBench(30, 1)
	x.fillAll(t, 3)
	sizes := append(edges(), sec-1, sec, sec+1, 2*sec, 6*sec-1, 6*sec, 6*sec+1, 7*sec, 12*sec, 26*sec, 30*sec, 1<<32+sec)
	for _, slot := range edges() {
		for _, sectors := range edges() {
			for _, size := range sizes {
				want := x.image(slot, sectors, size)
				if got := Image(x.a, slot, sectors, size); !bytes.Equal(got, want) {
					t.Fatalf("P1901: Image of %d bytes of slot %d of %d sectors: %d bytes", size, slot, sectors, len(got))
				}
			}
			x.imageIs(t, slot, sectors, 1, x.image(slot, sectors, 1))
			x.imageIs(t, slot, sectors, math.MaxInt, nil)
		}
	}
}

// TestImageOfPart has areas that end within a slot; sectors of the flash behind them are not told.
func TestImageOfPart(t *testing.T) {
	for sectors := 1; sectors <= most; sectors++ {
		for n := range ringLen + 2*sectors + 1 {
			x := newBench(n, 1)
			x.fillAll(t, n)
			end := bench{n: n, budget: 1, f: nor.New(fromSec + n)}
			end.a = area.New(end.f, api.Cap{From: fromSec, Len: 50}, 1)
			for _, y := range []bench{x, end} {
				y.imagesAre(t, sectors)
			}
		}
	}
	x := newBench(8, 1)
	x.fillAll(t, 1)
	for _, c := range []struct{ slot, sectors, size, is int }{
		{0, 4, 1280, 1280}, {1, 4, 1, 0}, {1, 3, 320, 320}, {1, 3, 321, 0}, {1, 3, 960, 0}, {0, 5, 1280, 1280}, {0, 5, 1281, 0}, {0, 6, 1280, 1280}, {0, 6, 1281, 0}, {0, 6, 1920, 0}, {1, 2, 640, 640}, {1, 2, 641, 0}, {0, 2, 641, 0},
	} {
		if got := Image(x.a, c.slot, c.sectors, c.size); len(got) != c.is {
			t.Errorf("P1901: Image of %d bytes of slot %d of %d sectors in an area of 8: %d bytes", c.size, c.slot, c.sectors, len(got))
		}
	}
}

// TestImageOfWritten writes chunks in all orders, some of them short, and some not at all.
func TestImageOfWritten(t *testing.T) {
	for _, order := range [][]int{{0, 1, 2}, {0, 2, 1}, {1, 0, 2}, {1, 2, 0}, {2, 0, 1}, {2, 1, 0}, {}, {0}, {1}, {2}, {0, 2}, {2, 1}, {0, 0, 1}} {
		for _, lens := range [][3]int{{sec, sec, sec}, {sec, sec, 1}, {1, sec, sec}, {sec, 7, 0}, {0, 0, 9}, {319, 319, 319}} {
			for slot := range 2 {
				x := whole(3, 2)
				want := full(3*sec, 0xff)
				for i, k := range order {
					b := full(lens[k], byte(16*i+k+1))
					x.writeGives(t, slot, k, 3, b, uncut, api.OK)
					copy(want[k*sec:(k+1)*sec], slices.Concat(b, full(sec-len(b), 0xff)))
				}
				for _, size := range []int{1, 319, 320, 321, 639, 640, 641, 959, 960} {
					x.imageIs(t, slot, 3, size, want[:size])
					x.imageIs(t, 1-slot, 3, size, full(size, 0xff))
				}
				x.imageIs(t, slot, 3, 961, nil)
			}
		}
	}
}

func TestDigestOfNothing(t *testing.T) {
	want := sha256.Sum256(nil)
	x := whole(2, 1)
	x.fillAll(t, 2)
	for _, c := range []struct{ slot, sectors, size int }{{0, 2, 0}, {0, 2, -1}, {1, 2, 641}, {2, 2, 1}, {-1, 2, 1}, {0, 0, 1}, {0, 7, 1}, {0, -1, 1}, {0, 2, math.MinInt}, {0, 2, math.MaxInt}, {math.MaxInt, 2, 1}, {0, math.MaxInt, 1}, {math.MinInt, math.MinInt, math.MinInt}} {
		if got := Digest(x.a, c.slot, c.sectors, c.size); got != want {
			t.Errorf("P1901: Digest of %v: %x", c, got)
		}
		if got := Image(x.a, c.slot, c.sectors, c.size); len(got) != 0 {
			t.Errorf("P1901: Image of %v: %d bytes", c, len(got))
		}
	}
	if got := fmt.Sprintf("%x", Digest(x.a, 0, 2, 0)); got != "e3b0c44298fc1c149afbf4c8996fb92427ae41e4649b934ca495991b7852b855" {
		t.Errorf("P1901: Digest of no bytes: %s", got)
	}
	x = whole(2, 1)
	x.lay(t, 6, []byte("abc"))
	if got := fmt.Sprintf("%x", Digest(x.a, 1, 2, 3)); got != "ba7816bf8f01cfea414140de5dae2223b00361a396177a9cb410ff61f20015ad" {
		t.Errorf("P1901: Digest of abc: %s", got)
	}
}

// TestLongRun draws writes, cuts, power, and others' erases, and holds all that is asked against what is reckoned by the flash alone.
func TestLongRun(t *testing.T) {
	for seed := range 60 {
		c := chance(seed)
		sectors := 1 + c.below(most)
		x := newBench(ringLen+c.below(2*sectors+3), c.one([]int{0, 1, 3, 9}))
		for range 80 {
			slot, k := c.below(2), c.below(sectors)
			if c.below(9) == 0 {
				slot, k = c.below(4)-1, c.below(sectors+2)-1
			}
			b := c.row(c.one([]int{0, 1, c.below(sec), sec - 1, sec, sec, sec + 1}))
			switch c.below(10) {
			case 0:
				x.writeIs(t, slot, k, sectors, b, cutting{c.below(2), c.row(c.below(5))})
			case 1, 2:
				x.f.Power()
			case 3:
				x.f.Erase(c.below(x.f.Len()))
			default:
				x.f.Power()
				x.writeIs(t, slot, k, sectors, b, uncut)
			}
			size := c.below(sectors*sec + 9)
			x.imageIs(t, slot, sectors, size, x.image(slot, sectors, size))
		}
	}
}

// noArea fails unless all calls answer of a as where there is no chunk.
func noArea(t *testing.T, a *area.Area) {
	t.Helper()
	for _, slot := range edges() {
		for _, k := range edges() {
			for _, n := range []int{math.MinInt, -1, 0, 1, 2, 6, 7, 320, 1920, math.MaxInt} {
				if May(a, slot, k, n) {
					t.Fatalf("P1902: May of chunk %d of slot %d of %d sectors", k, slot, n)
				}
				for _, b := range [][]byte{nil, {}, {1}, full(sec, 1), full(sec+1, 1)} {
					if e := Write(a, slot, k, n, b); e != api.ErrBounds {
						t.Fatalf("P1902: Write of %d bytes to chunk %d of slot %d of %d sectors: error %d", len(b), k, slot, n, e)
					}
				}
				if b := Image(a, slot, k, n); len(b) != 0 {
					t.Fatalf("P1902: Image of %d bytes of slot %d of %d sectors: %d bytes", n, slot, k, len(b))
				}
			}
		}
	}
	if Digest(a, 0, 1, 1) != sha256.Sum256(nil) || Digest(a, 1, 6, 1920) != sha256.Sum256(nil) || Digest(a, 9, -1, 0) != sha256.Sum256(nil) {
		t.Error("P1902: Digest is not the one of no bytes")
	}
}

func TestNilArea(t *testing.T) { noArea(t, nil) }

// TestAreasOfNoSectors has areas that are there, but have no sectors: what can't be written there is worn.
func TestAreasOfNoSectors(t *testing.T) {
	for i, a := range []*area.Area{
		new(area.Area), area.New(nil, api.Cap{Len: 9}, 9), area.New(nor.New(0), api.Cap{Len: 9}, 9), area.New(nor.New(9), api.Cap{}, 9), area.New(nor.New(9), api.Cap{From: -1, Len: 9}, 9), area.New(nor.New(9), api.Cap{From: 9, Len: 9}, 9),
	} {
		for sectors := 1; sectors <= most; sectors++ {
			for _, ch := range layout(sectors) {
				if May(a, ch.slot, ch.k, sectors) || Write(a, ch.slot, ch.k, sectors, nil) != api.ErrWorn || Write(a, ch.slot, ch.k, sectors, full(sec, 0)) != api.ErrWorn || Write(a, ch.slot, ch.k, sectors, full(sec+1, 0)) != api.ErrBounds {
					t.Fatalf("P1901: area %d, which has no sectors", i)
				}
			}
			if len(Image(a, 0, sectors, 1)) != 0 || len(Image(a, 1, sectors, sec)) != 0 || Digest(a, 1, sectors, 1) != sha256.Sum256(nil) {
				t.Fatalf("P1901: Image of area %d, which has no sectors", i)
			}
		}
	}
}

// inRow lays b into a row with other bytes on both sides, the spare room of the part among them.
func inRow(b []byte) (row, part []byte) {
	row = slices.Concat(full(9, 0xa5), b, full(sec+9, 0x5a))
	return row, row[9 : 9+len(b)]
}

// TestHandedInStays writes rows that have memory ahead of and behind them, with each outcome.
func TestHandedInStays(t *testing.T) {
	c := chance(6)
	for _, n := range []int{0, 1, 2, sec - 1, sec, sec + 1} {
		for _, cut := range []cutting{uncut, {0, []byte{0x5a}}, {1, nil}, {1, []byte{0xff, 3}}} {
			for _, budget := range []int{0, 2} {
				for _, was := range [][]byte{nil, {0}} {
					x := whole(1, budget)
					x.lay(t, 4, was)
					row, part := inRow(c.row(n))
					before := bytes.Clone(row)
					x.writeIs(t, 0, 0, 1, part, cut)
					Image(x.a, 0, 1, n)
					if !bytes.Equal(row, before) {
						t.Fatalf("P1902: Write of %d bytes, budget %d: what was handed in was turned", n, budget)
					}
				}
			}
		}
	}
}

// TestNotKept turns what was written behind the Write.
func TestNotKept(t *testing.T) {
	c := chance(7)
	for _, n := range []int{1, 100, sec} {
		x := whole(1, 2)
		for range 3 {
			b := c.row(n)
			want := bytes.Clone(b)
			x.writeGives(t, 0, 0, 1, b, uncut, api.OK)
			flip(b)
			x.imageIs(t, 0, 1, n, want)
		}
	}
}

// flip turns all of b in place, its spare room too.
func flip(b []byte) {
	room := b[:cap(b)]
	for i := range room {
		room[i] ^= 0x55
	}
}

// TestNewMemory turns what Image answered, in and behind its length, and asks again.
func TestNewMemory(t *testing.T) {
	x := whole(2, 2)
	x.fillAll(t, 8)
	before := x.state()
	for _, size := range []int{1, 5, sec - 1, sec, sec + 1, 2*sec - 1, 2 * sec} {
		want := x.image(1, 2, size)
		first, second := Image(x.a, 1, 2, size), Image(x.a, 1, 2, size)
		flip(first)
		if !bytes.Equal(second, want) {
			t.Errorf("P1902: two Images of %d bytes share memory", size)
		}
		if !same(x.state(), before) {
			t.Errorf("P1902: an Image of %d bytes shares memory with the flash", size)
		}
		x.imageIs(t, 1, 2, size, want)
	}
	got := Image(x.a, 1, 2, 2*sec)
	was := bytes.Clone(got)
	x.writeGives(t, 1, 0, 2, full(sec, 0), uncut, api.OK)
	x.writeGives(t, 1, 1, 2, full(sec, 0), uncut, api.OK)
	if !bytes.Equal(got, was) {
		t.Error("P1902: an Image was turned by a Write")
	}
}

// answers are what the calls that turn nothing tell of slots of two sectors, as text.
func answers(a *area.Area) string {
	out := ""
	for _, ch := range layout(2) {
		out += fmt.Sprint(From(ch.slot, ch.k, 2), May(a, ch.slot, ch.k, 2), " ")
	}
	for slot := range 2 {
		for _, size := range []int{1, sec, sec + 1, 2 * sec} {
			out += fmt.Sprintf("%x %x ", Image(a, slot, 2, size), Digest(a, slot, 2, size))
		}
	}
	return out
}

// TestNothingIsKept asks of two areas in turn, one of which is written in between, of a new area of the same sectors, and of a twin that was told the same.
func TestNothingIsKept(t *testing.T) {
	x, y, twin := whole(2, 3), whole(2, 0), whole(2, 3)
	c := chance(3)
	y.fillAll(t, 1)
	still := answers(y.a)
	for i := range 20 {
		slot, k, b := c.below(2), c.below(2), c.row(c.below(sec+2))
		e := Write(x.a, slot, k, 2, b)
		if i%3 == 0 {
			Write(y.a, slot, k, 2, b)
			Write(nil, slot, k, 2, b)
			answers(nil)
			From(c.below(9), c.below(9), c.below(9))
		}
		if got := Write(twin.a, slot, k, 2, b); got != e || !same(x.state(), twin.state()) {
			t.Fatalf("P1902: Write %d: error %d, of a twin %d", i, e, got)
		}
		again := area.New(x.f, api.Cap{From: fromSec, Len: x.n}, 3)
		if got := answers(x.a); got != answers(again) || got != answers(twin.a) {
			t.Fatalf("P1902: step %d: a new area of the same sectors, or a twin, answers otherwise", i)
		}
		if answers(y.a) != still {
			t.Fatalf("P1902: step %d: another flash was turned", i)
		}
	}
}

// TestTwoWays has slots of other numbers of sectors in one area: a call goes by what it is told.
func TestTwoWays(t *testing.T) {
	x := newBench(ringLen+2*most, 2)
	c := chance(2)
	for range 3 {
		for sectors := 1; sectors <= most; sectors++ {
			for _, ch := range layout(sectors) {
				x.writeIs(t, ch.slot, ch.k, sectors, c.row(1+c.below(sec)), uncut)
			}
			for other := 1; other <= most; other++ {
				x.imagesAre(t, other)
			}
		}
	}
}

// TestAtOnce asks of one area, and writes areas that have no sector in common, from several goroutines.
func TestAtOnce(t *testing.T) {
	x := whole(2, 3)
	x.fillAll(t, 5)
	want := answers(x.a)
	got, wrote := make([]string, 8), make([]string, 8)
	var all sync.WaitGroup
	for i := range got {
		all.Go(func() {
			for range 10 {
				got[i] = answers(x.a)
			}
			y := whole(2, 3)
			c := chance(99)
			for range 30 {
				Write(y.a, c.below(2), c.below(2), 2, c.row(c.below(sec+1)))
			}
			wrote[i] = answers(y.a)
		})
	}
	all.Wait()
	for i := range got {
		if got[i] != want || wrote[i] != wrote[0] {
			t.Errorf("P1902: asked at once: %d answers otherwise", i)
		}
	}
}
