package ring

import (
	"bytes"
	"fmt"
	"math"
	"slices"
	"testing"

	"waterline/api"
	"waterline/area"
	"waterline/cell"
	"waterline/dual"
	"waterline/nor"
)

const (
	sec     = api.Sector
	maxSeq  = math.MaxInt32
	fromSec = 2 // where the areas of the tests begin in their flashes
)

// chance makes numbers, the same ones at each run.
type chance uint64

func (c *chance) next() uint32 {
	*c = *c*6364136223846793005 + 1442695040888963407
	return uint32(*c >> 32)
}

// below makes a number of 0 to n-1.
func (c *chance) below(n int) int { return int(c.next() % uint32(n)) }

func (c *chance) row(n int) []byte {
	out := make([]byte, n)
	for i := range out {
		out[i] = byte(c.next() >> 20)
	}
	return out
}

func full(n int, x byte) []byte { return bytes.Repeat([]byte{x}, n) }

// padded makes b as long as a cell's load, by bytes 0.
func padded(b []byte) []byte { return slices.Concat(b, make([]byte, api.Load-len(b))) }

// turned turns all of b in place, its spare room too.
func turned(b []byte) {
	room := b[:cap(b)]
	for i := range room {
		room[i] ^= 0x55
	}
}

// bench is a flash, and an area of n of its sectors with others on both sides.
type bench struct {
	f *nor.Flash
	a *area.Area
}

func newBench(n, budget int) bench {
	f := nor.New(fromSec + n + 2)
	return bench{f: f, a: area.New(f, api.Cap{From: fromSec, Len: n}, budget)}
}

// lay writes b at the beginning of a sector of the area, by the flash alone.
func (x bench) lay(t *testing.T, sector int, b []byte) {
	t.Helper()
	if e := x.f.Program((fromSec+sector)*sec, b); e != api.OK {
		t.Fatalf("Program of %d bytes into sector %d: %d", len(b), sector, e)
	}
}

// layCell writes the cell of seq and b into a sector of the area.
func (x bench) layCell(t *testing.T, sector, seq int, b []byte) {
	t.Helper()
	c, e := cell.Put(seq, b)
	if e != api.OK {
		t.Fatalf("no cell of seq %d: %d", seq, e)
	}
	x.lay(t, sector, c)
}

// wear erases a blank sector of the area n times.
func (x bench) wear(t *testing.T, sector, n int) {
	t.Helper()
	for range n {
		if e := x.f.Erase(fromSec + sector); e != api.OK {
			t.Fatalf("Erase: %d", e)
		}
	}
}

// turnOff makes the flash one that is off, and turns nothing else of it but its ops.
func (x bench) turnOff(t *testing.T) {
	t.Helper()
	x.f.Cut(0, []byte{0xff})
	if e := x.f.Program(0, nil); e != api.ErrOff || !x.f.Off() {
		t.Fatalf("a cut: %d", e)
	}
}

// state is all that can be asked of a flash, but its ops.
type state struct {
	sectors []string
	wears   []int
	off     bool
}

func (x bench) state() state {
	s := state{off: x.f.Off()}
	for i := range x.f.Len() {
		s.sectors = append(s.sectors, string(x.f.Read(i*sec, sec)))
		s.wears = append(s.wears, x.f.Wear(i))
	}
	return s
}

func same(a, b state) bool {
	return slices.Equal(a.sectors, b.sectors) && slices.Equal(a.wears, b.wears) && a.off == b.off
}

// told fails unless Last tells seq and load, and Next is next.
func (x bench) told(t *testing.T, promise string, seq int, load []byte, next int) {
	t.Helper()
	n, b, ok := Last(x.a)
	if n != seq || ok != (seq > 0) || !bytes.Equal(b, load) {
		t.Fatalf("%s: Last: %d, %d bytes %x, %v, not %d, %x", promise, n, len(b), b, ok, seq, load)
	}
	if got := Next(x.a); got != next {
		t.Fatalf("%s: Next behind seq %d: %d, not %d", promise, seq, got, next)
	}
}

// reckoned tells by the flash alone what Last and Next should be: the cells are laid in order, and the best one is taken.
func (x bench) reckoned() (seq int, load []byte, next int) {
	type found struct {
		seq, sector int
		load        []byte
	}
	var all []found
	for s := range api.RingLen {
		if n, b, ok := cell.Get(x.f.Read((fromSec+s)*sec, sec)); ok {
			all = append(all, found{n, s, b})
		}
	}
	if len(all) == 0 {
		return 0, nil, 0
	}
	slices.SortStableFunc(all, func(a, b found) int { return b.seq - a.seq })
	next = all[0].sector + 1
	if next == api.RingLen {
		next = 0
	}
	return all[0].seq, all[0].load, next
}

// putGoes fails unless Put of b goes through, does just what it should, and is told behind it.
func (x bench) putGoes(t *testing.T, promise string, b []byte) {
	t.Helper()
	seq, load, next := x.reckoned()
	x.told(t, promise, seq, load, next)
	if !May(x.a) {
		t.Fatalf("%s: May behind seq %d is false", promise, seq)
	}
	want, ops := x.state(), x.f.Ops()
	c, e := cell.Put(seq+1, b)
	if e != api.OK {
		t.Fatalf("no cell of seq %d: %d", seq+1, e)
	}
	erases := 0
	if !x.f.Blank(fromSec + next) {
		erases = 1
	}
	want.sectors[fromSec+next] = string(c)
	want.wears[fromSec+next] += erases
	if e := Put(x.a, b); e != api.OK {
		t.Fatalf("%s: Put of %d bytes behind seq %d: error %d", promise, len(b), seq, e)
	}
	if got := x.state(); !same(got, want) || x.f.Ops() != ops+erases+1 {
		t.Fatalf("%s: Put of %d bytes behind seq %d into sector %d: %d operations, or not these sectors and wears: %v", promise, len(b), seq, next, x.f.Ops()-ops, got.wears)
	}
	x.told(t, promise, seq+1, padded(b), (next+1)%api.RingLen)
}

// putRefused fails unless Put of b answers e, and nothing is turned.
func (x bench) putRefused(t *testing.T, b []byte, e api.Errno) {
	t.Helper()
	before, ops := x.state(), x.f.Ops()
	if got := Put(x.a, b); got != e {
		t.Fatalf("P1101: Put of %d bytes: error %d, not %d", len(b), got, e)
	}
	if !same(x.state(), before) || x.f.Ops() != ops {
		t.Fatalf("P1101: Put of %d bytes was refused (%d), and something was turned", len(b), e)
	}
}

// noRing fails unless all four calls answer as for an area without a ring.
func noRing(t *testing.T, promise, which string, a *area.Area) {
	t.Helper()
	if seq, b, ok := Last(a); seq != 0 || len(b) != 0 || ok {
		t.Errorf("%s: Last of %s: %d, %d bytes, %v", promise, which, seq, len(b), ok)
	}
	if n := Next(a); n != 0 {
		t.Errorf("%s: Next of %s: %d", promise, which, n)
	}
	if May(a) {
		t.Errorf("%s: May of %s", promise, which)
	}
	for _, n := range []int{0, 1, api.Load, api.Load + 1, 999} {
		if e := Put(a, make([]byte, n)); e != api.ErrBounds {
			t.Errorf("%s: Put of %d bytes into %s: error %d", promise, n, which, e)
		}
	}
	if e := Put(a, nil); e != api.ErrBounds {
		t.Errorf("%s: Put of nil into %s: error %d", promise, which, e)
	}
}

func TestExample(t *testing.T) {
	x := newBench(api.RingLen, 1)
	x.told(t, "P1101", 0, nil, 0)
	if !May(x.a) {
		t.Error("P1101: May of a blank area is false")
	}
}

func TestLimits(t *testing.T) {
	if api.RingLen != 4 || api.Load != 156 || sec != 320 {
		t.Fatal("the limits are others")
	}
}

func TestNoArea(t *testing.T) {
	noRing(t, "P1102", "a nil area", nil)
	noRing(t, "P1101", "a declared area", new(area.Area))
	noRing(t, "P1101", "an area of a nil flash", area.New(nil, api.Cap{Len: 9}, 9))
	noRing(t, "P1101", "an area of a flash of no sectors", area.New(nor.New(0), api.Cap{Len: 9}, 9))
	noRing(t, "P1101", "an area from below 0 on", area.New(nor.New(9), api.Cap{From: -1, Len: 9}, 9))
}

// TestFewSectors has areas with cells in all their sectors, blank ones, and some that are cut away at the flash's end.
func TestFewSectors(t *testing.T) {
	for n := range api.RingLen {
		for _, budget := range []int{0, 9} {
			for _, cells := range []int{0, n} {
				x := newBench(n, budget)
				for s := range cells {
					x.layCell(t, s, s+1, []byte{1})
				}
				short := area.New(x.f, api.Cap{From: x.f.Len() - n, Len: 100}, budget)
				before, ops := x.state(), x.f.Ops()
				which := fmt.Sprintf("an area of %d sectors", n)
				noRing(t, "P1101", which, x.a)
				noRing(t, "P1101", which+" that was cut", short)
				if !same(x.state(), before) || x.f.Ops() != ops {
					t.Errorf("P1101: something of %s was turned", which)
				}
				x.turnOff(t)
				noRing(t, "P1101", which+" that is off", x.a)
			}
		}
	}
}

// TestMoreSectors has cells of great seqs behind the ring's sectors, and ahead of and behind the area's.
func TestMoreSectors(t *testing.T) {
	for _, n := range []int{api.RingLen, api.RingLen + 1, 2 * api.RingLen, 2*api.RingLen + 3, 100} {
		for _, budget := range []int{1, 3} {
			x := newBench(n, budget)
			for s := -fromSec; s < n+2; s++ {
				if s < 0 || s >= api.RingLen {
					x.layCell(t, s, maxSeq-s-fromSec, []byte{byte(s)})
				}
			}
			c := chance(n)
			for range api.RingLen * (budget + 1) {
				x.putGoes(t, "P1101", c.row(c.below(api.Load+1)))
			}
			x.putRefused(t, nil, api.ErrWorn)
		}
	}
}

// noCell is what may lie at the beginning of a sector that is no cell.
type noCell struct {
	which string
	b     []byte
}

func noCells(t *testing.T) []noCell {
	t.Helper()
	c := chance(3)
	good, _ := cell.Put(1<<30, c.row(api.Load))
	out := []noCell{
		{"zeros", full(sec, 0)},
		{"one byte", []byte{0}},
		{"drawn", c.row(sec)},
		{"half", good[:sec/2]},
		{"all but one byte", append(bytes.Clone(good[:sec-1]), ^good[sec-1])},
		{"last byte", append(full(sec-1, 0xff), 0)},
		{"shifted", slices.Concat(good[1:], good[:1])},
	}
	for i := range 8 * sec {
		b := bytes.Clone(good)
		b[i/8] ^= 1 << (i % 8)
		if i%97 == 0 || i == 8*sec-1 {
			out = append(out, noCell{fmt.Sprint("bit ", i), b})
		}
	}
	for _, seq := range []uint32{0, 1 << 31, 1<<31 + 1, math.MaxUint32 - 1, math.MaxUint32} {
		head := []byte{byte(seq >> 24), byte(seq >> 16), byte(seq >> 8), byte(seq)}
		out = append(out, noCell{fmt.Sprint("seq ", seq), dual.Put(append(head, c.row(api.Load)...))})
	}
	return out
}

func TestOneCell(t *testing.T) {
	for s := range api.RingLen {
		for _, seq := range []int{1, 2, 255, 256, 1 << 16, 1 << 24, maxSeq - 1, maxSeq} {
			for _, b := range [][]byte{nil, {7}, full(api.Load, 0xff), full(api.Load, 0), full(api.Load-1, 3)} {
				x := newBench(api.RingLen, 1)
				x.layCell(t, s, seq, b)
				x.told(t, "P1101", seq, padded(b), []int{1, 2, 3, 0}[s])
			}
		}
	}
}

// TestSeveralCells has each choice of some seqs, of which two or more may be the same, for the sectors: 0 is a blank one, below 0 no cell.
func TestSeveralCells(t *testing.T) {
	seqs := []int{-1, 0, 1, 2, 3, maxSeq - 1, maxSeq}
	n := len(seqs)
	for i := range n * n * n * n {
		row := [api.RingLen]int{seqs[i%n], seqs[i/n%n], seqs[i/n/n%n], seqs[i/n/n/n]}
		x := newBench(api.RingLen+1, 2)
		best, next := 0, 0
		for s, seq := range row {
			if seq > 0 {
				x.layCell(t, s, seq, []byte{byte(s), byte(seq)})
			} else if seq < 0 {
				x.lay(t, s, []byte{0x7f})
			}
			if seq > best {
				best, next = seq, s+1
			}
		}
		var load []byte
		if best > 0 {
			load = padded([]byte{byte(next - 1), byte(best)})
		}
		x.told(t, "P1101", best, load, next%api.RingLen)
		if May(x.a) != (best != maxSeq) {
			t.Fatalf("P1101: May of %d", row)
		}
		if best == maxSeq {
			x.putRefused(t, nil, api.ErrWorn)
		} else {
			x.putGoes(t, "P1101", []byte{1, 2, 3})
		}
	}
}

// TestSameSeq has the same seq in all choices of sectors: the first one's is told.
func TestSameSeq(t *testing.T) {
	for set := 1; set < 1<<api.RingLen; set++ {
		x := newBench(api.RingLen, 1)
		first := -1
		for s := range api.RingLen {
			if set>>s&1 == 0 {
				x.layCell(t, s, 8, []byte{99})
				continue
			}
			x.layCell(t, s, 9, []byte{byte(s)})
			if first < 0 {
				first = s
			}
		}
		x.told(t, "P1101", 9, padded([]byte{byte(first)}), (first+1)%api.RingLen)
		x.putGoes(t, "P1101", []byte{50})
	}
}

// TestNoCells has sectors that are no cells, alone and beside cells.
func TestNoCells(t *testing.T) {
	for _, n := range noCells(t) {
		for s := range api.RingLen {
			x := newBench(api.RingLen, 1)
			x.lay(t, s, n.b)
			x.told(t, "P1101", 0, nil, 0)
			x.putGoes(t, "P1101", []byte(n.which))

			x = newBench(api.RingLen, 1)
			x.lay(t, s, n.b)
			for i := range api.RingLen - 1 {
				x.layCell(t, (s+1+i)%api.RingLen, i+5, []byte{byte(i)})
			}
			x.told(t, "P1101", 7, padded([]byte{2}), s)
			x.putGoes(t, "P1101", []byte(n.which))
		}
	}
}

// TestMay has a Next that is blank, a cell or no cell, with erases left and without, in each sector; where it has erases left the other sectors have none, and the other way round.
func TestMay(t *testing.T) {
	for next := range api.RingLen {
		for _, left := range []int{0, 1, 2} {
			for _, kind := range []string{"blank", "cell", "no cell"} {
				for _, seq := range []int{1, 77, maxSeq - 2, maxSeq - 1, maxSeq} {
					x := newBench(api.RingLen, 2)
					for s := range api.RingLen {
						if s == next {
							x.wear(t, s, 2-left)
						} else if left > 0 {
							x.wear(t, s, 2)
						}
					}
					x.layCell(t, (next+3)%api.RingLen, seq, []byte{5})
					if kind == "cell" {
						x.layCell(t, next, 1, []byte{6})
					} else if kind == "no cell" {
						x.lay(t, next, []byte{0xfe})
					}
					if kind == "cell" && seq == 1 && next == 0 {
						continue // of two of the same seq it is the first
					}
					x.told(t, "P1101", seq, padded([]byte{5}), next)
					x.mayOrNot(t, (kind == "blank" || left > 0) && seq < maxSeq)
				}
			}
		}
	}
}

// TestMayWithoutCell has no cell at all: the first sector is next.
func TestMayWithoutCell(t *testing.T) {
	for _, left := range []int{0, 1} {
		for _, b := range [][]byte{nil, {0}, append(full(sec-1, 0xff), 0xfe)} {
			for others := range 2 {
				x := newBench(api.RingLen, 1)
				x.wear(t, 0, 1-left)
				for s := 1; s < api.RingLen; s++ {
					x.wear(t, s, others)
				}
				if b != nil {
					x.lay(t, 0, b)
				}
				x.told(t, "P1101", 0, nil, 0)
				x.mayOrNot(t, b == nil || left > 0)
			}
		}
	}
}

// mayOrNot fails unless May is want, and Put goes with it.
func (x bench) mayOrNot(t *testing.T, want bool) {
	t.Helper()
	before, ops := x.state(), x.f.Ops()
	if May(x.a) != want {
		t.Fatalf("P1101: May is not %v", want)
	}
	if !same(x.state(), before) || x.f.Ops() != ops {
		t.Fatal("P1101: May turned something")
	}
	if want {
		x.putGoes(t, "P1101", []byte{9})
	} else {
		x.putRefused(t, []byte{9}, api.ErrWorn)
	}
}

// TestPutLengths has b of all lengths that are allowed, and some that are not.
func TestPutLengths(t *testing.T) {
	c := chance(4)
	x := newBench(api.RingLen+1, 1000)
	x.putGoes(t, "P1101", nil)
	for n := range api.Load + 1 {
		x.putGoes(t, "P1101", c.row(n))
		x.putGoes(t, "P1101", full(n, 0xff))
	}
	for _, n := range []int{api.Load + 1, api.Load + 2, 160, 255, 256, 312, sec - 1, sec, sec + 1, 1000, 1 << 16, 1<<16 + 1, 1 << 20} {
		x.putRefused(t, c.row(n), api.ErrLong)
		x.putRefused(t, make([]byte, n), api.ErrLong)
	}
}

// TestPutErrors has each cause alone, and several at once: the one that is named first is told.
func TestPutErrors(t *testing.T) {
	for causes := range 1 << 4 {
		few, long, worn, off := causes&1 != 0, causes&2 != 0, causes&4 != 0, causes&8 != 0
		for _, bySeq := range []bool{false, true} {
			want, sectors, seq, b := api.OK, api.RingLen, 5, []byte{1}
			if off {
				want = api.ErrOff
			}
			if worn {
				want = api.ErrWorn
				if bySeq {
					seq = maxSeq
				}
			}
			if long {
				want, b = api.ErrLong, make([]byte, api.Load+1)
			}
			if few {
				want, sectors = api.ErrBounds, api.RingLen-1
			}
			x := newBench(sectors, 1)
			x.layCell(t, 0, seq, []byte{1})
			if worn && !bySeq {
				x.wear(t, 1, 1)
				x.lay(t, 1, []byte{0})
			}
			if off {
				x.turnOff(t)
			}
			if want == api.OK {
				x.putGoes(t, "P1101", b)
			} else {
				x.putRefused(t, b, want)
			}
		}
	}
}

// TestOff has a flash that is off: what is there is still told, and Put answers ErrOff, over a blank Next and over one that is not.
func TestOff(t *testing.T) {
	for puts := range 3 * api.RingLen {
		x := newBench(api.RingLen, 9)
		for i := range puts {
			x.putGoes(t, "P1101", []byte{byte(i)})
		}
		seq, load, next := x.reckoned()
		x.turnOff(t)
		x.told(t, "P1101", seq, load, next)
		if !May(x.a) {
			t.Error("P1101: May of a flash that is off")
		}
		x.putRefused(t, []byte{1}, api.ErrOff)
		x.putRefused(t, nil, api.ErrOff)
		x.f.Power()
		x.putGoes(t, "P1101", []byte{2})
	}
}

// TestTillWornOut goes round as often as the budget says, and once for the blank sectors.
func TestTillWornOut(t *testing.T) {
	c := chance(5)
	for _, budget := range []int{-1, 0, 1, 2, 7, 150, 1000, 1001} {
		x := newBench(api.RingLen+1, budget)
		puts := api.RingLen * (min(max(budget, 0), api.MaxBudget) + 1)
		var b []byte
		for i := range puts {
			b = c.row(c.below(api.Load + 1))
			x.putGoes(t, "P1101", b)
			if seq, _, _ := Last(x.a); seq != i+1 {
				t.Fatalf("P1101: seq %d of Put %d", seq, i)
			}
		}
		for range 3 {
			x.mayOrNot(t, false)
			x.putRefused(t, make([]byte, api.Load+1), api.ErrLong)
			x.told(t, "P1101", puts, padded(b), 0)
		}
	}
}

// TestLastSeqs goes up to the greatest seq, from each sector on.
func TestLastSeqs(t *testing.T) {
	for s := range api.RingLen {
		x := newBench(api.RingLen, 9)
		x.layCell(t, s, maxSeq-6, nil)
		for i := range 6 {
			x.putGoes(t, "P1101", []byte{byte(i)})
		}
		x.told(t, "P1101", maxSeq, padded([]byte{5}), (s+7)%api.RingLen)
		x.mayOrNot(t, false)
	}
}

// TestNothingTurns asks all that only tells.
func TestNothingTurns(t *testing.T) {
	for puts := range 10 {
		x := newBench(api.RingLen, 9)
		for range puts {
			x.putGoes(t, "P1101", []byte{1})
		}
		before, ops := x.state(), x.f.Ops()
		Last(x.a)
		Next(x.a)
		May(x.a)
		if !same(x.state(), before) || x.f.Ops() != ops {
			t.Error("P1102: Last, Next or May turned something")
		}
	}
}

// cutPut cuts a Put of b at its operation op, and fails unless Last, with power again, tells what it told ahead or what was Put. It answers whether it is the latter.
func (x bench) cutPut(t *testing.T, op int, mask, b []byte) bool {
	t.Helper()
	seq, load, next := x.reckoned()
	before := x.state()
	x.f.Cut(op, mask)
	e := Put(x.a, b)
	if e != api.ErrOff || !x.f.Off() {
		t.Fatalf("P1102: a Put that was cut at %d: error %d", op, e)
	}
	during, _, _ := Last(x.a)
	x.f.Power()
	after := x.state()
	before.sectors[fromSec+next], before.wears[fromSec+next] = after.sectors[fromSec+next], after.wears[fromSec+next]
	if !same(after, before) {
		t.Fatalf("P1102: a Put that was cut at %d turned other sectors than %d", op, next)
	}
	c, _ := cell.Put(seq+1, b)
	done := after.sectors[fromSec+next] == string(c)
	if done {
		seq, load, next = seq+1, padded(b), (next+1)%api.RingLen
	}
	x.told(t, "P1102", seq, load, next)
	if during != seq {
		t.Fatalf("P1102: Last told %d ahead of power, and %d behind it", during, seq)
	}
	return done
}

// ops is how many operations the next Put takes.
func (x bench) ops() int {
	_, _, next := x.reckoned()
	if x.f.Blank(fromSec + next) {
		return 1
	}
	return 2
}

// afterPuts makes a ring into which that much was put.
func afterPuts(t *testing.T, puts int) bench {
	t.Helper()
	x := newBench(api.RingLen, 1000)
	c := chance(puts)
	for range puts {
		if e := Put(x.a, c.row(c.below(api.Load+1))); e != api.OK {
			t.Fatalf("P1101: Put: %d", e)
		}
	}
	return x
}

// TestCutOfAllOrNone has the masks by which all bits turn, or none.
func TestCutOfAllOrNone(t *testing.T) {
	for puts := range 3 * api.RingLen {
		for op := range afterPuts(t, puts).ops() {
			for _, mask := range [][]byte{nil, {}, {0}, full(sec, 0), {0xff}, full(sec, 0xff), full(2*sec, 0xff)} {
				x := afterPuts(t, puts)
				all := len(mask) == 0 || mask[0] == 0
				last := op == x.ops()-1
				if done := x.cutPut(t, op, mask, []byte("some")); done != (all && last) {
					t.Fatalf("P1102: a Put behind %d others, cut at %d: %v", puts, op, done)
				}
				x.putGoes(t, "P1102", []byte("more"))
			}
		}
	}
}

// TestCutAtEachBit has masks by which one bit alone stays, or turns.
func TestCutAtEachBit(t *testing.T) {
	c := chance(6)
	for _, puts := range []int{0, 3, 4, 6} {
		x := afterPuts(t, puts)
		for i := range 8 * sec {
			for _, rest := range []byte{0, 0xff} {
				mask := full(sec, rest)
				mask[i/8] ^= 1 << (i % 8)
				op := i % x.ops()
				x.cutPut(t, op, mask, c.row(i%(api.Load+1)))
			}
			if x.f.Wear(fromSec+Next(x.a)) > 990 {
				x = afterPuts(t, puts)
			}
			if i%5 == 0 {
				x.putGoes(t, "P1102", c.row(9))
			}
		}
	}
}

// TestCutFreshAtEachBit has one cut of a Put into a ring that is as it should be, at each bit.
func TestCutFreshAtEachBit(t *testing.T) {
	for _, puts := range []int{0, 5} {
		for op := range afterPuts(t, puts).ops() {
			for i := range 8 * sec {
				for _, rest := range []byte{0, 0xff} {
					x := afterPuts(t, puts)
					mask := full(sec, rest)
					mask[i/8] ^= 1 << (i % 8)
					x.cutPut(t, op, mask, full(api.Load, 0x5a))
					if i%16 == 0 {
						x.putGoes(t, "P1102", []byte("more"))
					}
				}
			}
		}
	}
}

// drawnMask has few or many bits, and may be shorter or longer than a sector.
func drawnMask(c *chance) []byte {
	mask, turn := c.row(1+c.below(2*sec)), byte(-c.below(2))
	for dense := c.below(8); dense > 0; dense-- {
		for i := range mask {
			mask[i] &= byte(c.next() >> 20)
		}
	}
	for i := range mask {
		mask[i] ^= turn
	}
	return mask
}

// TestCutAgainAndAgain has drawn masks; between the cuts some Puts go through.
func TestCutAgainAndAgain(t *testing.T) {
	c := chance(7)
	for range 100 {
		x := afterPuts(t, c.below(10))
		for range 1 + c.below(40) {
			b := c.row(c.below(api.Load + 1))
			if c.below(4) == 0 {
				x.putGoes(t, "P1102", b)
			} else {
				x.cutPut(t, c.below(x.ops()), drawnMask(&c), b)
			}
		}
		x.putGoes(t, "P1102", c.row(c.below(api.Load+1)))
	}
}

// TestCutBehindIt has a cut that comes only behind the Put: it goes through.
func TestCutBehindIt(t *testing.T) {
	for puts := range 9 {
		x := afterPuts(t, puts)
		x.f.Cut(x.ops(), []byte{0x0f})
		x.putGoes(t, "P1102", []byte("some"))
		x.cutPut(t, 0, []byte{0x0f}, []byte("more"))
		x.putGoes(t, "P1102", []byte("most"))
	}
}

// TestCutTillWornOut has cuts till no erase is left: what is kept stays, and is told.
func TestCutTillWornOut(t *testing.T) {
	c := chance(8)
	for _, budget := range []int{0, 1, 2, 5, 30} {
		for range 20 {
			x := newBench(api.RingLen, budget)
			for steps := 0; May(x.a); steps++ {
				if steps > 10*api.RingLen*(budget+1) {
					t.Fatal("P1102: it is never worn out")
				}
				b := c.row(c.below(api.Load + 1))
				if c.below(3) == 0 {
					x.putGoes(t, "P1102", b)
				} else {
					x.cutPut(t, c.below(x.ops()), drawnMask(&c), b)
				}
			}
			seq, load, next := x.reckoned()
			x.putRefused(t, []byte{1}, api.ErrWorn)
			x.told(t, "P1102", seq, load, next)
			for s := range api.RingLen {
				if n := x.f.Wear(fromSec + s); n > budget {
					t.Fatalf("P1101: sector %d was erased %d times, not %d", s, n, budget)
				}
			}
		}
	}
}

// TestHandedInStays looks at the rows and at the memory on both their sides, which must neither be turned nor be read.
func TestHandedInStays(t *testing.T) {
	c := chance(9)
	for _, n := range []int{0, 1, 2, api.Load - 1, api.Load, api.Load + 1, sec, 1000} {
		for puts := range 6 {
			room := c.row(200 + n + 400)
			before := bytes.Clone(room)
			x := afterPuts(t, puts)
			if n > api.Load {
				x.putRefused(t, room[200:200+n], api.ErrLong)
			} else {
				x.putGoes(t, "P1102", room[200:200+n])
				x.cutPut(t, 0, []byte{0x33}, room[200:200+n])
			}
			Put(nil, room[200:200+n])
			if !bytes.Equal(room, before) {
				t.Fatalf("P1102: Put turned %d bytes, or the memory beside them", n)
			}
		}
	}
}

// TestNotKept turns rows that were handed in, their spare room too.
func TestNotKept(t *testing.T) {
	c := chance(10)
	for n := range api.Load + 1 {
		b := append(make([]byte, 0, 400), c.row(n)...)
		was := bytes.Clone(b)
		x := afterPuts(t, n%7)
		x.putGoes(t, "P1102", b)
		seq, _, next := x.reckoned()
		turned(b)
		x.told(t, "P1102", seq, padded(was), next)
		x.putGoes(t, "P1102", b)
	}
}

// TestNewMemory turns and grows what Last answers: neither the flash nor another answer turns.
func TestNewMemory(t *testing.T) {
	c := chance(11)
	for n := range api.Load + 1 {
		b := c.row(n)
		x := afterPuts(t, n%7)
		x.putGoes(t, "P1102", b)
		seq, _, next := x.reckoned()
		before := x.state()
		_, one, _ := Last(x.a)
		_, two, _ := Last(x.a)
		turned(append(one, "more"...))
		turned(one)
		if !bytes.Equal(two, padded(b)) || !same(x.state(), before) {
			t.Fatalf("P1102: what Last tells of %d bytes shares memory", n)
		}
		x.told(t, "P1102", seq, padded(b), next)
		_, three, _ := Last(x.a)
		x.putGoes(t, "P1102", []byte("other"))
		if !bytes.Equal(two, three) {
			t.Fatal("P1102: what Last told turned with a Put")
		}
	}
}

// TestOnlyTheFlash asks several rings in several orders, by areas of their own and by others of the same sectors: an answer that hung on an earlier call, or on an address, would differ.
func TestOnlyTheFlash(t *testing.T) {
	type answer struct {
		seq, next int
		load      string
		ok, may   bool
		put       api.Errno
		left      string
	}
	ask := func(i int) answer {
		x := afterPuts(t, i%9)
		if i%4 == 1 {
			x.lay(t, (i+1)%api.RingLen, full(3, 0))
		}
		if i%4 == 2 {
			x.f.Cut(0, []byte{byte(i), 0xff})
		}
		var out answer
		var load []byte
		out.seq, load, out.ok = Last(x.a)
		out.next, out.may, out.load = Next(x.a), May(x.a), string(load)
		out.put = Put(x.a, full(i%200, byte(i)))
		out.left = fmt.Sprint(x.state())
		other := bench{f: x.f, a: area.New(x.f, api.Cap{From: fromSec, Len: 5}, 1000)}
		seq, load, next := x.reckoned()
		x.told(t, "P1102", seq, load, next)
		other.told(t, "P1102", seq, load, next)
		return out
	}
	var first [40]answer
	for i := range first {
		first[i] = ask(i)
	}
	for i := range first {
		for j := range first {
			ask(j)
			if got := ask(i); got != first[i] {
				t.Fatalf("P1102: calls %d behind calls %d answer otherwise", i, j)
			}
		}
	}
}

// TestTwoRings puts into two rings of one flash by turns: neither turns anything of the other.
func TestTwoRings(t *testing.T) {
	f := nor.New(fromSec + 2*api.RingLen)
	c := chance(12)
	var rings [2]*area.Area
	for i := range rings {
		rings[i] = area.New(f, api.Cap{From: fromSec + i*api.RingLen, Len: api.RingLen}, 50)
	}
	var kept [2][]byte
	var seqs [2]int
	for range 150 {
		i := c.below(2)
		b := c.row(c.below(api.Load + 1))
		other := rings[1-i].Digest()
		if e := Put(rings[i], b); e != api.OK {
			t.Fatalf("P1101: Put: %d", e)
		}
		kept[i], seqs[i] = padded(b), seqs[i]+1
		if rings[1-i].Digest() != other {
			t.Fatal("P1102: a Put turned another ring's sectors")
		}
		for k, a := range rings {
			if seq, load, _ := Last(a); seq != seqs[k] || !bytes.Equal(load, kept[k]) {
				t.Fatalf("P1102: Last of ring %d: %d", k, seq)
			}
		}
	}
}
