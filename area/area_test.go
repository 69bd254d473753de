package area

import (
	"bytes"
	"math"
	"slices"
	"testing"

	"waterline/api"
	"waterline/nor"
	"waterline/sha"
)

const sec = api.Sector

// far are numbers at which no area has a byte or a sector.
var far = []int{math.MinInt, math.MinInt + 1, -1 << 40, -sec, -2, -1, 1 << 40, math.MaxInt - sec, math.MaxInt - 1, math.MaxInt}

// row makes n bytes, others for each seed.
func row(seed uint32, n int) []byte {
	out := make([]byte, n)
	for i := range out {
		seed = seed*1664525 + 1013904223
		out[i] = byte(seed >> 24)
	}
	return out
}

func full(n int, x byte) []byte { return bytes.Repeat([]byte{x}, n) }

func span(from, n int) api.Cap { return api.Cap{From: from, Len: n} }

// state is all that can be asked of a flash.
type state struct {
	memory []byte
	wears  []int
	ops    int
	off    bool
}

func asked(f *nor.Flash) state {
	s := state{memory: f.Read(0, f.Len()*sec), ops: f.Ops(), off: f.Off()}
	for i := range f.Len() {
		s.wears = append(s.wears, f.Wear(i))
	}
	return s
}

func same(a, b state) bool {
	return bytes.Equal(a.memory, b.memory) && slices.Equal(a.wears, b.wears) && a.ops == b.ops && a.off == b.off
}

// told is all that can be asked of an area.
type told struct {
	memory []byte
	lefts  []int
	blanks []bool
	digest [32]byte
}

func askedArea(a *Area) told {
	x := told{digest: a.Digest()}
	for s := range a.Len() {
		x.memory = append(x.memory, a.Read(s, 0, sec)...)
		x.lefts = append(x.lefts, a.Left(s))
		x.blanks = append(x.blanks, a.Blank(s))
	}
	return x
}

func sameArea(a, b told) bool {
	return bytes.Equal(a.memory, b.memory) && slices.Equal(a.lefts, b.lefts) && slices.Equal(a.blanks, b.blanks) && a.digest == b.digest
}

// digestOf reckons a digest by the flash alone: the wears are written number by number, not by package turn.
func digestOf(f *nor.Flash, from, n int) [32]byte {
	b := f.Read(from*sec, n*sec)
	for s := range n {
		w := f.Wear(from + s)
		b = append(b, byte(w/(1<<24)), byte(w/65536%256), byte(w/256%256), byte(w%256))
	}
	return sha.Sum(b)
}

// filled makes a flash of n sectors with b at its beginning.
func filled(t *testing.T, n int, b []byte) *nor.Flash {
	t.Helper()
	f := nor.New(n)
	if e := f.Program(0, b); e != api.OK {
		t.Fatalf("Program of %d bytes into a new flash: %v", len(b), e)
	}
	return f
}

// cutOff makes a flash one that is off, and turns nothing else of it but its ops.
func cutOff(t *testing.T, f *nor.Flash) {
	t.Helper()
	f.Cut(0, []byte{0xff})
	if e := f.Program(0, nil); e != api.ErrOff || !f.Off() {
		t.Fatalf("a cut: %v", e)
	}
}

func TestExample(t *testing.T) {
	var a *Area
	if a.Len() != 0 {
		t.Errorf("P701: Len of a nil area is %d", a.Len())
	}
}

func TestLimits(t *testing.T) {
	if sec != 320 || api.MaxBudget != 1000 || api.MaxSectors != 400 {
		t.Fatal("the limits are others")
	}
}

// countOf counts the sectors one by one, and adds nothing that could be too great.
func countOf(sectors int, c api.Cap) int {
	n := 0
	for s := range sectors {
		if c.From >= 0 && s >= c.From && s-c.From < c.Len {
			n++
		}
	}
	return n
}

func TestNew(t *testing.T) {
	for _, sectors := range []int{-1, 0, 1, 2, 6, 400} {
		f := filled(t, sectors, row(uint32(sectors), max(sectors, 0)*sec))
		if sectors < 0 {
			f, sectors = nil, 0
		}
		before := asked(f)
		edges := append(slices.Clone(far), 0, 1, 2, 3, sectors-2, sectors-1, sectors, sectors+1, 2*sectors, 399, 400, 401)
		for _, from := range edges {
			for _, n := range edges {
				want := countOf(sectors, span(from, n))
				for _, budget := range []int{math.MinInt, -1, 0, 1, 2, 999, 1000, 1001, math.MaxInt} {
					a := New(f, span(from, n), budget)
					if a == nil || a.Len() != want {
						t.Fatalf("P701: Len of New(%d sectors, From %d, Len %d, %d) is %d, not %d", sectors, from, n, budget, a.Len(), want)
					}
					checkEnds(t, f, a, span(from, n), min(max(budget, 0), 1000))
				}
			}
		}
		if !same(asked(f), before) {
			t.Errorf("P701: a New turned something of a flash of %d sectors", sectors)
		}
	}
}

// checkEnds asks an area's first and last sector, and those beside, what New made of it.
func checkEnds(t *testing.T, f *nor.Flash, a *Area, c api.Cap, budget int) {
	t.Helper()
	for _, s := range []int{-1, 0, a.Len() - 1, a.Len()} {
		var want []byte
		left := 0
		if s >= 0 && s < a.Len() {
			want = f.Read((c.From+s)*sec+sec-3, 3)
			left = budget
		}
		if got := a.Read(s, sec-3, 3); !bytes.Equal(got, want) || a.Left(s) != left {
			t.Fatalf("P701: sector %d of From %d, Len %d: Read %v, not %v, Left %d, not %d", s, c.From, c.Len, got, want, a.Left(s), left)
		}
	}
}

// TestNewLooksAtNoRights has areas that only Rights tell apart.
func TestNewLooksAtNoRights(t *testing.T) {
	f := filled(t, 3, row(1, 3*sec))
	want := askedArea(New(f, span(1, 2), 5))
	for _, rights := range []int{math.MinInt, -1, 0, 1, 1023, math.MaxInt} {
		a := New(f, api.Cap{Rights: rights, From: 1, Len: 2}, 5)
		if !sameArea(askedArea(a), want) || a.Program(0, 0, nil) != api.OK {
			t.Errorf("P701: an area with the Rights %d", rights)
		}
	}
}

// TestAreaThatIsOnlyDeclared is not asked for by the chapter; it is as one of no sectors.
func TestAreaThatIsOnlyDeclared(t *testing.T) {
	var a Area
	checkNone(t, "one that is only declared", &a)
}

// checkNone asks all of an area that has no sectors.
func checkNone(t *testing.T, what string, a *Area) {
	t.Helper()
	numbers := append(slices.Clone(far), 0, 1, 2, sec-1, sec, sec+1)
	for _, s := range numbers {
		for _, at := range numbers {
			for _, n := range numbers {
				if got := a.Read(s, at, n); len(got) != 0 {
					t.Errorf("P702: %s: Read(%d, %d, %d) has %d bytes", what, s, at, n, len(got))
				}
			}
			for _, b := range [][]byte{nil, {}, {0xff}, make([]byte, sec), make([]byte, sec+1)} {
				if e := a.Program(s, at, b); e != api.ErrBounds {
					t.Errorf("P702: %s: Program(%d, %d) of %d bytes: %v", what, s, at, len(b), e)
				}
			}
		}
		if e := a.Erase(s); e != api.ErrBounds || a.Left(s) != 0 || a.Blank(s) {
			t.Errorf("P702: %s: sector %d: Erase %v, Left %d, Blank %v", what, s, e, a.Left(s), a.Blank(s))
		}
	}
	if a.Len() != 0 || a.Digest() != sha.Sum(nil) {
		t.Errorf("P702: %s: Len %d, Digest %x", what, a.Len(), a.Digest())
	}
}

func TestNilArea(t *testing.T) {
	checkNone(t, "a nil one", nil)
	checkNone(t, "a nil one, asked again", nil)
}

func TestAreaOfNoSectors(t *testing.T) {
	f := filled(t, 3, row(1, 3*sec))
	before := asked(f)
	for _, budget := range []int{-1, 0, 5, math.MaxInt} {
		for _, c := range []api.Cap{span(0, 0), span(3, 1), span(4, 9), span(-1, 2), span(0, -1), span(math.MinInt, math.MaxInt), span(math.MaxInt, math.MaxInt), span(math.MaxInt, 1)} {
			checkNone(t, "one of no sectors", New(f, c, budget))
		}
		checkNone(t, "one of a flash of no sectors", New(nor.New(0), span(0, 3), budget))
		checkNone(t, "one of a nil flash", New(nil, span(0, 3), budget))
	}
	if !same(asked(f), before) {
		t.Error("P701: an area of no sectors turned something")
	}
	// A flash of no sectors can be off: ErrBounds is told none the less.
	none := nor.New(0)
	a := New(none, span(0, 3), 5)
	cutOff(t, none)
	checkNone(t, "one of a flash of no sectors that is off", a)
}

// places are bytes at and beside a sector's ends, and lengths of as many.
func places() []int {
	return append(slices.Clone(far), 0, 1, 2, 7, sec/2, sec-2, sec-1, sec, sec+1, sec+2, 2*sec-1, 2*sec, 2*sec+1, 3*sec, 5*sec)
}

func TestRead(t *testing.T) {
	all := row(3, 6*sec)
	f := filled(t, 6, all)
	before := asked(f)
	for _, c := range []api.Cap{span(0, 1), span(0, 3), span(2, 3), span(5, 1), span(3, 3), span(0, 6), span(4, 99)} {
		a := New(f, c, 1)
		for _, s := range append(slices.Clone(far), 0, 1, 2, 3, 4, 5, 6, 7) {
			for _, at := range places() {
				for _, n := range places() {
					var want []byte
					if s >= 0 && s < a.Len() && at >= 0 && at < sec && n > 0 && n <= sec && at+n <= sec {
						want = all[(c.From+s)*sec+at:][:n]
					}
					if got := a.Read(s, at, n); !bytes.Equal(got, want) {
						t.Fatalf("P701: From %d, Len %d: Read(%d, %d, %d) has %d bytes, not %d, or others", c.From, c.Len, s, at, n, len(got), len(want))
					}
				}
			}
		}
	}
	if !same(asked(f), before) {
		t.Error("P701: a Read turned something")
	}
}

func TestReadEachByte(t *testing.T) {
	all := row(4, 4*sec)
	f := filled(t, 4, all)
	a := New(f, span(1, 2), 1)
	for i := range 2 * sec {
		if got := a.Read(i/sec, i%sec, 1); len(got) != 1 || got[0] != all[sec+i] {
			t.Fatalf("P701: Read(%d, %d, 1) is %v, not %d", i/sec, i%sec, got, all[sec+i])
		}
		n := i%sec + 1
		if got := a.Read(i/sec, 0, n); !bytes.Equal(got, all[sec+i/sec*sec:][:n]) {
			t.Fatalf("P701: Read(%d, 0, %d) has %d bytes, or others", i/sec, n, len(got))
		}
	}
}

// TestProgram lays bytes at all places and of all lengths that could lie within a sector, and at those that can't.
func TestProgram(t *testing.T) {
	f := nor.New(5)
	a := New(f, span(1, 3), 9)
	for _, s := range append(slices.Clone(far), 0, 1, 2, 3, 4) {
		for _, at := range places() {
			for _, n := range []int{0, 1, 2, 7, sec / 2, sec - 1, sec, sec + 1, 2 * sec, 3*sec + 1} {
				b := full(n, 0xff) // nothing is turned, so that all can be tried on one flash
				want, errno := asked(f), api.ErrBounds
				if s >= 0 && s < 3 && at >= 0 && at <= sec && n <= sec && at+n <= sec {
					want.ops++
					errno = api.OK
				}
				if e := a.Program(s, at, b); e != errno || !same(asked(f), want) {
					t.Fatalf("P701: Program(%d, %d) of %d bytes: %v, not %v, ops %d", s, at, n, e, errno, f.Ops())
				}
			}
		}
	}
}

func TestProgramLaysItsBytes(t *testing.T) {
	for _, c := range []api.Cap{span(0, 3), span(1, 3), span(2, 3), span(3, 9)} {
		for s := range countOf(5, c) {
			for _, x := range []struct{ at, n int }{{0, 0}, {0, 1}, {0, sec}, {sec - 1, 1}, {sec, 0}, {7, 9}, {1, sec - 1}, {sec / 2, sec / 2}} {
				f := nor.New(5)
				a, b := New(f, c, 0), row(uint32(x.at+s), x.n)
				want := asked(f)
				want.ops = 1
				copy(want.memory[(c.From+s)*sec+x.at:], b)
				if e := a.Program(s, x.at, b); e != api.OK || !same(asked(f), want) || !bytes.Equal(a.Read(s, x.at, x.n), b) {
					t.Fatalf("P701: From %d: Program(%d, %d) of %d bytes: %v, ops %d, or other bytes", c.From, s, x.at, x.n, e, f.Ops())
				}
			}
		}
	}
}

// TestProgramOverASectorsEnd has rows that would lie within the flash, and within the area: but not within one sector.
func TestProgramOverASectorsEnd(t *testing.T) {
	f := nor.New(5)
	a := New(f, span(1, 3), 9)
	before := asked(f)
	for s := range 3 {
		for _, x := range []struct{ at, n int }{{sec - 1, 2}, {0, sec + 1}, {1, sec}, {sec, 1}, {sec + 1, 0}, {sec + 1, 1}, {-1, 1}, {-1, 2}, {-1, 0}, {-sec, sec}, {2 * sec, 0}, {math.MaxInt, 1}, {math.MaxInt, 0}, {math.MinInt, sec}, {math.MinInt, 0}} {
			if e := a.Program(s, x.at, make([]byte, x.n)); e != api.ErrBounds || !same(asked(f), before) {
				t.Errorf("P701: Program(%d, %d) of %d bytes: %v, or it turned something", s, x.at, x.n, e)
			}
			if got := a.Read(s, x.at, x.n); len(got) != 0 {
				t.Errorf("P701: Read(%d, %d, %d) has %d bytes", s, x.at, x.n, len(got))
			}
		}
	}
}

// TestProgramOverAnyByte lays each byte over each other one, as the flash does: it is there, or it would set a bit.
func TestProgramOverAnyByte(t *testing.T) {
	for was := range 256 {
		for now := range 256 {
			f := filled(t, 3, append(full(sec+9, 0xff), byte(was)))
			want, errno := asked(f), api.ErrSet
			if was|now == was {
				want.ops, errno = 2, api.OK
				want.memory[sec+9] = byte(now)
			}
			if e := New(f, span(1, 1), 0).Program(0, 9, []byte{byte(now)}); e != errno || !same(asked(f), want) {
				t.Fatalf("P701: Program of %02x over %02x: %v", now, was, e)
			}
		}
	}
}

// TestProgramThatIsCut leaves what the flash leaves.
func TestProgramThatIsCut(t *testing.T) {
	for _, mask := range [][]byte{nil, {0}, {0xff}, {0xf0}, {1, 2, 4}, row(5, sec+3)} {
		f, g := filled(t, 4, row(6, 4*sec)), filled(t, 4, row(6, 4*sec))
		a := New(f, span(1, 2), 7)
		f.Cut(1, mask)
		g.Cut(1, mask)
		b := make([]byte, 60)
		if e, want := a.Program(0, 0, nil), g.Program(sec, nil); e != want || e != api.OK {
			t.Errorf("P701: the operation ahead of a cut: %v, not %v", e, want)
		}
		if e, want := a.Program(1, sec-60, b), g.Program(3*sec-60, b); e != want || e != api.ErrOff || !same(asked(f), asked(g)) {
			t.Errorf("P701: a Program that is cut with %d bytes of mask: %v, not %v, or other bytes", len(mask), e, want)
		}
	}
}

func TestErase(t *testing.T) {
	for _, c := range []api.Cap{span(0, 4), span(1, 2), span(2, 2), span(3, 1), span(2, 99)} {
		f := filled(t, 4, row(7, 4*sec))
		a := New(f, c, 3)
		want := asked(f)
		for s := range a.Len() {
			copy(want.memory[(c.From+s)*sec:], full(sec, 0xff))
			want.wears[c.From+s]++
			want.ops++
			if a.Blank(s) {
				t.Errorf("P701: From %d: sector %d is blank ahead of its Erase", c.From, s)
			}
			if e := a.Erase(s); e != api.OK || !same(asked(f), want) || !a.Blank(s) || a.Left(s) != 2 {
				t.Errorf("P701: From %d: Erase of sector %d: %v, Left %d, or it turned something else", c.From, s, e, a.Left(s))
			}
		}
	}
}

// TestEraseThatIsCut leaves what the flash leaves, and counts.
func TestEraseThatIsCut(t *testing.T) {
	for _, mask := range [][]byte{nil, {0}, {0xff}, {0xf0}, {1, 2, 4}, row(5, sec+3)} {
		f, g := filled(t, 4, row(6, 4*sec)), filled(t, 4, row(6, 4*sec))
		a := New(f, span(1, 3), 7)
		f.Cut(0, mask)
		g.Cut(0, mask)
		if e, want := a.Erase(1), g.Erase(2); e != want || e != api.ErrOff || !same(asked(f), asked(g)) || a.Left(1) != 6 || a.Blank(1) != g.Blank(2) {
			t.Errorf("P701: an Erase that is cut with %d bytes of mask: %v, not %v, Left %d, or other bytes", len(mask), e, want, a.Left(1))
		}
	}
}

func TestEraseTillNoneIsLeft(t *testing.T) {
	for _, budget := range []int{math.MinInt, -1, 0, 1, 2, 17, 999, 1000, 1001, math.MaxInt} {
		f := filled(t, 3, row(8, 3*sec))
		a := New(f, span(1, 2), budget)
		may := min(max(budget, 0), 1000)
		for k := range may {
			if a.Left(1) != may-k || a.Erase(1) != api.OK || f.Wear(2) != k+1 || a.Left(1) != may-k-1 {
				t.Fatalf("P701: a budget of %d: Left behind Erase %d is %d", budget, k, a.Left(1))
			}
		}
		a.Program(1, 4, []byte{0})
		before := asked(f)
		for range 3 {
			if e := a.Erase(1); e != api.ErrWorn || a.Left(1) != 0 || !same(asked(f), before) {
				t.Fatalf("P701: a budget of %d: Erase when none is left: %v, Left %d, or it turned something", budget, e, a.Left(1))
			}
		}
		if a.Left(0) != may || f.Wear(0) != 0 || f.Wear(1) != 0 {
			t.Errorf("P701: a budget of %d: the sector beside has %d left", budget, a.Left(0))
		}
		if e := a.Program(1, 5, []byte{7}); e != api.OK || !bytes.Equal(a.Read(1, 3, 3), f.Read(2*sec+3, 3)) {
			t.Errorf("P701: a budget of %d: Program of a sector that is worn: %v", budget, e)
		}
	}
}

// TestErasedByOthers has sectors that another area, or the flash itself, has erased: what is left hangs on the wear alone.
func TestErasedByOthers(t *testing.T) {
	f := filled(t, 4, row(9, 4*sec))
	a, other := New(f, span(1, 2), 3), New(f, span(0, 4), 5)
	if other.Erase(2) != api.OK || a.Left(1) != 2 || f.Erase(2) != api.OK || a.Left(1) != 1 || other.Left(2) != 3 {
		t.Fatalf("P701: Left is %d and %d", a.Left(1), other.Left(2))
	}
	if a.Erase(1) != api.OK || a.Left(1) != 0 || other.Left(2) != 2 || a.Left(0) != 3 || other.Left(1) != 5 {
		t.Fatalf("P701: Left is %d and %d", a.Left(1), other.Left(2))
	}
	for k := range 4 {
		before := asked(f)
		if e := a.Erase(1); e != api.ErrWorn || a.Left(1) != 0 || !same(asked(f), before) {
			t.Errorf("P701: Erase of a sector that others have erased: %v, Left %d", e, a.Left(1))
		}
		want := api.OK
		if k >= 2 {
			want = api.ErrWorn
		}
		if e := other.Erase(2); e != want || other.Left(2) != max(1-k, 0) {
			t.Errorf("P701: Erase by the greater budget: %v, Left %d", e, other.Left(2))
		}
	}
	if f.Erase(2) != api.OK || f.Wear(2) != 6 || a.Left(1) != 0 || other.Left(2) != 0 || New(f, span(2, 1), 7).Left(0) != 1 || New(f, span(2, 1), 6).Left(0) != 0 {
		t.Error("P701: the flash itself has no budget")
	}
}

func TestLeft(t *testing.T) {
	f := nor.New(5)
	for s := range 5 {
		for range 2 * s {
			f.Erase(s)
		}
	}
	for _, budget := range []int{math.MinInt, -7, -1, 0, 1, 2, 3, 4, 7, 8, 9, 999, 1000, 1001, math.MaxInt} {
		for from := range 5 {
			a := New(f, span(from, 3), budget)
			for s := range a.Len() {
				want := max(min(max(budget, 0), 1000)-2*(from+s), 0)
				if a.Left(s) != want {
					t.Errorf("P701: a budget of %d: Left of a sector of wear %d is %d, not %d", budget, 2*(from+s), a.Left(s), want)
				}
			}
			for _, s := range append(slices.Clone(far), a.Len(), a.Len()+1, 5, 400) {
				if a.Left(s) != 0 {
					t.Errorf("P701: Left of sector %d of %d is %d", s, a.Len(), a.Left(s))
				}
			}
		}
	}
}

// TestLeftBehindCalls goes through all that could turn it: only erases that are done, or cut, do.
func TestLeftBehindCalls(t *testing.T) {
	f := nor.New(3)
	a := New(f, span(1, 2), 4)
	step := func(what string, first, second int) {
		t.Helper()
		if a.Left(0) != first || a.Left(1) != second {
			t.Errorf("P701: Left behind %s is %d and %d, not %d and %d", what, a.Left(0), a.Left(1), first, second)
		}
	}
	step("New", 4, 4)
	a.Program(0, 0, []byte{0})
	a.Program(0, 0, []byte{1})
	a.Read(0, 0, 9)
	a.Blank(0)
	a.Digest()
	step("calls that erase nothing", 4, 4)
	a.Erase(1)
	step("an Erase", 4, 3)
	a.Erase(2)
	a.Erase(-1)
	f.Erase(0)
	f.Erase(3)
	step("Erases of sectors that are not its own", 4, 3)
	f.Cut(0, []byte{0xff})
	a.Erase(0)
	step("an Erase that is cut", 3, 3)
	a.Erase(0)
	a.Erase(1)
	step("Erases while it is off", 3, 3)
	f.Power()
	step("Power", 3, 3)
	f.Cut(0, nil)
	a.Program(1, 0, []byte{0})
	step("a Program that is cut", 3, 3)
	f.Power()
	for range 9 {
		a.Erase(0)
	}
	step("more Erases than are left", 0, 3)
}

func TestBlank(t *testing.T) {
	f := nor.New(4)
	a := New(f, span(1, 2), 9)
	for _, i := range []int{0, 1, sec / 2, sec - 1} {
		for bit := range 8 {
			for s := range 2 {
				a.Program(s, i, []byte{^byte(1 << bit)})
				if a.Blank(s) || !a.Blank(1-s) {
					t.Fatalf("P701: bit %d of byte %d of sector %d is 0: Blank is %v, %v", bit, i, s, a.Blank(0), a.Blank(1))
				}
				f.Erase(1 + s)
				if !a.Blank(s) {
					t.Fatal("P701: not blank behind an Erase")
				}
			}
		}
	}
	f.Program(0, []byte{0})
	f.Program(3*sec, []byte{0})
	if !a.Blank(0) || !a.Blank(1) {
		t.Error("P701: a sector that is not its own makes it not blank")
	}
	for _, s := range append(slices.Clone(far), 2, 3, 4) {
		if a.Blank(s) {
			t.Errorf("P701: sector %d, which is none of its own, is blank", s)
		}
	}
	whole := nor.New(4)
	part := New(whole, span(1, 2), 9)
	if part.Blank(-1) || part.Blank(2) || !part.Blank(0) || !part.Blank(1) {
		t.Error("P701: a sector of the flash beside the area's own is blank")
	}
}

func TestSectorsThatAreNone(t *testing.T) {
	f := filled(t, 5, row(9, 5*sec))
	before := asked(f)
	for _, budget := range []int{0, 9} {
		a := New(f, span(1, 3), budget)
		for _, s := range append(slices.Clone(far), 3, 4, 5, 400) {
			if e := a.Erase(s); e != api.ErrBounds || !same(asked(f), before) {
				t.Errorf("P701: Erase of sector %d of 3: %v", s, e)
			}
		}
	}
}

// TestWhichErrorIsTold meets several at once: ErrBounds is ahead of ErrWorn and of all that the flash tells, ErrWorn ahead of ErrOff, ErrOff ahead of ErrSet.
func TestWhichErrorIsTold(t *testing.T) {
	f := filled(t, 4, make([]byte, 4*sec))
	worn, a := New(f, span(1, 2), 0), New(f, span(1, 2), 1)
	if e := a.Program(1, 1, full(sec, 0xff)); e != api.ErrBounds {
		t.Errorf("P701: beyond, and bits would be set: %v", e)
	}
	if e := a.Program(1, 0, full(sec, 0xff)); e != api.ErrSet {
		t.Errorf("P701: bits would be set: %v", e)
	}
	if e := worn.Erase(2); e != api.ErrBounds {
		t.Errorf("P701: beyond, and none is left: %v", e)
	}
	cutOff(t, f)
	before := asked(f)
	for _, x := range []struct {
		what string
		e    api.Errno
		want api.Errno
	}{
		{"Program that is beyond", a.Program(1, 1, make([]byte, sec)), api.ErrBounds},
		{"Program of no bytes that is beyond", a.Program(0, sec+1, nil), api.ErrBounds},
		{"Program from the greatest int on", a.Program(0, math.MaxInt, []byte{0}), api.ErrBounds},
		{"Program from the least int on", a.Program(0, math.MinInt, []byte{0}), api.ErrBounds},
		{"Program of the greatest int's sector", a.Program(math.MaxInt, 0, []byte{0}), api.ErrBounds},
		{"Program of the least int's sector", a.Program(math.MinInt, 0, []byte{0}), api.ErrBounds},
		{"Program of a sector that is none", a.Program(2, 0, []byte{0}), api.ErrBounds},
		{"Program of a sector below 0", a.Program(-1, 0, nil), api.ErrBounds},
		{"Program", a.Program(0, 0, []byte{0}), api.ErrOff},
		{"Program of no bytes", a.Program(1, sec, nil), api.ErrOff},
		{"Program that would set bits", a.Program(1, 0, full(sec, 0xff)), api.ErrOff},
		{"Erase of a sector that is none", a.Erase(2), api.ErrBounds},
		{"Erase of a sector below 0", a.Erase(-1), api.ErrBounds},
		{"Erase", a.Erase(0), api.ErrOff},
		{"Erase when none is left", worn.Erase(1), api.ErrWorn},
		{"Erase of a sector that is none when none is left", worn.Erase(2), api.ErrBounds},
	} {
		if x.e != x.want {
			t.Errorf("P701: %s, while the flash is off: %v, not %v", x.what, x.e, x.want)
		}
	}
	if !same(asked(f), before) || a.Left(0) != 1 || a.Blank(0) || a.Len() != 2 || !bytes.Equal(a.Read(0, 0, 2), []byte{0, 0}) {
		t.Error("P701: calls while the flash is off turned something, or what can be asked can't")
	}
	f.Power()
	if a.Erase(0) != api.OK || a.Program(0, 0, []byte{5}) != api.OK {
		t.Error("P701: the flash is on, and the area does not work")
	}
}

// TestWornLeavesACutToCome has an Erase that is refused where a cut is due: the cut waits for one that would be OK.
func TestWornLeavesACutToCome(t *testing.T) {
	f := nor.New(2)
	a := New(f, span(0, 1), 0)
	f.Cut(0, nil)
	if a.Erase(0) != api.ErrWorn || a.Erase(1) != api.ErrBounds || a.Program(1, 0, nil) != api.ErrBounds || f.Off() || f.Ops() != 0 {
		t.Error("P701: a call that the area refuses came to the flash")
	}
	if a.Program(0, 0, nil) != api.ErrOff || !f.Off() {
		t.Error("P701: the cut did not come")
	}
}

func TestDigest(t *testing.T) {
	f := filled(t, 6, row(11, 6*sec))
	for s := range 6 {
		for range s * s {
			f.Erase(s)
		}
		f.Program(s*sec+s, row(uint32(s), 30)[:s])
	}
	seen := map[[32]byte]int{}
	for from := range 7 {
		for n := range 8 {
			a := New(f, span(from, n), 4)
			if got, want := a.Digest(), digestOf(f, from, countOf(6, span(from, n))); got != want {
				t.Errorf("P701: Digest of From %d, Len %d is %x, not %x", from, n, got, want)
			}
			seen[a.Digest()]++
		}
	}
	if len(seen) != 1+6*7/2 {
		t.Errorf("P701: the areas have %d Digests", len(seen))
	}
	if New(f, span(2, 0), 4).Digest() != sha.Sum(nil) || New(f, span(6, 1), 4).Digest() != sha.Sum(nil) {
		t.Error("P701: Digest of no sectors")
	}
}

// TestDigestOfANewOne is written out: all bytes first, then each sector's wear.
func TestDigestOfANewOne(t *testing.T) {
	for _, n := range []int{1, 2, 3, 400} {
		a := New(nor.New(400), span(0, n), 1)
		if a.Digest() != sha.Sum(append(full(n*sec, 0xff), make([]byte, 4*n)...)) {
			t.Errorf("P701: Digest of %d new sectors", n)
		}
	}
	f := nor.New(3)
	a := New(f, span(1, 2), 1000)
	for range 258 {
		a.Erase(0)
	}
	a.Erase(1)
	a.Program(0, 5, []byte{9})
	want := full(2*sec, 0xff)
	want[5] = 9
	if a.Digest() != sha.Sum(append(want, 0, 0, 1, 2, 0, 0, 0, 1)) {
		t.Error("P701: Digest of sectors that were erased 258 times and once")
	}
}

// TestDigestOfMuchWear has a wear of three bytes, which no budget lets an area make.
func TestDigestOfMuchWear(t *testing.T) {
	f := nor.New(2)
	for range 0x010203 {
		f.Erase(1)
	}
	a := New(f, span(1, 1), 1000)
	if a.Digest() != sha.Sum(append(full(sec, 0xff), 0, 1, 2, 3)) || a.Left(0) != 0 || a.Erase(0) != api.ErrWorn {
		t.Error("P701: Digest of a sector that was erased 66051 times")
	}
}

// TestDigestTurns tells which calls turn it: those that turn bytes of the area, or its wear.
func TestDigestTurns(t *testing.T) {
	f := filled(t, 4, row(12, 4*sec))
	a := New(f, span(1, 2), 6)
	last := a.Digest()
	step := func(what string, turns bool) {
		t.Helper()
		now := a.Digest()
		if (now != last) != turns || now != digestOf(f, 1, 2) || now != a.Digest() {
			t.Errorf("P701: %s: it turned: %v, or it is another's", what, now != last)
		}
		last = now
	}
	a.Erase(0)
	step("an Erase", true)
	a.Erase(0)
	step("an Erase of a blank sector", true)
	a.Program(0, 3, []byte{0xf0})
	step("a Program", true)
	a.Program(0, 3, []byte{0xf0})
	step("a Program that turns nothing", false)
	a.Program(1, sec, nil)
	step("a Program of no bytes", false)
	a.Program(0, 3, []byte{0xff})
	a.Program(2, 0, []byte{0})
	a.Erase(-1)
	a.Erase(2)
	step("calls that fail", false)
	f.Program(sec-1, []byte{0})
	f.Program(3*sec, []byte{0})
	f.Erase(0)
	f.Erase(3)
	step("what is done beside it", false)
	a.Read(0, 0, sec)
	a.Left(0)
	a.Blank(0)
	a.Len()
	step("questions", false)
	f.Program(2*sec-1, []byte{0x55})
	step("a Program by the flash itself", true)
	f.Erase(2)
	step("an Erase by the flash itself", true)
	f.Cut(0, []byte{0xff})
	a.Program(0, 9, []byte{0})
	step("a Program that is cut ahead of all bits", false)
	a.Program(0, 9, []byte{0})
	a.Erase(0)
	step("calls while it is off", false)
	f.Power()
	step("Power", false)
	f.Cut(0, []byte{0x0f})
	a.Program(0, 9, []byte{0})
	step("a Program that is cut", true)
	f.Power()
	f.Cut(0, []byte{0xff})
	a.Erase(0)
	step("an Erase that is cut ahead of all bits, but wears", true)
	f.Power()
	f.Cut(0, []byte{0xf0})
	a.Erase(0)
	step("an Erase that is cut", true)
	f.Power()
	for range 9 {
		a.Erase(0)
	}
	step("Erases till none is left", true)
	a.Erase(0)
	step("an Erase when none is left", false)
}

// TestDigestHangsOnNoBudget, nor on where in the flash the sectors lie.
func TestDigestHangsOnNoBudget(t *testing.T) {
	f := filled(t, 4, slices.Concat(row(1, sec), row(2, sec), row(1, sec), row(2, sec)))
	want := New(f, span(0, 2), 0).Digest()
	for _, budget := range []int{math.MinInt, 0, 1, 1000, math.MaxInt} {
		if New(f, span(2, 2), budget).Digest() != want {
			t.Errorf("P701: Digest with a budget of %d", budget)
		}
	}
	if New(f, span(1, 2), 0).Digest() == want {
		t.Error("P701: two sectors the other way round have the same Digest")
	}
}

// doings is a long row of calls on one area, good ones and bad ones, with cuts among them.
func doings(f *nor.Flash, a *Area, seed uint32, between func(k int)) {
	dice := row(seed, 6*300)
	for k := range 300 {
		d := dice[6*k:][:6]
		s, at := int(d[1])%(a.Len()+4)-2, (int(d[2])<<2|int(d[3])%4)%(sec+20)-10
		switch d[0] % 12 {
		case 0, 1, 2:
			a.Program(s, at, row(uint32(d[4]), int(d[5])))
		case 3, 4:
			a.Program(s, 0, make([]byte, sec))
		case 5, 6, 7, 8:
			a.Erase(s)
		case 9:
			f.Cut(int(d[4])%3, row(uint32(d[5]), int(d[5])%5))
		case 10:
			f.Power()
		default:
			a.Read(s, at, int(d[4]))
			a.Blank(s)
			a.Left(s)
			a.Digest()
			a.Len()
		}
		between(k)
	}
	f.Power()
}

func TestAreasApart(t *testing.T) {
	f := filled(t, 9, row(13, 9*sec))
	caps := []api.Cap{span(0, 2), span(2, 1), span(3, 4), span(7, 99)}
	var areas []*Area
	for i, c := range caps {
		areas = append(areas, New(f, c, 40+i))
	}
	for i := range areas {
		var before []told
		for _, o := range areas {
			before = append(before, askedArea(o))
		}
		doings(f, areas[i], uint32(100+i), func(k int) {
			for j := range areas {
				if j != i && areas[j].Digest() != before[j].digest {
					t.Fatalf("P702: call %d on area %d turned area %d", k, i, j)
				}
			}
		})
		for j := range areas {
			if now := askedArea(areas[j]); sameArea(now, before[j]) != (j != i) {
				t.Errorf("P702: what was done in area %d: area %d is as it was: %v", i, j, j != i)
			}
		}
	}
}

// TestAreasApartAtTheirEnds does what it can at the sectors that lie next to another area's.
func TestAreasApartAtTheirEnds(t *testing.T) {
	f := nor.New(6)
	low, mid, high := New(f, span(0, 2), 5), New(f, span(2, 2), 5), New(f, span(4, 2), 5)
	wantLow, wantHigh := askedArea(low), askedArea(high)
	for _, s := range []int{-2, -1, 0, 1, 2, 3} {
		for _, at := range []int{-sec, -1, 0, sec - 1, sec, sec + 1, 2 * sec} {
			for _, n := range []int{0, 1, 2, sec, sec + 1, 2 * sec, 3 * sec} {
				mid.Program(s, at, make([]byte, n))
			}
		}
		mid.Erase(s)
		mid.Program(s, 0, make([]byte, sec))
	}
	if !sameArea(askedArea(low), wantLow) || !sameArea(askedArea(high), wantHigh) {
		t.Error("P702: an area turned one beside it")
	}
	if !bytes.Equal(f.Read(2*sec, 2*sec), make([]byte, 2*sec)) || f.Wear(2) != 1 || f.Wear(3) != 1 {
		t.Error("P701: an area did not turn its own")
	}
}

func TestAreasWithSectorsInCommon(t *testing.T) {
	f := nor.New(5)
	a, b := New(f, span(0, 3), 4), New(f, span(2, 3), 2)
	if a.Program(2, 7, []byte{1, 2, 3}) != api.OK || !bytes.Equal(b.Read(0, 7, 3), []byte{1, 2, 3}) || b.Blank(0) || !b.Blank(1) {
		t.Error("P701: what one area has programmed, the other one has")
	}
	if b.Program(0, 7, []byte{0xff}) != api.ErrSet || b.Program(0, 8, []byte{0}) != api.OK || !bytes.Equal(a.Read(2, 7, 3), []byte{1, 0, 3}) {
		t.Error("P701: bits that one area has turned are turned for the other one")
	}
	wantA, wantB := a.Left(0), b.Left(2)
	if b.Erase(0) != api.OK || !a.Blank(2) || a.Left(2) != 3 || b.Left(0) != 1 || a.Erase(2) != api.OK || a.Left(2) != 2 || b.Left(0) != 0 || b.Erase(0) != api.ErrWorn || a.Erase(2) != api.OK || a.Left(2) != 1 {
		t.Errorf("P701: Left is %d and %d", a.Left(2), b.Left(0))
	}
	if a.Left(0) != wantA || b.Left(2) != wantB || a.Digest() != digestOf(f, 0, 3) || b.Digest() != digestOf(f, 2, 3) {
		t.Error("P701: sectors that are not in common turned, or Digests are others")
	}
	same := New(f, span(0, 3), 4)
	if same.Digest() != a.Digest() || !sameArea(askedArea(same), askedArea(a)) {
		t.Error("P701: two areas of the same sectors and budget differ")
	}
}

// TestAreasOfTwoFlashes have nothing in common, though their numbers are the same.
func TestAreasOfTwoFlashes(t *testing.T) {
	f, g := nor.New(3), nor.New(3)
	a, b := New(f, span(1, 2), 4), New(g, span(1, 2), 4)
	want := askedArea(b)
	a.Erase(0)
	a.Program(0, 0, []byte{0})
	cutOff(t, f)
	if !sameArea(askedArea(b), want) || a.Erase(0) != api.ErrOff || b.Erase(0) != api.OK || b.Program(0, 0, []byte{0}) != api.OK {
		t.Error("P702: what one flash was told turned another's area")
	}
}

// inner lays b into greater memory, so that it has memory ahead of it and behind.
func inner(b []byte) (all, part []byte) {
	all = slices.Concat(full(8, 0xa5), b, full(8, 0x5a))
	return all, all[8 : 8+len(b)]
}

func TestRowsStay(t *testing.T) {
	for _, n := range []int{0, 1, 40, sec} {
		f := nor.New(4)
		a := New(f, span(1, 2), 9)
		now := row(uint32(n), n)
		all, part := inner(now)
		kept := slices.Clone(all)
		a.Program(0, sec-n, part)
		a.Program(1, 0, part)
		a.Program(1, sec, part)
		a.Program(2, 0, part)
		a.Digest()
		if !bytes.Equal(all, kept) {
			t.Errorf("P702: Program turned the row of %d bytes it was handed, or memory beside it", n)
		}
		clear(all)
		if !bytes.Equal(a.Read(0, sec-n, n), now) || !bytes.Equal(a.Read(1, 0, n), now) || a.Digest() != digestOf(f, 1, 2) {
			t.Errorf("P702: Program kept the row of %d bytes it was handed", n)
		}
		copy(all, kept)
		a.Erase(0)
		a.Erase(1)
		if !bytes.Equal(all, kept) {
			t.Errorf("P702: Erase turned a row of %d bytes that Program was handed", n)
		}
		f.Cut(0, []byte{0xf0})
		a.Program(1, 0, part)
		want := a.Read(1, 0, n)
		if !bytes.Equal(all, kept) {
			t.Errorf("P702: a Program that is cut turned the row of %d bytes it was handed", n)
		}
		clear(all)
		if !bytes.Equal(a.Read(1, 0, n), want) {
			t.Errorf("P702: a Program that is cut kept the row of %d bytes it was handed", n)
		}
	}
}

func TestReadIsNewMemory(t *testing.T) {
	all := row(3, 4*sec)
	f := filled(t, 4, all)
	a := New(f, span(1, 2), 9)
	digest := a.Digest()
	for _, x := range []struct{ s, at, n int }{{0, 0, 1}, {0, 0, sec}, {1, 5, 7}, {1, 0, sec}, {1, sec - 1, 1}} {
		got, again := a.Read(x.s, x.at, x.n), a.Read(x.s, x.at, x.n)
		room := got[:cap(got)]
		for i := range room {
			room[i] ^= 0xff
		}
		if !bytes.Equal(again, all[(1+x.s)*sec+x.at:][:x.n]) || !bytes.Equal(f.Read(0, 4*sec), all) || a.Digest() != digest {
			t.Errorf("P702: what Read(%d, %d, %d) answers is the flash's or another answer's memory", x.s, x.at, x.n)
		}
	}
	before := a.Read(0, 0, sec)
	kept := slices.Clone(before)
	a.Erase(0)
	a.Program(0, 0, make([]byte, sec))
	if !bytes.Equal(before, kept) {
		t.Error("P702: an Erase or a Program turned what a Read had answered")
	}
}

// TestLongRuns holds what is done through an area against the same done by the flash alone.
func TestLongRuns(t *testing.T) {
	for seed := range uint32(30) {
		sectors, from, n, budget := 7, int(seed%8), int(seed/3%6), int(seed)%9
		f, g := nor.New(sectors), nor.New(sectors)
		a := New(f, span(from, n), budget)
		n = countOf(sectors, span(from, n))
		dice := row(seed+300, 6*300)
		for k := range 300 {
			d := dice[6*k:][:6]
			s, at := int(d[1])%(n+4)-2, (int(d[2])<<2|int(d[3])%4)%(sec+20)-10
			mine := s >= 0 && s < n
			got, want := api.OK, api.OK
			switch d[0] % 8 {
			case 0, 1, 2:
				b := row(uint32(d[4]), int(d[5]))
				if d[0]%16 < 8 { // most rows would set a bit: these can't
					b = make([]byte, int(d[5]))
				}
				got, want = a.Program(s, at, b), api.ErrBounds
				if mine && at >= 0 && at+len(b) <= sec {
					want = g.Program((from+s)*sec+at, b)
				}
			case 3, 4, 5:
				got, want = a.Erase(s), api.ErrBounds
				if mine && g.Wear(from+s) >= budget {
					want = api.ErrWorn
				} else if mine {
					want = g.Erase(from + s)
				}
			case 6:
				f.Cut(int(d[4])%4, d[3:5])
				g.Cut(int(d[4])%4, d[3:5])
			default:
				f.Power()
				g.Power()
			}
			left, blank := 0, false
			if mine {
				left, blank = max(budget-g.Wear(from+s), 0), g.Blank(from+s)
			}
			if got != want || !same(asked(f), asked(g)) || a.Len() != n || a.Left(s) != left || a.Blank(s) != blank {
				t.Fatalf("P701: seed %d, call %d (kind %d): %v, not %v, or another state", seed, k, d[0]%8, got, want)
			}
		}
		if a.Digest() != digestOf(g, from, n) {
			t.Errorf("P701: seed %d: another Digest", seed)
		}
	}
}

// TestAnswersHangOnWhatItWasTold tells two areas the same, one of them with questions in between.
func TestAnswersHangOnWhatItWasTold(t *testing.T) {
	f, g := nor.New(4), nor.New(4)
	a, b := New(f, span(1, 2), 60), New(g, span(1, 2), 60)
	for k := range 200 {
		a.Len()
		a.Read(k%4-1, k, k)
		a.Blank(k%4 - 1)
		a.Left(k%4 - 1)
		a.Digest()
		New(f, span(1, 2), 3).Left(0)
		r := row(uint32(k), k%50)
		if a.Program(k%4-1, 7*k%sec, r) != b.Program(k%4-1, 7*k%sec, r) || a.Erase(k%3) != b.Erase(k%3) || !sameArea(askedArea(a), askedArea(b)) {
			t.Fatalf("P702: two areas that were told the same differ behind call %d", k)
		}
	}
}
