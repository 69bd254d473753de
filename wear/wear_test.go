package wear

import (
	"fmt"
	"math"
	"slices"
	"sync"
	"testing"

	"waterline/api"
	"waterline/area"
	"waterline/cell"
	"waterline/nor"
	"waterline/ring"
)

const (
	sec    = api.Sector
	maxSeq = math.MaxInt32
)

// chance makes numbers, the same ones at each run.
type chance uint64

// below makes a number of 0 to n-1.
func (c *chance) below(n int) int {
	*c = *c*6364136223846793005 + 1442695040888963407
	return int(*c>>33) % n
}

// place is where an area lies: on a flash of how many sectors, and what it asks of them.
type place struct{ flash, from, count int }

// there tells how many sectors an area at p has.
func (p place) there() int {
	if p.from < 0 || p.from >= p.flash || p.count < 1 {
		return 0
	}
	if p.count > p.flash-p.from {
		return p.flash - p.from
	}
	return p.count
}

// places are some at the flash's beginning, in its middle, at its end and cut away there, and some of no sectors.
func places() []place {
	return []place{
		{0, 0, 9}, {9, 0, 0}, {9, 3, 0}, {9, 3, -1}, {9, -1, 5}, {9, 9, 1}, {9, 10, 1}, {9, math.MaxInt, math.MaxInt}, {9, math.MinInt, math.MaxInt}, {9, 0, math.MinInt},
		{1, 0, 1}, {1, 0, 7}, {9, 0, 1}, {9, 4, 1}, {9, 8, 1}, {9, 8, 2}, {9, 8, math.MaxInt},
		{9, 0, 3}, {9, 2, 3}, {9, 6, 3}, {9, 6, 4}, {9, 0, 4}, {9, 3, 4}, {9, 5, 4}, {9, 5, 99}, {9, 0, 9}, {9, 0, 10}, {9, 2, 5}, {9, 2, 7}, {9, 1, math.MaxInt}, {9, 0, math.MaxInt},
	}
}

// bench is a flash and an area of it.
type bench struct {
	place
	budget int
	f      *nor.Flash
	a      *area.Area
}

func newBench(p place, budget int) bench {
	f := nor.New(p.flash)
	return bench{p, budget, f, area.New(f, api.Cap{From: p.from, Len: p.count}, budget)}
}

// middle makes a bench of n sectors with others ahead of and behind them.
func middle(n, budget int) bench { return newBench(place{n + 5, 2, n}, budget) }

// wear erases sectors of the area, from its first one on, as often as is said.
func (x bench) wear(t *testing.T, times ...int) {
	t.Helper()
	for s, n := range times {
		for range n {
			if e := x.f.Erase(x.from + s); e != api.OK {
				t.Fatalf("Erase of sector %d: %d", s, e)
			}
		}
	}
}

// lay writes b at the beginning of a sector of the area, by the flash alone.
func (x bench) lay(t *testing.T, sector int, b []byte) {
	t.Helper()
	if e := x.f.Program((x.from+sector)*sec, b); e != api.OK {
		t.Fatalf("Program of %d bytes into sector %d: %d", len(b), sector, e)
	}
}

func (x bench) layCell(t *testing.T, sector, seq int) {
	t.Helper()
	b, e := cell.Put(seq, []byte{byte(sector)})
	if e != api.OK {
		t.Fatalf("no cell of seq %d: %d", seq, e)
	}
	x.lay(t, sector, b)
}

// turnOff makes the flash one that is off, and turns nothing else of it but its ops.
func (x bench) turnOff(t *testing.T) {
	t.Helper()
	x.f.Cut(0, []byte{0xff})
	if e := x.f.Program(0, nil); e != api.ErrOff || !x.f.Off() {
		t.Fatalf("a cut: %d", e)
	}
}

// lefts reckons by the flash alone what each of the area's sectors has left.
func (x bench) lefts() []int {
	var out []int
	for s := range x.there() {
		left, worn := min(x.budget, api.MaxBudget), x.f.Wear(x.from+s)
		if left < worn {
			left = worn
		}
		out = append(out, left-worn)
	}
	return out
}

func (x bench) sumIs(t *testing.T, which string) {
	t.Helper()
	want := 0
	for _, n := range x.lefts() {
		want += n
	}
	if got := Sum(x.a); got != want {
		t.Fatalf("P1401: Sum of %v with a budget of %d, %s: %d, not %d", x.place, x.budget, which, got, want)
	}
}

// isOf tells whether sector s is one of the n ones from from on. The difference of two ints, of which the first is not the lower one, always is a uint64.
func isOf(s, from, n int) bool {
	return s >= from && n > 0 && uint64(s)-uint64(from) < uint64(n)
}

// leastOf reckons Least of sectors that have left what is said: all that may be told are gathered, and the first of those with the most is taken.
func leastOf(lefts []int, from, n int) (int, bool) {
	var some []int
	for s := range lefts {
		if isOf(s, from, n) {
			some = append(some, s)
		}
	}
	if len(some) == 0 {
		return 0, false
	}
	slices.SortStableFunc(some, func(a, b int) int { return lefts[b] - lefts[a] })
	return some[0], true
}

func (x bench) leastIs(t *testing.T, from, n, want int, ok bool) {
	t.Helper()
	if got, is := Least(x.a, from, n); got != want || is != ok {
		t.Fatalf("P1401: Least of %d sectors from %d on, of %v: %d, %v, not %d, %v", n, from, x.lefts(), got, is, want, ok)
	}
}

// leastOfAll asks Least with every from and n around the area, and with the least and the greatest ints.
func (x bench) leastOfAll(t *testing.T) {
	t.Helper()
	lefts := x.lefts()
	froms, ns := extremes(), extremes()
	for i := -4; i <= len(lefts)+4; i++ {
		froms, ns = append(froms, i), append(ns, i, 2*i)
	}
	for _, from := range froms {
		for _, n := range ns {
			want, ok := leastOf(lefts, from, n)
			x.leastIs(t, from, n, want, ok)
		}
	}
}

// extremes are ints of which some sums and differences are too great for an int.
func extremes() []int {
	out := []int{math.MinInt32, math.MaxInt32, math.MaxUint32, math.MinInt / 2, math.MaxInt / 2, math.MaxInt/2 + 1}
	for i := range 12 {
		out = append(out, math.MinInt+i, math.MaxInt-i)
	}
	return out
}

func (x bench) spentIs(t *testing.T, want bool, which string) {
	t.Helper()
	got, may := Spent(x.a), ring.May(x.a)
	if got != want || got == may {
		t.Fatalf("P1401: Spent of %s: %v, and ring.May: %v", which, got, may)
	}
}

// allRight fails unless all three answer as reckoned.
func (x bench) allRight(t *testing.T, which string) {
	t.Helper()
	x.sumIs(t, which)
	x.leastOfAll(t)
	x.spentIs(t, !ring.May(x.a), which)
}

// answers are what the calls tell of one area.
type answers struct {
	sum, least, some int
	ok, is, spent    bool
}

func asked(a *area.Area) answers {
	var out answers
	out.sum, out.spent = Sum(a), Spent(a)
	out.least, out.ok = Least(a, math.MinInt/2, math.MaxInt)
	out.some, out.is = Least(a, 1, 2)
	return out
}

// state is all that can be asked of a bench but by this package.
type state struct {
	bytes  string
	wears  []int
	lefts  []int
	ops    int
	off    bool
	digest [32]byte
}

func (x bench) state() state {
	s := state{bytes: string(x.f.Read(0, x.f.Len()*sec)), ops: x.f.Ops(), off: x.f.Off(), digest: x.a.Digest()}
	for i := range x.f.Len() {
		s.wears = append(s.wears, x.f.Wear(i))
	}
	for i := range x.a.Len() {
		s.lefts = append(s.lefts, x.a.Left(i))
	}
	return s
}

func same(a, b state) bool {
	return a.bytes == b.bytes && slices.Equal(a.wears, b.wears) && slices.Equal(a.lefts, b.lefts) && a.ops == b.ops && a.off == b.off && a.digest == b.digest
}

func TestExample(t *testing.T) {
	if got := Sum(nil); got != 0 {
		t.Errorf("P1401: Sum of a nil area: %d", got)
	}
}

func TestLimits(t *testing.T) {
	if sec != 320 || api.MaxSectors != 400 || api.RingLen != 4 || api.MaxBudget != 1000 {
		t.Fatal("the limits are others")
	}
}

// TestNoSectors has all kinds of areas that have none.
func TestNoSectors(t *testing.T) {
	for i, a := range []*area.Area{
		nil, new(area.Area), area.New(nil, api.Cap{Len: 9}, 9), area.New(nor.New(0), api.Cap{Len: 9}, 9), area.New(nor.New(-1), api.Cap{Len: 9}, 9),
		area.New(nor.New(9), api.Cap{}, 9), area.New(nor.New(9), api.Cap{From: -1, Len: 9}, 9), area.New(nor.New(9), api.Cap{From: 9, Len: 9}, 9), area.New(nor.New(9), api.Cap{From: 2, Len: -1}, 9),
	} {
		if got := Sum(a); got != 0 {
			t.Errorf("P1401: Sum of area %d: %d", i, got)
		}
		if !Spent(a) {
			t.Errorf("P1401: Spent of area %d is false", i)
		}
		ints := append(extremes(), -9, -2, -1, 0, 1, 2, 9)
		for _, from := range ints {
			for _, n := range ints {
				if at, ok := Least(a, from, n); at != 0 || ok {
					t.Errorf("P1401: Least of %d sectors from %d on, of area %d: %d, %v", n, from, i, at, ok)
				}
			}
		}
	}
}

func TestSumByNumbers(t *testing.T) {
	for i, x := range []struct {
		n, budget int
		wears     []int
		want      int
	}{
		{1, 5, nil, 5}, {1, 5, []int{1}, 4}, {1, 5, []int{5}, 0}, {1, 5, []int{6}, 0}, {1, 5, []int{99}, 0}, {1, 1, nil, 1}, {1, 1, []int{1}, 0}, {1, 0, nil, 0}, {1, 0, []int{1}, 0}, {1, -1, nil, 0}, {1, -1, []int{3}, 0},
		{3, 5, nil, 15}, {3, 5, []int{1}, 14}, {3, 5, []int{0, 1}, 14}, {3, 5, []int{0, 0, 1}, 14}, {3, 5, []int{1, 2, 3}, 9}, {3, 5, []int{5, 5, 5}, 0}, {3, 5, []int{7, 0, 0}, 10}, {3, 5, []int{0, 9, 0}, 10}, {3, 5, []int{0, 0, 90}, 10}, {3, 5, []int{9, 9, 9}, 0}, {3, 5, []int{9, 9, 4}, 1},
		{3, -7, []int{1, 2}, 0}, {3, 0, []int{1, 2}, 0}, {3, 1, []int{1, 2}, 1}, {3, 1000, []int{1, 2}, 2997}, {3, 1001, []int{1, 2}, 2997}, {3, math.MaxInt, []int{1, 2}, 2997}, {3, math.MinInt, []int{1, 2}, 0}, {3, 2000, []int{1000, 1500, 999}, 1},
		{393, 1000, []int{1, 0, 1000}, 391999},
	} {
		y := middle(x.n, x.budget)
		y.wear(t, x.wears...)
		if got := Sum(y.a); got != x.want {
			t.Errorf("P1401: Sum %d: %d, not %d", i, got, x.want)
		}
	}
}

// TestSumOfPlaces has areas all over the flash, with all kinds of budgets, behind erases of none, of each one, of several and of all of their sectors.
func TestSumOfPlaces(t *testing.T) {
	for _, p := range places() {
		for _, budget := range []int{math.MinInt, -1, 0, 1, 2, 7, 999, api.MaxBudget, api.MaxBudget + 1, math.MaxInt} {
			x := newBench(p, budget)
			if x.a.Len() != p.there() {
				t.Fatalf("an area at %v: %d sectors", p, x.a.Len())
			}
			x.sumIs(t, "never erased")
			for s := range p.there() {
				x.wear(t, append(make([]int, s), 1)...)
				x.sumIs(t, fmt.Sprint("each erased once up to ", s))
			}
			for s := range p.there() {
				x.wear(t, append(make([]int, s), s%4*s%9)...)
				x.sumIs(t, "several erased")
			}
		}
	}
}

// TestSumOfMost has as many sectors as there may be, and wears them out.
func TestSumOfMost(t *testing.T) {
	for _, p := range []place{{api.MaxSectors, 0, api.MaxSectors}, {api.MaxSectors + 1, 0, math.MaxInt}, {math.MaxInt, 0, api.MaxSectors}} {
		x := bench{f: nor.New(p.flash)}
		x.a = area.New(x.f, api.Cap{From: p.from, Len: p.count}, api.MaxBudget)
		if got := Sum(x.a); got != 400000 {
			t.Errorf("P1401: Sum of most: %d", got)
		}
		x.wear(t, append(make([]int, api.MaxSectors-1), 1)...)
		if got := Sum(x.a); got != 399999 {
			t.Errorf("P1401: Sum of most, the last one erased: %d", got)
		}
	}
	x := newBench(place{api.MaxSectors, 0, api.MaxSectors}, 3)
	for n := 1200; n > 0; n -= api.MaxSectors {
		for s := range api.MaxSectors {
			if got := Sum(x.a); got != n-s {
				t.Fatalf("P1401: Sum of most: %d, not %d", got, n-s)
			}
			x.a.Erase(s)
		}
	}
	if got := Sum(x.a); got != 0 {
		t.Errorf("P1401: Sum of most, worn out: %d", got)
	}
}

// TestSumBeyondTheBudget has sectors that were erased more often than the budget says, by another area with a greater one.
func TestSumBeyondTheBudget(t *testing.T) {
	x := middle(4, 3)
	other := area.New(x.f, api.Cap{From: x.from - 1, Len: 6}, 50)
	for k, want := range []int{11, 10, 9, 9, 9, 9, 9} {
		if e := other.Erase(2); e != api.OK || Sum(x.a) != want {
			t.Fatalf("P1401: Sum behind %d erases by another area: %d, not %d", k+1, Sum(x.a), want)
		}
	}
	if got := Sum(other); got != 293 {
		t.Errorf("P1401: Sum of the other area: %d", got)
	}
	if e := x.a.Erase(1); e != api.ErrWorn || Sum(x.a) != 9 {
		t.Errorf("P1401: an Erase that is refused: %d, Sum %d", e, Sum(x.a))
	}
}

// TestSumOfEraseCut has an erase that is cut: it wears, too.
func TestSumOfEraseCut(t *testing.T) {
	x := middle(2, 5)
	x.f.Cut(0, []byte{0xff})
	if e := x.a.Erase(1); e != api.ErrOff || Sum(x.a) != 9 {
		t.Errorf("P1401: an Erase that is cut: %d, Sum %d", e, Sum(x.a))
	}
	if e := x.a.Erase(0); e != api.ErrOff || Sum(x.a) != 9 {
		t.Errorf("P1401: an Erase without power: %d, Sum %d", e, Sum(x.a))
	}
}

// TestOtherSectors erases and fills all sectors of the flash but the area's.
func TestOtherSectors(t *testing.T) {
	for _, p := range places() {
		x := newBench(p, 4)
		x.wear(t, []int{1, 0, 2, 0, 0, 3, 0, 4, 0}[:p.there()]...)
		before, digest := asked(x.a), x.a.Digest()
		for s := range p.flash {
			if p.there() > 0 && s >= p.from && s < p.from+p.there() {
				continue
			}
			for range 6 {
				x.f.Erase(s)
			}
			x.f.Program(s*sec, make([]byte, sec))
			if asked(x.a) != before {
				t.Errorf("P1401: sector %d is not of the area at %v, and turned something", s, p)
			}
		}
		if x.a.Digest() != digest {
			t.Fatalf("the area at %v was turned", p)
		}
	}
}

// TestLeastByNumbers has sectors that have 2, 4, 1, 4, 5, 0, 0, 5 erases left.
func TestLeastByNumbers(t *testing.T) {
	x := middle(8, 5)
	x.wear(t, 3, 1, 4, 1, 0, 5, 7, 0)
	for _, y := range []struct {
		from, n, at int
		ok          bool
	}{
		{0, 8, 4, true}, {0, 1, 0, true}, {0, 2, 1, true}, {0, 4, 1, true}, {0, 5, 4, true}, {1, 3, 1, true}, {2, 1, 2, true}, {2, 2, 3, true}, {4, 4, 4, true}, {5, 1, 5, true}, {5, 2, 5, true}, {6, 1, 6, true}, {5, 3, 7, true}, {7, 1, 7, true},
		{0, 9, 4, true}, {5, 99, 7, true}, {7, 2, 7, true}, {6, math.MaxInt, 7, true}, {0, math.MaxInt, 4, true}, {1, math.MaxInt, 4, true}, {7, math.MaxInt, 7, true},
		{8, 1, 0, false}, {9, 1, 0, false}, {8, math.MaxInt, 0, false}, {math.MaxInt, 1, 0, false}, {math.MaxInt, math.MaxInt, 0, false},
		{-1, 1, 0, false}, {-1, 2, 0, true}, {-1, 3, 1, true}, {-2, 2, 0, false}, {-2, 3, 0, true}, {-2, 4, 1, true}, {-9, 9, 0, false}, {-9, 10, 0, true}, {-9, 14, 4, true}, {-9, 99, 4, true}, {-1, math.MaxInt, 4, true}, {-9, math.MaxInt, 4, true},
		{math.MinInt, math.MaxInt, 0, false}, {math.MinInt + 1, math.MaxInt, 0, false}, {math.MinInt + 2, math.MaxInt, 0, true}, {math.MinInt + 3, math.MaxInt, 1, true}, {math.MinInt + 4, math.MaxInt - 1, 1, true}, {math.MinInt + 99, math.MaxInt, 4, true}, {math.MinInt, 1, 0, false},
		{0, 0, 0, false}, {3, 0, 0, false}, {8, 0, 0, false}, {-1, 0, 0, false}, {3, -1, 0, false}, {4, -4, 0, false}, {-1, -1, 0, false}, {9, -9, 0, false}, {0, math.MinInt, 0, false}, {1, math.MinInt, 0, false}, {-1, math.MinInt, 0, false}, {math.MaxInt, math.MinInt, 0, false}, {math.MinInt, math.MinInt, 0, false}, {math.MinInt, -1, 0, false}, {math.MinInt, 0, 0, false}, {math.MaxInt, 0, 0, false}, {math.MaxInt, -1, 0, false},
	} {
		x.leastIs(t, y.from, y.n, y.at, y.ok)
	}
	x.leastOfAll(t)
}

// TestLeastOfEach has each sector as the one that has the most left, by one erase or by more.
func TestLeastOfEach(t *testing.T) {
	for n := 1; n <= 9; n++ {
		for best := range n {
			for _, worn := range []int{1, 3, 5, 9} {
				x := middle(n, 5)
				times := slices.Repeat([]int{worn}, n)
				times[best] = 0
				x.wear(t, times...)
				x.leastIs(t, 0, n, best, true)
				x.leastIs(t, best, 1, best, true)
				x.leastOfAll(t)
			}
		}
	}
}

// TestLeastOfSeveral has each choice of sectors that have as much left as each other, and more than the rest.
func TestLeastOfSeveral(t *testing.T) {
	const n = 6
	for set := 1; set < 1<<n; set++ {
		x, first := middle(n, 4), -1
		times := make([]int, n)
		for s := range n {
			if set>>s&1 == 0 {
				times[s] = 1 + s%5
			} else if first < 0 {
				first = s
			}
		}
		x.wear(t, times...)
		x.leastIs(t, 0, n, first, true)
		x.leastOfAll(t)
	}
}

// TestLeastOfAllTheSame has sectors that all have as much left, or nothing, or were erased beyond the budget.
func TestLeastOfAllTheSame(t *testing.T) {
	for _, n := range []int{1, 2, 5} {
		for _, worn := range []int{0, 1, 2, 3, 9} {
			for _, budget := range []int{math.MinInt, -1, 0, 1, 3, math.MaxInt} {
				x := middle(n, budget)
				x.wear(t, slices.Repeat([]int{worn}, n)...)
				for from := range n {
					x.leastIs(t, from, n, from, true)
				}
				x.leastOfAll(t)
			}
		}
	}
}

// TestLeastBeyondTheBudget has none left, though not all were erased as often: the first one is told.
func TestLeastBeyondTheBudget(t *testing.T) {
	x := middle(4, 2)
	x.wear(t, 9, 5, 2, 3)
	x.leastIs(t, 0, 4, 0, true)
	x.leastIs(t, 1, 3, 1, true)
	x.leastOfAll(t)
	y := middle(4, math.MinInt)
	y.wear(t, 1, 0, 2, 0)
	y.leastIs(t, 0, 4, 0, true)
	y.leastOfAll(t)
}

// TestLeastOfPlaces has areas all over the flash, in which each sector was erased some times.
func TestLeastOfPlaces(t *testing.T) {
	c := chance(1)
	for _, p := range places() {
		for _, budget := range []int{-1, 0, 1, 5, 1000, 1001} {
			x := newBench(p, budget)
			for s := range p.flash {
				for range c.below(5) {
					x.f.Erase(s)
				}
			}
			x.allRight(t, "drawn")
		}
	}
}

// TestLeastOfMost has as many sectors as there may be.
func TestLeastOfMost(t *testing.T) {
	x := newBench(place{api.MaxSectors, 0, api.MaxSectors}, 9)
	x.wear(t, slices.Repeat([]int{2}, api.MaxSectors)...)
	x.wear(t, 0, 1)
	x.leastIs(t, 0, api.MaxSectors, 0, true)
	x.leastIs(t, 1, api.MaxSectors, 2, true)
	x.leastIs(t, api.MaxSectors-1, math.MaxInt, api.MaxSectors-1, true)
	x.leastIs(t, api.MaxSectors, math.MaxInt, 0, false)
	x.wear(t, slices.Repeat([]int{1}, api.MaxSectors-1)...)
	x.leastIs(t, 0, api.MaxSectors, api.MaxSectors-1, true)
	x.leastIs(t, -5, math.MaxInt, api.MaxSectors-1, true)
	x.leastIs(t, 0, api.MaxSectors-1, 0, true)
}

// TestSpentOfFew has areas with too few sectors for a ring, blank and with cells in all of them.
func TestSpentOfFew(t *testing.T) {
	for n := range api.RingLen {
		for _, budget := range []int{-1, 0, 1, api.MaxBudget} {
			x := middle(n, budget)
			x.spentIs(t, true, fmt.Sprint(n, " blank sectors"))
			for s := range n {
				x.layCell(t, s, s+1)
				x.spentIs(t, true, fmt.Sprint(n, " sectors with cells"))
			}
			short := newBench(place{9, 9 - n, 99}, budget)
			short.spentIs(t, true, fmt.Sprint(n, " sectors that were cut away"))
		}
	}
}

// TestSpentOfBlank has a blank ring: it takes something, be no erase left.
func TestSpentOfBlank(t *testing.T) {
	for _, n := range []int{api.RingLen, api.RingLen + 1, 20} {
		for _, budget := range []int{math.MinInt, -1, 0, 1, 5, api.MaxBudget, math.MaxInt} {
			for _, worn := range []int{0, 1, 9} {
				x := middle(n, budget)
				x.wear(t, slices.Repeat([]int{worn}, n)...)
				x.spentIs(t, false, "a blank ring")
			}
		}
	}
}

// TestSpentOfNoCells has rings without a cell, of which the first sector, or another one, is not blank.
func TestSpentOfNoCells(t *testing.T) {
	for _, left := range []int{0, 1} {
		for s := range api.RingLen + 1 {
			x := middle(api.RingLen+1, 2)
			x.wear(t, slices.Repeat([]int{2}, api.RingLen+1)...)
			y := bench{x.place, 2 + left, x.f, area.New(x.f, api.Cap{From: x.from, Len: x.count}, 2+left)}
			x.lay(t, s, []byte{0xfe})
			y.spentIs(t, s == 0 && left == 0, fmt.Sprintf("no cell, sector %d not blank, %d left", s, left))
		}
	}
}

// TestSpentOfEachNext has each of the ring's sectors as the next one: blank, a cell or no cell, with erases left and with none; the others have none where it has some, and the other way round.
func TestSpentOfEachNext(t *testing.T) {
	for next := range api.RingLen {
		for _, left := range []int{0, 1, 2} {
			for _, kind := range []string{"blank", "a cell", "no cell"} {
				for _, seq := range []int{2, 77, maxSeq - 2, maxSeq - 1, maxSeq} {
					x := middle(api.RingLen+2, 2)
					times := slices.Repeat([]int{2 * min(left, 1)}, api.RingLen+2)
					times[next] = 2 - left
					x.wear(t, times...)
					x.layCell(t, (next+api.RingLen-1)%api.RingLen, seq)
					if kind == "a cell" {
						x.layCell(t, next, 1)
					} else if kind == "no cell" {
						x.lay(t, next, make([]byte, sec))
					}
					want := seq == maxSeq || kind != "blank" && left == 0
					x.spentIs(t, want, fmt.Sprintf("seq %d, next %d is %s, %d left", seq, next, kind, left))
				}
			}
		}
	}
}

// TestSpentBehindTheRing has cells of the greatest seq behind the ring's sectors and ahead of the area: they are not the ring's.
func TestSpentBehindTheRing(t *testing.T) {
	x := middle(api.RingLen+3, 1)
	for _, s := range []int{-2, -1, api.RingLen, api.RingLen + 1, api.RingLen + 2, api.RingLen + 3} {
		x.layCell(t, s, maxSeq)
	}
	x.spentIs(t, false, "a blank ring between cells")
	x.layCell(t, 2, maxSeq)
	x.spentIs(t, true, "a ring of the greatest seq")
}

// TestSpentByPuts puts till nothing can be put any more, and erases beside the ring.
func TestSpentByPuts(t *testing.T) {
	for _, budget := range []int{-1, 0, 1, 3, 20} {
		x := middle(api.RingLen+1, budget)
		puts := api.RingLen * (1 + max(budget, 0))
		for k := range puts {
			x.spentIs(t, false, fmt.Sprintf("%d of %d Puts", k, puts))
			if e := ring.Put(x.a, []byte{byte(k)}); e != api.OK {
				t.Fatalf("P1401: Put %d: %d", k, e)
			}
			x.sumIs(t, "behind a Put")
		}
		x.spentIs(t, true, "all Puts")
		if e := ring.Put(x.a, nil); e != api.ErrWorn {
			t.Fatalf("P1401: a Put of a ring that is spent: %d", e)
		}
		if want := max(budget, 0); Sum(x.a) != want {
			t.Errorf("P1401: Sum of a ring that is spent: %d, not %d", Sum(x.a), want)
		}
		x.wear(t, 1)
		x.spentIs(t, false, "a next one that another made blank")
	}
	x := middle(api.RingLen, 9)
	x.layCell(t, 1, maxSeq-1)
	if Spent(x.a) || ring.Put(x.a, nil) != api.OK || !Spent(x.a) || ring.Put(x.a, nil) != api.ErrWorn {
		t.Error("P1401: Spent at the greatest seqs")
	}
}

// mixed makes a ring with cells, of which the next sector is no cell and has no erase left; the sectors have 3, 5, 0, 6, 0, 6, 4 left.
func mixed(t *testing.T) bench {
	t.Helper()
	x := middle(7, 6)
	x.wear(t, 3, 1, 6, 0, 9, 0, 2)
	x.layCell(t, 0, 4)
	x.layCell(t, 1, 5)
	x.lay(t, 2, []byte{1, 2, 3})
	x.lay(t, 5, []byte{9})
	return x
}

// TestAskingTurnsNothing asks with power, without it, and with a cut to come.
func TestAskingTurnsNothing(t *testing.T) {
	want := answers{sum: 24, least: 3, some: 1, ok: true, is: true, spent: true}
	for _, power := range []string{"on", "off", "a cut to come"} {
		x := mixed(t)
		if power == "off" {
			x.turnOff(t)
		} else if power == "a cut to come" {
			x.f.Cut(0, nil)
		}
		before := x.state()
		for range 5 {
			if got := asked(x.a); got != want {
				t.Errorf("P1402: power: %s: %v, not %v", power, got, want)
			}
			x.allRight(t, power)
			if !same(x.state(), before) {
				t.Errorf("P1402: power: %s: asking turned something", power)
			}
		}
	}
}

// TestAskingMovesNoCut says a cut, asks, and has the cut come where it would have come without that.
func TestAskingMovesNoCut(t *testing.T) {
	for n := range 4 {
		x, y := mixed(t), mixed(t)
		x.f.Cut(n, []byte{0x0f, 0xf0})
		y.f.Cut(n, []byte{0x0f, 0xf0})
		for k := range 6 {
			asked(x.a)
			if x.a.Erase(k%3) != y.a.Erase(k%3) || x.a.Program(3, k, []byte{0}) != y.a.Program(3, k, []byte{0}) || !same(x.state(), y.state()) {
				t.Fatalf("P1402: a cut at %d came elsewhere, step %d", n, k)
			}
		}
		x.f.Power()
		y.f.Power()
		if !same(x.state(), y.state()) || asked(x.a) != asked(y.a) {
			t.Errorf("P1402: two flashes that were told the same differ behind a cut at %d", n)
		}
	}
}

// TestNothingIsKept asks of two areas in turn, of which one is turned in between, and of a new area of the same sectors.
func TestNothingIsKept(t *testing.T) {
	x, y := mixed(t), middle(7, 6)
	first, blank := asked(x.a), asked(y.a)
	if first == blank {
		t.Fatal("the two tell the same")
	}
	for range 3 {
		asked(nil)
		Least(y.a, math.MaxInt, math.MinInt)
		if got := asked(x.a); got != first {
			t.Errorf("P1402: %v behind other calls, not %v", got, first)
		}
		if got := asked(y.a); got != blank {
			t.Errorf("P1402: %v behind other calls, not %v", got, blank)
		}
		if got := asked(area.New(x.f, api.Cap{From: x.from, Len: x.count}, x.budget)); got != first {
			t.Errorf("P1402: %v of a new area, not %v", got, first)
		}
	}
	x.f.Erase(x.from + 3)
	if at, ok := Least(x.a, 0, 7); Sum(x.a) != 23 || at != 5 || !ok || !Spent(x.a) {
		t.Errorf("P1402: an erase is not told: %d, %d", Sum(x.a), at)
	}
	x.f.Erase(x.from + 2)
	if Sum(x.a) != 23 || Spent(x.a) {
		t.Error("P1402: that the next one is blank is not told")
	}
	if got := asked(y.a); got != blank {
		t.Errorf("P1402: %v behind another flash's erases, not %v", got, blank)
	}
}

// TestBudgets has several areas of the same sectors with budgets of their own.
func TestBudgets(t *testing.T) {
	x := mixed(t)
	for _, y := range []struct {
		budget int
		want   answers
	}{
		{-1, answers{0, 0, 1, true, true, true}}, {0, answers{0, 0, 1, true, true, true}}, {1, answers{2, 3, 1, true, true, true}}, {6, answers{24, 3, 1, true, true, true}}, {7, answers{30, 3, 1, true, true, false}}, {1000, answers{6979, 3, 1, true, true, false}}, {1001, answers{6979, 3, 1, true, true, false}},
	} {
		if got := asked(area.New(x.f, api.Cap{From: x.from, Len: x.count}, y.budget)); got != y.want {
			t.Errorf("P1402: a budget of %d: %v, not %v", y.budget, got, y.want)
		}
	}
}

// TestLongRun draws erases, Puts, cuts and power, and holds all answers against those reckoned by the flash alone, and against a twin that is never asked.
func TestLongRun(t *testing.T) {
	for seed := range 20 {
		c := chance(seed)
		n := c.below(8)
		x := middle(n, c.below(6)-1)
		y := middle(n, x.budget)
		for k := range 60 {
			s, kind, mask := c.below(n+4)-2, c.below(8), []byte{byte(c.below(256)), byte(c.below(256))}
			for _, z := range []bench{x, y} {
				switch kind {
				case 0, 1:
					z.a.Erase(s)
				case 2:
					z.f.Erase(z.from + s)
				case 3, 4, 5:
					ring.Put(z.a, mask)
				case 6:
					z.f.Cut(int(mask[0])%3, mask)
				default:
					z.f.Power()
				}
			}
			x.allRight(t, fmt.Sprint("seed ", seed, ", step ", k))
		}
		if !same(x.state(), y.state()) || asked(x.a) != asked(y.a) {
			t.Errorf("P1402: seed %d: a flash that was asked differs from one that was not", seed)
		}
	}
}

// TestAtOnce asks of one area from several goroutines.
func TestAtOnce(t *testing.T) {
	x := mixed(t)
	want, got := asked(x.a), make([]answers, 8)
	var all sync.WaitGroup
	for i := range got {
		all.Add(1)
		go func() {
			defer all.Done()
			for range 20 {
				got[i] = asked(x.a)
			}
		}()
	}
	all.Wait()
	for i := range got {
		if got[i] != want {
			t.Errorf("P1402: asked at once: %v, not %v", got[i], want)
		}
	}
}
