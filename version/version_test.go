package version

import (
	"fmt"
	"math"
	"slices"
	"sync"
	"testing"

	"waterline/api"
)

// top is the greatest version that may come.
const top = 1073741824

// chance makes numbers, the same ones at each run.
type chance uint64

// below makes a number of 0 to n-1.
func (c *chance) below(n int) int {
	*c = *c*6364136223846793005 + 1442695040888963407
	return int(*c>>33) % n
}

// one makes one of the numbers of l.
func (c *chance) one(l []int) int { return l[c.below(len(l))] }

func (c *chance) image(l []int) api.Image {
	out := api.Image{Version: c.one(l), Size: c.one(l)}
	for i := range out.Digest {
		out.Digest[i] = byte(c.below(256))
	}
	return out
}

// meta makes a Meta of any numbers, most of them not Right.
func (c *chance) meta(l []int) api.Meta {
	return api.Meta{
		Active: c.one(l), Have: [2]api.Image{c.image(l), c.image(l)}, Min: c.one(l), Phase: c.one(l),
		Coming: c.image(l), Got: c.one(l), Trials: c.one(l),
	}
}

// edges are numbers at and around each limit, far from them, and those that have a limit's lowest bits.
func edges() []int {
	return []int{
		math.MinInt, math.MinInt + 1, math.MinInt + 2, math.MinInt + top, -1 << 62, -1<<32 - 1, -1 << 32, -1<<32 + 1, -1<<32 + 5, math.MinInt32, -top - 1, -top, -top + 1, -1000, -9, -2, -1,
		0, 1, 2, 3, 4, 5, 6, 7, 9, 255, 256, 257, 1000, 1 << 16, 1<<16 + 1, top / 2, top - 2,
		top - 1, top, top + 1, top + 2, math.MaxInt32, 1 << 31, 1 << 32, 1<<32 + 1, 1<<32 + 5, 1<<32 + top, 1 << 62, 1<<62 + 1, math.MaxInt - 1, math.MaxInt,
	}
}

// around are n, and the numbers beside it that an int can be.
func around(n int) []int {
	out := []int{n}
	if n > math.MinInt {
		out = append(out, n-1)
	}
	if n < math.MaxInt {
		out = append(out, n+1)
	}
	return out
}

// mayCome is a second reading of May: what refuses a version.
func mayCome(least, v int) bool {
	switch {
	case v < 1:
		return false
	case v > top:
		return false
	case v < least:
		return false
	}
	return true
}

// confirmed is a second reading of Confirm, of the Version of the slot that is not active.
func confirmed(least, v int) int {
	switch {
	case v < 1:
		return least
	case v < least:
		return least
	}
	return v
}

// kept is a Meta with these Versions, of a tenant that is Idle.
func kept(active, zero, one, least int) api.Meta {
	return api.Meta{Active: active, Have: [2]api.Image{{Version: zero, Size: 1}, {Version: one, Size: 1}}, Min: least}
}

// mayIs fails unless May of m, v is want.
func mayIs(t *testing.T, m api.Meta, v int, want bool) {
	t.Helper()
	if got := May(m, v); got != want {
		t.Fatalf("P1601: May of %+v, %d: %v", m, v, got)
	}
}

// confirmIs fails unless Confirm of m is want.
func confirmIs(t *testing.T, m api.Meta, want int) {
	t.Helper()
	if got := Confirm(m); got != want {
		t.Fatalf("P1601: Confirm of %+v: %d, not %d", m, got, want)
	}
}

func TestExample(t *testing.T) {
	mayIs(t, api.Meta{}, 1, true)
}

func TestLimit(t *testing.T) {
	if api.MaxVersion != top {
		t.Fatal("the limit is another")
	}
}

func TestMayByNumbers(t *testing.T) {
	for _, x := range []struct {
		least, v int
		want     bool
	}{
		{0, math.MinInt, false}, {0, math.MinInt + 1, false}, {0, -top, false}, {0, -2, false}, {0, -1, false}, {0, 0, false},
		{0, 1, true}, {0, 2, true}, {0, top - 1, true}, {0, top, true}, {0, top + 1, false}, {0, 1<<32 + 1, false}, {0, math.MaxInt, false},
		{-1, -1, false}, {-1, 0, false}, {-1, 1, true}, {-9, -8, false}, {-9, 0, false}, {-9, top, true}, {-9, top + 1, false},
		{1, 0, false}, {1, 1, true}, {1, 2, true}, {2, 1, false}, {2, 2, true}, {2, 3, true}, {3, 2, false}, {5, 4, false}, {5, 5, true}, {5, 6, true},
		{top - 1, top - 2, false}, {top - 1, top - 1, true}, {top - 1, top, true}, {top - 1, top + 1, false},
		{top, 1, false}, {top, top - 1, false}, {top, top, true}, {top, top + 1, false},
		{top + 1, 1, false}, {top + 1, top, false}, {top + 1, top + 1, false}, {top + 1, top + 2, false},
		{math.MinInt, math.MinInt, false}, {math.MinInt, 0, false}, {math.MinInt, 1, true}, {math.MinInt, top, true}, {math.MinInt, top + 1, false}, {math.MinInt, math.MaxInt, false},
		{math.MaxInt, 0, false}, {math.MaxInt, 1, false}, {math.MaxInt, top, false}, {math.MaxInt, math.MaxInt, false}, {math.MaxInt - 1, math.MaxInt, false},
		{1<<32 + 1, 5, false}, {-1<<32 + 5, 1, true},
	} {
		mayIs(t, api.Meta{Min: x.least}, x.v, x.want)
	}
}

// TestMayOfEachEdge has each version with each Min, and with those around the version itself.
func TestMayOfEachEdge(t *testing.T) {
	for _, v := range edges() {
		for _, least := range slices.Concat(edges(), around(v)) {
			mayIs(t, api.Meta{Min: least}, v, mayCome(least, v))
		}
	}
}

// TestMayCounts counts the versions that may come, near both ends.
func TestMayCounts(t *testing.T) {
	for _, x := range []struct{ least, low, high int }{
		{math.MinInt, 100, 101}, {-1, 100, 101}, {0, 100, 101}, {1, 100, 101}, {2, 99, 101}, {50, 51, 101}, {100, 1, 101}, {101, 0, 101},
		{top - 100, 0, 101}, {top - 1, 0, 2}, {top, 0, 1}, {top + 1, 0, 0}, {math.MaxInt, 0, 0},
	} {
		low, high := 0, 0
		for i := -100; i <= 100; i++ {
			if May(api.Meta{Min: x.least}, i) {
				low++
			}
			if May(api.Meta{Min: x.least}, top+i) {
				high++
			}
		}
		if low != x.low || high != x.high {
			t.Errorf("P1601: with a Min of %d may come %d of the least versions, %d of the greatest", x.least, low, high)
		}
	}
}

// others are changes of each thing of a Meta that neither May nor Confirm looks at, by any number n.
func others() []func(m *api.Meta, n int) {
	return []func(m *api.Meta, n int){
		func(m *api.Meta, n int) { m.Have[0].Size = n },
		func(m *api.Meta, n int) { m.Have[0].Digest[n&31] ^= 0x5a },
		func(m *api.Meta, n int) { m.Have[1].Size = n },
		func(m *api.Meta, n int) { m.Have[1].Digest[n&31] ^= 0x5a },
		func(m *api.Meta, n int) { m.Phase = n },
		func(m *api.Meta, n int) { m.Coming.Version = n },
		func(m *api.Meta, n int) { m.Coming.Size = n },
		func(m *api.Meta, n int) { m.Coming.Digest[n&31] ^= 0x5a },
		func(m *api.Meta, n int) { m.Got = n },
		func(m *api.Meta, n int) { m.Trials = n },
	}
}

// someMetas are Metas of each phase that are Right, with either slot active, and some that are not.
func someMetas() []api.Meta {
	image := func(v int) api.Image { return api.Image{Version: v, Size: 700, Digest: [32]byte{byte(v), 9}} }
	var out []api.Meta
	for active := range 2 {
		idle := api.Meta{Active: active, Min: 5}
		idle.Have[active] = image(5)
		receiving, verified, trial := idle, idle, idle
		receiving.Phase, receiving.Coming, receiving.Got = api.Receiving, image(8), 1
		verified.Phase, verified.Coming, verified.Got = api.Verified, image(8), 3
		trial.Have[1-active], trial.Phase, trial.Trials = image(8), api.Trial, 2
		out = append(out, idle, receiving, verified, trial)
	}
	wrong := api.Meta{Active: 1, Min: 5, Phase: 77, Got: -1, Trials: math.MaxInt}
	return append(out, wrong, api.Meta{}, api.Meta{Active: math.MinInt, Have: [2]api.Image{{Version: -3}, {Size: 8}}, Min: 5})
}

// TestMayLooksAtMinAlone turns all else of Metas, Right and not.
func TestMayLooksAtMinAlone(t *testing.T) {
	turns := append(others(),
		func(m *api.Meta, n int) { m.Active = n },
		func(m *api.Meta, n int) { m.Have[0].Version = n },
		func(m *api.Meta, n int) { m.Have[1].Version = n },
	)
	for _, m := range someMetas() {
		for _, turn := range turns {
			for _, n := range edges() {
				x := m
				turn(&x, n)
				for _, v := range []int{math.MinInt, -1, 0, 1, 4, 5, 6, 8, top, top + 1, math.MaxInt} {
					mayIs(t, x, v, mayCome(m.Min, v))
				}
			}
		}
	}
	c := chance(1)
	for range 20000 {
		m := c.meta(edges())
		v := c.one(append(edges(), around(m.Min)...))
		mayIs(t, m, v, mayCome(m.Min, v))
	}
}

func TestConfirmByNumbers(t *testing.T) {
	for _, x := range []struct{ active, zero, one, least, want int }{
		{0, 9, 5, 3, 5}, {0, 9, 5, 4, 5}, {0, 9, 5, 5, 5}, {0, 9, 5, 6, 6}, {0, 9, 5, 7, 7}, {0, 9, top, 1, top}, {0, 9, top, 0, top}, {0, 9, 5, top, top},
		{1, 9, 5, 3, 9}, {1, 9, 5, 8, 9}, {1, 9, 5, 9, 9}, {1, 9, 5, 10, 10}, {1, 9, 5, 11, 11}, {1, top, 5, 1, top},
		{2, 9, 5, 3, 9}, {-1, 9, 5, 3, 9}, {256, 9, 5, 3, 9}, {1 << 32, 9, 5, 3, 9}, {math.MinInt, 9, 5, 3, 9}, {math.MaxInt, 9, 5, 3, 9},
		{0, 9, 0, 3, 3}, {0, 9, 0, 0, 0}, {0, 9, 0, -1, -1}, {0, 9, 0, -7, -7}, {0, 9, 0, math.MinInt, math.MinInt}, {0, 9, 0, math.MaxInt, math.MaxInt},
		{0, 9, -4, 3, 3}, {0, 9, -4, 0, 0}, {0, 9, -4, -3, -3}, {0, 9, -4, -4, -4}, {0, 9, -4, -5, -5}, {0, 9, -4, -7, -7}, {0, 9, -1, math.MinInt, math.MinInt},
		{1, 0, 5, 3, 3}, {1, 0, 5, -7, -7}, {1, -4, 5, -7, -7}, {-1, 0, 5, -7, -7}, {-1, -4, 5, math.MinInt, math.MinInt},
		{0, 9, 1, 0, 1}, {0, 9, 1, -7, 1}, {0, 9, 1, math.MinInt, 1}, {0, 9, 1, 1, 1}, {0, 9, 1, 2, 2}, {0, 9, 1, math.MaxInt, math.MaxInt},
		{0, 9, top + 1, 3, top + 1}, {0, 9, 3, top + 1, top + 1}, {0, 9, math.MaxInt, 3, math.MaxInt}, {0, 9, math.MaxInt, math.MinInt, math.MaxInt}, {0, 9, math.MaxInt, math.MaxInt, math.MaxInt},
		{0, 9, math.MinInt, 3, 3}, {0, 9, math.MinInt, math.MinInt, math.MinInt}, {0, 9, math.MinInt, math.MinInt + 1, math.MinInt + 1}, {0, 9, math.MinInt, math.MaxInt, math.MaxInt},
	} {
		confirmIs(t, kept(x.active, x.zero, x.one, x.least), x.want)
	}
	confirmIs(t, api.Meta{}, 0)
}

// withActive are m's Versions as they stand with each Active: v is of the slot that is not active, own of the one that is.
func withActive(v, own, least int) []api.Meta {
	out := []api.Meta{kept(0, own, v, least)}
	for _, active := range edges() {
		if active != 0 {
			out = append(out, kept(active, v, own, least))
		}
	}
	return out
}

// TestConfirmOfEachEdge has each Version with each Min, and with those around the Version itself, whatever is Active.
func TestConfirmOfEachEdge(t *testing.T) {
	for _, v := range edges() {
		for _, least := range slices.Concat(edges(), around(v)) {
			for _, m := range withActive(v, 7, least) {
				confirmIs(t, m, confirmed(least, v))
			}
		}
	}
}

// TestConfirmLooksAtNoMore turns the Version of the active slot, and all but Active, Min and the other slot's Version.
func TestConfirmLooksAtNoMore(t *testing.T) {
	for _, v := range []int{math.MinInt, -4, 0, 1, 5, top, math.MaxInt} {
		for _, least := range []int{math.MinInt, -7, 0, 3, 5, 7, top, math.MaxInt} {
			want := confirmed(least, v)
			for _, own := range edges() {
				confirmIs(t, kept(0, own, v, least), want)
				confirmIs(t, kept(1, v, own, least), want)
				confirmIs(t, kept(2, v, own, least), want)
				confirmIs(t, kept(-1, v, own, least), want)
				for _, turn := range others() {
					for _, m := range []api.Meta{kept(0, 9, v, least), kept(1, v, 9, least), kept(2, v, 9, least)} {
						turn(&m, own)
						confirmIs(t, m, want)
					}
				}
			}
		}
	}
}

func TestConfirmOfAnyMeta(t *testing.T) {
	for _, m := range someMetas() {
		waits := m.Have[0].Version
		if m.Active == 0 {
			waits = m.Have[1].Version
		}
		confirmIs(t, m, confirmed(m.Min, waits))
	}
	c := chance(2)
	for range 20000 {
		m := c.meta(edges())
		if c.below(2) == 0 {
			m.Active = 0
			confirmIs(t, m, confirmed(m.Min, m.Have[1].Version))
		} else if m.Active != 0 {
			confirmIs(t, m, confirmed(m.Min, m.Have[0].Version))
		}
	}
}

// TestConfirmedMayComeAgain takes what Confirm tells as the new Min: that version may come, and none below it.
func TestConfirmedMayComeAgain(t *testing.T) {
	good := []int{1, 2, 3, 4, 5, 255, 256, 257, 1 << 16, top / 2, top - 1, top}
	for _, least := range good {
		for _, v := range good {
			for _, m := range withActive(v, 7, least) {
				told := Confirm(m)
				if told != least && told != v || told < least || told < v {
					t.Fatalf("P1601: Confirm of %+v: %d", m, told)
				}
				m.Min = told
				mayIs(t, m, told, true)
				mayIs(t, m, v, v == told)
				for _, low := range []int{0, 1, told / 2, told - 2, told - 1} {
					mayIs(t, m, low, low == told)
				}
				// The least version does not rise any more, and never falls.
				confirmIs(t, m, told)
			}
		}
	}
}

// TestMinNeverFalls goes on from Confirm to Confirm, with any Metas.
func TestMinNeverFalls(t *testing.T) {
	c := chance(3)
	for range 200 {
		least := c.one(edges())
		for range 50 {
			m := c.meta(edges())
			m.Min = least
			if least = Confirm(m); least < m.Min {
				t.Fatalf("P1601: Confirm of %+v falls to %d", m, least)
			}
		}
	}
}

// TestHandedInStays looks at the Meta behind each call.
func TestHandedInStays(t *testing.T) {
	c := chance(4)
	all := someMetas()
	for range 2000 {
		all = append(all, c.meta(edges()))
	}
	was := slices.Clone(all)
	for i := range all {
		for _, v := range []int{math.MinInt, 0, 1, 5, top, math.MaxInt} {
			May(all[i], v)
		}
		Confirm(all[i])
		if all[i] != was[i] {
			t.Fatalf("P1602: a Meta was turned: %+v, not %+v", all[i], was[i])
		}
	}
}

// call makes the i-th of some calls; each answers otherwise than most others.
func call(i int) string {
	c := chance(i)
	m := c.meta(edges())
	if i%2 == 0 {
		m.Active = i / 2 % 2
	}
	v := c.one(append(edges(), around(m.Min)...))
	return fmt.Sprint(May(m, v), Confirm(m))
}

// TestNothingIsKept makes each call behind each other one: it must answer as it does alone.
func TestNothingIsKept(t *testing.T) {
	const calls = 200
	var want [calls]string
	for i := range want {
		want[i] = call(i)
	}
	for i := range want {
		for j := range want {
			call(j)
			if got := call(i); got != want[i] {
				t.Fatalf("P1602: call %d behind call %d answers %s, not %s", i, j, got, want[i])
			}
		}
	}
}

// TestKeptIsReadAnew turns one Meta from call to call: each call must tell what stands there now.
func TestKeptIsReadAnew(t *testing.T) {
	m := kept(0, 9, 5, 3)
	for range 3 {
		for _, least := range []int{3, 6, -7, top, 0} {
			m.Min = least
			if May(m, 5) != mayCome(least, 5) || Confirm(m) != confirmed(least, 5) {
				t.Fatalf("P1602: with a Min of %d: %v, %d", least, May(m, 5), Confirm(m))
			}
		}
	}
}

// TestAtOnce makes calls from many goroutines.
func TestAtOnce(t *testing.T) {
	const calls = 64
	var want, got [calls]string
	for i := range want {
		want[i] = call(i)
	}
	var all sync.WaitGroup
	for i := range got {
		all.Add(1)
		go func() {
			defer all.Done()
			for range 50 {
				got[i] = call(i)
			}
		}()
	}
	all.Wait()
	if got != want {
		t.Errorf("P1602: calls at once answer %v, not %v", got, want)
	}
}
