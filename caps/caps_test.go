package caps

import (
	"bytes"
	"fmt"
	"math"
	"reflect"
	"slices"
	"strings"
	"sync"
	"testing"
	"unicode/utf8"

	"waterline/api"
)

// chance makes numbers, the same ones at each run.
type chance uint64

// below makes a number of 0 to n-1.
func (c *chance) below(n int) int {
	*c = *c*6364136223846793005 + 1442695040888963407
	return int(*c>>33) % n
}

func (c *chance) row(n int) []byte {
	out := make([]byte, n)
	for i := range out {
		out[i] = byte(c.below(256))
	}
	return out
}

// least is a config of which all is at its least.
func least() api.Config {
	return api.Config{Name: "a", Key: []byte{0}, Slot: 1, Budget: 0, Quota: 1, Rights: 0, First: []byte{0}}
}

// greatest is a config of which all is at its greatest.
func greatest() api.Config {
	return api.Config{Name: "ωωωωωωωω", Key: bytes.Repeat([]byte{255}, 64), Slot: 6, Budget: 1000, Quota: 6, Rights: 1023, First: bytes.Repeat([]byte{255}, 1920)}
}

// tenant is a config between the two.
func tenant(name string, slot int) api.Config {
	return api.Config{Name: name, Key: []byte("key of " + name), Slot: slot, Budget: 9, Quota: 1, Rights: 1022, First: []byte("first of " + name)}
}

// nth names a tenant; each name is another one.
func nth(i int) string { return []string{"a", "b1", "α", "aa", "ab", "zω", "9", "abcdefgh"}[i] }

// some are n configs that are Right, with names and Slots of all kinds.
func some(n int) []api.Config {
	var out []api.Config
	for i := range n {
		out = append(out, tenant(nth(i), 1+i%api.MaxSlot))
		out[i].Rights = 100*i + 1
	}
	return out
}

// isRight is a second reading of what Right asks.
func isRight(c api.Config) bool {
	const letters = "abcdefghijklmnopqrstuvwxyz0123456789αβγδεζηθικλμνξοπρςστυφχψω"
	between := func(n, least, most int) bool { return n >= least && n <= most }
	if !utf8.ValidString(c.Name) || !between(len([]rune(c.Name)), 1, 8) || strings.Trim(c.Name, letters) != "" {
		return false
	}
	for _, r := range c.Name {
		if !strings.ContainsRune(letters, r) {
			return false
		}
	}
	if !between(c.Slot, 1, 6) || !between(c.Quota, 1, 6) || c.Quota > c.Slot {
		return false
	}
	return between(len(c.Key), 1, 64) && between(c.Budget, 0, 1000) && between(c.Rights, 0, 1023) && between(len(c.First), 1, 320*c.Quota)
}

// expected is a second reading of Deal.
func expected(l []api.Config) ([]api.Cap, api.Errno) {
	if len(l) == 0 || len(l) > 8 {
		return nil, api.ErrArg
	}
	names := map[string]int{}
	for _, c := range l {
		if !isRight(c) {
			return nil, api.ErrArg
		}
		names[c.Name]++
	}
	if len(names) < len(l) {
		return nil, api.ErrName
	}
	var out []api.Cap
	for i, c := range l {
		at := 0
		for _, d := range l[:i] {
			at += 4 + d.Slot + d.Slot
		}
		out = append(out, api.Cap{Rights: c.Rights, From: at, Len: 4 + c.Slot + c.Slot})
	}
	return out, api.OK
}

// rightIs holds Right of c against want, and Deal of c alone.
func rightIs(t *testing.T, c api.Config, want bool, what string) {
	t.Helper()
	if isRight(c) != want {
		t.Fatalf("%s: the second reading is %v", what, !want)
	}
	if got := Right(c); got != want {
		t.Errorf("P1501: Right of a config, %s: %v", what, got)
	}
	dealt(t, []api.Config{c}, what)
}

// dealt holds Deal of l against the second reading.
func dealt(t *testing.T, l []api.Config, what string) {
	t.Helper()
	want, e := expected(l)
	dealIs(t, l, want, e, what)
}

// dealIs fails unless Deal tells these Caps, or this error and nothing beside it.
func dealIs(t *testing.T, l []api.Config, want []api.Cap, e api.Errno, what string) {
	t.Helper()
	got, is := Deal(l)
	if is != e || !slices.Equal(got, want) {
		t.Errorf("P1501: Deal of %d, %s: %v, error %d, not %v, error %d", len(l), what, got, is, want, e)
	}
}

func TestExample(t *testing.T) {
	for _, l := range [][]api.Config{nil, {}, some(3)[:0], make([]api.Config, 0, 9)} {
		dealIs(t, l, nil, api.ErrArg, "the example")
	}
}

func TestLimits(t *testing.T) {
	if api.RingLen != 4 || api.MaxSlot != 6 || api.MaxBudget != 1000 || api.MaxTenants != 8 || api.MaxSectors != 400 || api.Sector != 320 || api.MaxName != 8 || api.QBegin != 1 || api.QStatus != 9 {
		t.Fatal("the limits are others")
	}
}

func TestNeed(t *testing.T) {
	for _, x := range []struct{ slot, want int }{
		{math.MinInt, 4}, {math.MinInt + 1, 4}, {math.MinInt / 2, 4}, {math.MinInt/2 - 1, 4}, {math.MinInt32, 4}, {-1 << 32, 4}, {-100, 4}, {-6, 4}, {-2, 4}, {-1, 4},
		{0, 4}, {1, 6}, {2, 8}, {3, 10}, {4, 12}, {5, 14}, {6, 16},
		{7, 16}, {8, 16}, {100, 16}, {256, 16}, {257, 16}, {1 << 32, 16}, {1<<32 + 1, 16}, {math.MaxInt32, 16}, {math.MaxInt / 2, 16}, {math.MaxInt/2 + 1, 16}, {math.MaxInt/2 + 3, 16}, {math.MaxInt - 1, 16}, {math.MaxInt, 16},
	} {
		// Need hangs on Slot alone, and the config may be any.
		for _, c := range []api.Config{{}, least(), greatest(), {Quota: -9, Budget: 9999, Rights: -1, Name: "\xff"}} {
			c.Slot = x.slot
			if got := Need(c); got != x.want {
				t.Errorf("P1501: Need of a Slot of %d: %d, not %d", x.slot, got, x.want)
			}
		}
	}
}

// A change turns one thing of a config; ok is whether it is Right then.
type change struct {
	what string
	turn func(c *api.Config)
	ok   bool
}

func named(name string, ok bool) change {
	return change{fmt.Sprintf("the name %+.40q", name), func(c *api.Config) { c.Name = name }, ok}
}

func key(n int, ok bool) change {
	return change{fmt.Sprintf("a key of %d bytes", n), func(c *api.Config) { c.Key = make([]byte, n) }, ok}
}

func first(n int, ok bool) change {
	return change{fmt.Sprintf("a First of %d bytes", n), func(c *api.Config) { c.First = make([]byte, n) }, ok}
}

func slot(n int, ok bool) change {
	return change{fmt.Sprintf("a Slot of %d", n), func(c *api.Config) { c.Slot = n }, ok}
}

func budget(n int, ok bool) change {
	return change{fmt.Sprintf("a Budget of %d", n), func(c *api.Config) { c.Budget = n }, ok}
}

func quota(n int, ok bool) change {
	return change{fmt.Sprintf("a Quota of %d", n), func(c *api.Config) { c.Quota = n }, ok}
}

func rights(n int, ok bool) change {
	return change{fmt.Sprintf("Rights of %d", n), func(c *api.Config) { c.Rights = n }, ok}
}

// noNames are wrong whatever the config: empty, too long, of bytes that belong to no rune, or with a rune that is in no name.
func noNames() []change {
	var out []change
	for _, name := range []string{
		"", "aaaaaaaaa", "abcdefghi", "ωωωωωωωωω", "αbαbαbαbα", strings.Repeat("0", 16), strings.Repeat("a", 100000),
		"\xff", "\x80", "a\xff", "\xffa", "\xce", "a\xce", "\xcea", "a\xb1", "\xc1\x81", "\xed\xa0\x80", "abcdefg\xff", "\xffabcdefg", "\ufffd",
		"A", "Z", "aA", "Aa", "abcdefgH", "\u0391", "\u03a9", "a\u03a9", "\u03a2", "/", ":", "`", "{", "@", "[", "\u03b0", "\u03ca",
		" ", "a b", " a", "a ", "a\n", "a-1", "-", "abcdefg-", "-abcdefg", "\x00", "a\x00", "é", "e\u0301", "\u0430", "日", "😀", "\uff41",
	} {
		out = append(out, named(name, false))
	}
	return out
}

// goodNames are right whatever the config.
func goodNames() []change {
	var out []change
	for _, name := range []string{"a", "z", "0", "9", "α", "ω", "ς", "a1", "1a", "abcdefgh", "zzzzzzzz", "00000000", "αααααααα", "ωωωωωωωω", "abcdαβγδ", "α1β2γ3δ4"} {
		out = append(out, named(name, true))
	}
	return out
}

// wrongs are as wrong in each config: each one thing, at one step beyond its limits and far beyond.
func wrongs() []change {
	out := append(noNames(),
		key(0, false), key(65, false), key(66, false), key(128, false), key(320, false), key(1<<16, false),
		change{"a nil key", func(c *api.Config) { c.Key = nil }, false},
		change{"a key of no bytes ahead of others", func(c *api.Config) { c.Key = []byte("others")[:0] }, false},
		first(0, false), first(1921, false), first(1922, false), first(1<<16, false),
		change{"a nil First", func(c *api.Config) { c.First = nil }, false},
		change{"a First of no bytes ahead of others", func(c *api.Config) { c.First = []byte("others")[:0] }, false},
	)
	for _, n := range []int{math.MinInt, math.MinInt + 1, -1 << 62, math.MinInt32, -1 << 32, -1<<32 + 1, -1024, -256, -255, -2, -1, 1 << 11, 1 << 16, 1<<16 + 1, 1 << 32, 1<<32 + 1, 1<<32 + 6, math.MaxInt32, 1 << 62, 1<<62 + 1, math.MaxInt - 1, math.MaxInt} {
		out = append(out, slot(n, false), budget(n, false), quota(n, false), rights(n, false))
	}
	return append(out,
		slot(0, false), slot(7, false), slot(8, false), slot(256, false), slot(257, false),
		budget(1001, false), budget(1002, false), budget(1256, false), budget(2000, false),
		quota(0, false), quota(7, false), quota(8, false), quota(256, false), quota(257, false),
		rights(1024, false), rights(1025, false), rights(2047, false),
		change{"a Quota beyond the Slot", func(c *api.Config) { c.Quota = c.Slot + 1 }, false},
		change{"a First beyond the Quota", func(c *api.Config) { c.First = make([]byte, c.Quota*320+1) }, false},
		change{"Slot and Quota 0", func(c *api.Config) { c.Slot, c.Quota = 0, 0 }, false},
		change{"Slot and Quota 7", func(c *api.Config) { c.Slot, c.Quota = 7, 7 }, false},
		change{"the least Slot and Quota", func(c *api.Config) { c.Slot, c.Quota = math.MinInt, math.MinInt }, false},
		change{"the greatest Slot and Quota", func(c *api.Config) { c.Slot, c.Quota = math.MaxInt, math.MaxInt }, false},
		change{"nothing", func(c *api.Config) { *c = api.Config{} }, false},
	)
}

// goods are as right in each config.
func goods() []change {
	return append(goodNames(),
		key(1, true), key(2, true), key(32, true), key(63, true), key(64, true), first(1, true), first(2, true), first(319, true), first(320, true),
		budget(0, true), budget(1, true), budget(9, true), budget(999, true), budget(1000, true),
		rights(0, true), rights(1, true), rights(2, true), rights(512, true), rights(1022, true), rights(1023, true),
		slot(6, true),
	)
}

// changed makes each of the changes to c alone.
func changed(t *testing.T, c api.Config, changes []change) {
	t.Helper()
	rightIs(t, c, true, "as it was")
	for _, x := range changes {
		d := c
		x.turn(&d)
		rightIs(t, d, x.ok, x.what)
	}
}

func TestRightOfLeast(t *testing.T) {
	changed(t, least(), append(wrongs(), goods()...))
	changed(t, least(), []change{
		slot(1, true), slot(2, true), slot(3, true), slot(4, true), slot(5, true),
		quota(1, true), quota(2, false), quota(3, false), quota(6, false), first(321, false), first(640, false),
		{"Slot and Quota 2", func(c *api.Config) { c.Slot, c.Quota = 2, 2 }, true},
	})
}

func TestRightOfGreatest(t *testing.T) {
	changed(t, greatest(), append(wrongs(), goods()...))
	changed(t, greatest(), []change{
		slot(5, false), slot(4, false), slot(1, false), quota(6, true), quota(5, false), quota(1, false), first(1920, true), first(1919, true), first(321, true),
		{"a Quota less, and its First", func(c *api.Config) { c.Quota, c.First = 5, c.First[:1600] }, true},
		{"a Slot less, and its Quota", func(c *api.Config) { c.Slot, c.Quota = 5, 5 }, false},
		{"a Slot less, its Quota and its First", func(c *api.Config) { c.Slot, c.Quota, c.First = 5, 5, c.First[:1600] }, true},
	})
}

// TestRightOfEachQuota has each Slot with each Quota, within it and beyond, and Firsts at each chunk's end.
func TestRightOfEachQuota(t *testing.T) {
	for s := -1; s <= 8; s++ {
		for q := -1; q <= 9; q++ {
			for k := range 9 {
				for _, n := range []int{320*k - 1, 320 * k, 320*k + 1} {
					c := greatest()
					c.Slot, c.Quota, c.First = s, q, make([]byte, max(n, 0))
					want := s >= 1 && s <= 6 && q >= 1 && q <= s && n >= 1 && n <= 320*q
					rightIs(t, c, want, fmt.Sprintf("a Slot of %d, a Quota of %d, a First of %d bytes", s, q, n))
				}
			}
		}
	}
}

// TestRightOfEachNumber goes through all numbers at and around the limits, and counts those that are right.
func TestRightOfEachNumber(t *testing.T) {
	var slots, budgets, all, keys, firsts int
	for n := -2100; n <= 2100; n++ {
		for _, x := range []struct {
			count *int
			c     change
		}{
			{&slots, slot(n, n >= 1 && n <= 6)}, {&budgets, budget(n, n >= 0 && n <= 1000)}, {&all, rights(n, n >= 0 && n <= 1023)},
			{&keys, key(max(n, 0), n >= 1 && n <= 64)}, {&firsts, first(max(n, 0), n >= 1 && n <= 320)},
		} {
			c := least()
			x.c.turn(&c)
			rightIs(t, c, x.c.ok, x.c.what)
			if Right(c) {
				*x.count++
			}
		}
	}
	if slots != 6 || budgets != 1001 || all != 1024 || keys != 64 || firsts != 320 {
		t.Errorf("P1501: Right are %d Slots, %d Budgets, %d Rights, %d keys, %d Firsts", slots, budgets, all, keys, firsts)
	}
}

// TestRightOfEachRune has each rune as a name, and behind a letter.
func TestRightOfEachRune(t *testing.T) {
	count := 0
	for r := rune(0); r <= utf8.MaxRune; r++ {
		c := least()
		c.Name = string(r)
		one := Right(c)
		c.Name = "a" + c.Name
		if one != Right(c) || one != isRight(c) {
			t.Fatalf("P1501: Right of a config named %+q: %v, and behind a letter: %v", r, one, !one)
		}
		if one {
			count++
		}
	}
	if count != 26+10+25 {
		t.Errorf("P1501: Right are %d names of one rune", count)
	}
}

// TestDealOfAny has 1 up to MaxTenants that are Right, and more.
func TestDealOfAny(t *testing.T) {
	var l []api.Config
	for n := range 20 {
		c := tenant(fmt.Sprint("t", n), 1+n%6)
		l = append(l, c)
		if n < api.MaxTenants {
			if caps, e := Deal(l); e != api.OK || len(caps) != n+1 {
				t.Errorf("P1501: Deal of %d: %v, error %d", n+1, caps, e)
			}
			dealt(t, l, "Right ones")
			continue
		}
		dealIs(t, l, nil, api.ErrArg, "too many that are Right")
		// What else is wrong does not count then.
		dealIs(t, append(slices.Clone(l), c), nil, api.ErrArg, "too many, two of one name")
		dealIs(t, append(slices.Clone(l), api.Config{}), nil, api.ErrArg, "too many, the last one wrong")
	}
	dealIs(t, make([]api.Config, 9), nil, api.ErrArg, "nine of nothing")
	many := slices.Repeat(some(1), 1<<16)
	dealIs(t, many, nil, api.ErrArg, "far too many of one name")
	for n := 9; n <= len(many); n *= 2 {
		dealIs(t, many[:n], nil, api.ErrArg, "too many of one name")
	}
}

// parts makes Caps of their Rights, where they begin, and how many sectors they have.
func parts(l ...[3]int) []api.Cap {
	var out []api.Cap
	for _, x := range l {
		out = append(out, api.Cap{Rights: x[0], From: x[1], Len: x[2]})
	}
	return out
}

func TestDealByNumbers(t *testing.T) {
	with := func(rights ...int) []api.Config {
		l := some(len(rights))
		for i, r := range rights {
			l[i].Rights = r
		}
		return l
	}
	dealIs(t, with(0), parts([3]int{0, 0, 6}), api.OK, "by numbers")
	dealIs(t, with(1023, 512), parts([3]int{1023, 0, 6}, [3]int{512, 6, 8}), api.OK, "by numbers")
	dealIs(t, with(1, 2, 4, 8, 16, 32, 64, 128), parts([3]int{1, 0, 6}, [3]int{2, 6, 8}, [3]int{4, 14, 10}, [3]int{8, 24, 12}, [3]int{16, 36, 14}, [3]int{32, 50, 16}, [3]int{64, 66, 6}, [3]int{128, 72, 8}), api.OK, "by numbers")
	l := with(7, 7, 7)
	slices.Reverse(l)
	dealIs(t, l, parts([3]int{7, 0, 10}, [3]int{7, 10, 8}, [3]int{7, 18, 6}), api.OK, "by numbers, turned round")
	dealIs(t, []api.Config{least(), greatest()}, parts([3]int{0, 0, 6}, [3]int{1023, 6, 16}), api.OK, "the least and the greatest one")
	dealIs(t, []api.Config{greatest(), least()}, parts([3]int{1023, 0, 16}, [3]int{0, 16, 6}), api.OK, "the greatest and the least one")
}

// TestDealOfEachSlot has all Slots of four tenants together, and the most and the fewest sectors that all tenants can have.
func TestDealOfEachSlot(t *testing.T) {
	for n := range 6 * 6 * 6 * 6 {
		l := some(4)
		for i, k := 0, n; i < 4; i, k = i+1, k/6 {
			l[i].Slot = 1 + k%6
		}
		dealt(t, l, fmt.Sprint("Slots ", n))
	}
	for s := 1; s <= api.MaxSlot; s++ {
		l := some(api.MaxTenants)
		var want []api.Cap
		for i := range l {
			l[i].Slot = s
			want = append(want, api.Cap{Rights: 100*i + 1, From: i * (4 + 2*s), Len: 4 + 2*s})
		}
		l[7].Rights, want[7].Rights = 0, 0
		dealIs(t, l, want, api.OK, fmt.Sprint("all Slots ", s))
	}
	// No tenants that are Right take more sectors than there may be.
	if most := api.MaxTenants * Need(api.Config{Slot: math.MaxInt}); most > api.MaxSectors {
		t.Errorf("P1501: tenants can take %d sectors", most)
	}
}

// TestDealSectors looks at each sector: it is one tenant's, and none is left between them.
func TestDealSectors(t *testing.T) {
	c := chance(15)
	for range 500 {
		l := some(1 + c.below(8))
		var owners []int
		for i := range l {
			l[i].Slot, l[i].Rights = 1+c.below(6), c.below(1024)
			owners = append(owners, slices.Repeat([]int{i}, Need(l[i]))...)
		}
		caps, e := Deal(l)
		if e != api.OK || len(caps) != len(l) {
			t.Fatalf("P1501: Deal of %d: %v, error %d", len(l), caps, e)
		}
		var got []int
		for i, x := range caps {
			if x.From != len(got) || x.Rights != l[i].Rights {
				t.Fatalf("P1501: Cap %d of %v", i, caps)
			}
			got = append(got, slices.Repeat([]int{i}, x.Len)...)
		}
		if !slices.Equal(got, owners) {
			t.Fatalf("P1501: the sectors of %v are %v", caps, got)
		}
	}
}

// TestDealOfWrong has one that is not Right at each place among 1 up to MaxTenants, with each reason.
func TestDealOfWrong(t *testing.T) {
	for _, x := range wrongs() {
		for n := 1; n <= api.MaxTenants; n++ {
			for at := range n {
				l := some(n)
				x.turn(&l[at])
				dealIs(t, l, nil, api.ErrArg, fmt.Sprintf("%s at %d", x.what, at))
			}
		}
	}
	for n := 1; n <= api.MaxTenants; n++ {
		dealIs(t, make([]api.Config, n), nil, api.ErrArg, "all of them nothing")
	}
}

// TestDealOfGood has what is right at each place: one of them turns nothing of the others' Caps but where they begin.
func TestDealOfGood(t *testing.T) {
	for _, x := range goods() {
		for n := 1; n <= api.MaxTenants; n++ {
			for at := range n {
				l := some(n)
				for i := range l {
					l[i].Name = "other" + fmt.Sprint(i)
				}
				x.turn(&l[at])
				dealt(t, l, fmt.Sprintf("%s at %d", x.what, at))
				if _, e := Deal(l); e != api.OK {
					t.Errorf("P1501: Deal of %d, %s at %d: error %d", n, x.what, at, e)
				}
			}
		}
	}
}

// TestDealOfOneName has two of one name at any two places; all else of them differs.
func TestDealOfOneName(t *testing.T) {
	for n := 2; n <= api.MaxTenants; n++ {
		for i := range n {
			for j := range i {
				for _, x := range goodNames() {
					l := some(n)
					for k := range l {
						l[k].Name = fmt.Sprint("no", k)
					}
					dealt(t, l, "no two of one name")
					x.turn(&l[i])
					l[j].Name = strings.Clone(l[i].Name)
					dealIs(t, l, nil, api.ErrName, fmt.Sprintf("%s at %d and %d", x.what, j, i))
				}
			}
		}
	}
	for n := 2; n <= api.MaxTenants; n++ {
		dealIs(t, slices.Repeat([]api.Config{greatest()}, n), nil, api.ErrName, "all the same")
	}
	dealIs(t, append(some(4), some(4)...), nil, api.ErrName, "each one twice")
}

// TestDealOfNearNames has names that are nearly the same, of configs that are the same beside.
func TestDealOfNearNames(t *testing.T) {
	for _, x := range []struct {
		a, b string
		e    api.Errno
	}{
		{"a", "b", api.OK}, {"a", "aa", api.OK}, {"aa", "a", api.OK}, {"ab", "ba", api.OK}, {"abcdefgh", "abcdefgg", api.OK}, {"abcdefgh", "bbcdefgh", api.OK}, {"abcdefgh", "abcdefg", api.OK}, {"abcdefgh", "bcdefgh", api.OK}, {"abcdefgh", "abcd1fgh", api.OK},
		{"o", "ο", api.OK}, {"σ", "ς", api.OK}, {"α", "β", api.OK}, {"ααααααα", "αααααααα", api.OK}, {"αααααααα", "αααααααβ", api.OK}, {"αααααααα", "βααααααα", api.OK}, {"1", "01", api.OK}, {"0", "00", api.OK},
		{"a", "a", api.ErrName}, {"αβγ", "αβγ", api.ErrName}, {"abcdefgh", "abcdefgh", api.ErrName},
		{"a", "A", api.ErrArg}, {"A", "a", api.ErrArg}, {"A", "A", api.ErrArg}, {"abc", "abC", api.ErrArg}, {"α", "Α", api.ErrArg}, {"a", "a ", api.ErrArg}, {"a", "a\x00", api.ErrArg}, {"a", "\xff", api.ErrArg}, {"\xff", "\xff", api.ErrArg}, {"", "", api.ErrArg}, {"abcdefgh", "abcdefghi", api.ErrArg}, {"abcdefghi", "abcdefghi", api.ErrArg},
	} {
		c := greatest()
		for n := range 7 {
			l := slices.Repeat([]api.Config{c}, n+2)
			for k := range l {
				l[k].Name = fmt.Sprint("x", k)
			}
			l[0].Name, l[n+1].Name = x.a, strings.Clone(x.b)
			want, _ := expected(l)
			dealIs(t, l, want, x.e, fmt.Sprintf("the names %+q and %+q", x.a, x.b))
		}
	}
}

// TestDealOrder has a config that is not Right, and two of one name, at once, at all places: the wrong one is told, also if it is one of the two.
func TestDealOrder(t *testing.T) {
	bad := []change{key(0, false), key(65, false), slot(0, false), slot(7, false), budget(-1, false), budget(1001, false), quota(0, false), quota(7, false), rights(-1, false), rights(1024, false), first(0, false), first(1921, false)}
	for n := 2; n <= api.MaxTenants; n++ {
		for i := range n {
			for j := range i {
				for wrong := range n {
					for _, x := range bad {
						l := some(n)
						l[i].Name = l[j].Name
						x.turn(&l[wrong])
						dealIs(t, l, nil, api.ErrArg, fmt.Sprintf("one name at %d and %d, %s at %d", j, i, x.what, wrong))
					}
				}
			}
		}
	}
	for _, x := range wrongs() {
		for _, l := range [][]api.Config{{least(), least(), greatest()}, {greatest(), least(), least()}, {least(), greatest(), least()}} {
			for at := range l {
				m := slices.Clone(l)
				x.turn(&m[at])
				dealIs(t, m, nil, api.ErrArg, fmt.Sprintf("one name, and %s at %d", x.what, at))
			}
		}
	}
}

// allRightsOf are Rights of no bit, of each single one, of some, of all, and of those that are no kind's.
func allRightsOf() []int {
	out := []int{0, 1022, 1023, 1024, 0b0101010101, 0b1010101010, 0x3fc, -1, -2, -3, -1024, -1023, 1 << 31, 1 << 32, math.MaxInt32, math.MaxInt, math.MaxInt - 1, math.MinInt, math.MinInt + 1, math.MinInt + 1022, ^1023, ^1022, ^512}
	for bit := range 64 {
		one := int(uint64(1) << bit)
		out = append(out, one, ^one, 1023&^one, one|1)
	}
	return out
}

// allKinds are all from below 0 to beyond an int's bits, and those that have a kind's lowest bits.
func allKinds() []int {
	out := []int{math.MinInt, math.MinInt + 1, math.MinInt + 5, math.MinInt + 64, -1 << 32, -1<<32 + 1, 256, 257, 261, 265, 1 << 16, 1<<32 + 5, 1 << 62, 1<<62 + 9, math.MaxInt32, math.MaxInt - 1, math.MaxInt}
	for kind := -140; kind <= 140; kind++ {
		out = append(out, kind)
	}
	return out
}

func TestMay(t *testing.T) {
	for _, rights := range allRightsOf() {
		// The bits, the highest first.
		bits := fmt.Sprintf("%064b", uint64(rights))
		for _, kind := range allKinds() {
			want := kind >= 1 && kind <= 9 && bits[max(63-kind, 0)%64] == '1'
			for _, c := range parts([3]int{rights}, [3]int{rights, 1, 16}, [3]int{rights, -1, -1}, [3]int{rights, math.MaxInt, math.MinInt}) {
				if got := May(c, kind); got != want {
					t.Errorf("P1501: May of Rights of %b, kind %d: %v", rights, kind, got)
				}
			}
		}
	}
}

func TestMayByNumbers(t *testing.T) {
	for _, x := range []struct{ rights, kinds int }{
		{0, 0}, {1, 0}, {2, 1}, {4, 1}, {512, 1}, {1024, 0}, {1022, 9}, {1023, 9}, {-1, 9}, {-2, 9}, {-1024, 0}, {math.MinInt, 0}, {math.MaxInt, 9}, {^2, 8}, {1023 - 32, 8}, {6, 2},
	} {
		got := 0
		for _, kind := range allKinds() {
			if May(api.Cap{Rights: x.rights, Len: 6}, kind) {
				got++
			}
		}
		if got != x.kinds {
			t.Errorf("P1501: Rights of %d are of %d kinds, not %d", x.rights, got, x.kinds)
		}
	}
	for kind := api.QBegin; kind <= api.QStatus; kind++ {
		for other := api.QBegin; other <= api.QStatus; other++ {
			if got := May(api.Cap{Rights: 1 << kind}, other); got != (kind == other) {
				t.Errorf("P1501: May of kind %d alone, kind %d: %v", kind, other, got)
			}
		}
	}
}

// TestMayOfDealt asks of the Caps that Deal made.
func TestMayOfDealt(t *testing.T) {
	for rights := range 1024 {
		l := some(2)
		l[1].Rights = rights
		caps, _ := Deal(l)
		for kind := -1; kind <= 11; kind++ {
			want := kind >= 1 && kind <= 9 && rights&(1<<kind) != 0
			if got := May(caps[1], kind); got != want {
				t.Errorf("P1501: May of Rights of %b, kind %d: %v", rights, kind, got)
			}
		}
	}
}

// copied is l with memory of its own; lists that are nil stay so.
func copied(l []api.Config) []api.Config {
	out := slices.Clone(l)
	for i := range out {
		out[i].Key, out[i].First = slices.Clone(out[i].Key), slices.Clone(out[i].First)
		out[i].Name = strings.Clone(out[i].Name)
	}
	return out
}

// rows are some that are Right, some that are not, and two of one name.
func rows() [][]api.Config {
	wrong, same, long := some(5), some(6), some(8)
	wrong[4].Key = nil
	same[5].Name = same[2].Name
	return [][]api.Config{some(1), some(2), long, wrong, same, append(long, least()), nil, {{}}, {least(), greatest()}, {greatest(), greatest()}}
}

// TestHandedInStays looks at all that is handed in, and at the memory behind it, which must neither be turned nor be read.
func TestHandedInStays(t *testing.T) {
	for i, l := range rows() {
		for _, room := range []api.Config{{}, greatest(), {Name: "a", Slot: -1}} {
			whole := append(copied(l), slices.Repeat([]api.Config{room}, 12)...)
			for k := range whole {
				// Bytes behind those of the key and of the First.
				whole[k].Key = append(whole[k].Key, "behind"...)[:len(whole[k].Key)]
				whole[k].First = append(whole[k].First, make([]byte, 2000)...)[:len(whole[k].First)]
			}
			was := copied(whole)
			dealt(t, whole[:len(l)], fmt.Sprint("row ", i, " with room behind"))
			for k := range whole {
				Right(whole[k])
				Need(whole[k])
			}
			if !reflect.DeepEqual(whole, was) {
				t.Errorf("P1502: row %d, or the memory behind it, was turned", i)
			}
			for _, c := range whole {
				key, first := c.Key[:cap(c.Key)], c.First[:cap(c.First)]
				if !bytes.HasPrefix(key[len(c.Key):], []byte("behind")) || slices.Max(first[len(c.First):len(c.First)+2000]) != 0 {
					t.Errorf("P1502: row %d: the memory behind a list was turned", i)
				}
			}
		}
	}
}

// spoil turns all of l, its keys and its Firsts.
func spoil(l []api.Config) {
	for i := range l {
		for k := range l[i].Key {
			l[i].Key[k] ^= 0x55
		}
		for k := range l[i].First {
			l[i].First[k] ^= 0x55
		}
		l[i] = api.Config{Name: "spoilt", Slot: -l[i].Slot, Rights: ^l[i].Rights}
	}
}

// TestNotKept turns what was handed in: the Caps must stay, and the next call must read what stands there now.
func TestNotKept(t *testing.T) {
	for _, n := range []int{1, 2, 5, 8} {
		l := some(n)
		was := copied(l)
		want, _ := expected(l)
		got, _ := Deal(l)
		spoil(l)
		if !slices.Equal(got, want) {
			t.Errorf("P1502: the Caps were turned with the configs: %v, not %v", got, want)
		}
		dealIs(t, l, nil, api.ErrArg, "a row that was spoilt")
		copy(l, copied(was))
		dealIs(t, l, want, api.OK, "a row that was made whole again")
		l[n-1].Slot, l[n-1].Rights = 6, 512
		again, _ := expected(l)
		dealIs(t, l, again, api.OK, "a row of which one was turned")
		copy(l, copied(was))
		for i := range got {
			got[i] = api.Cap{Rights: -1, From: -1, Len: -1}
		}
		if !reflect.DeepEqual(l, was) {
			t.Error("P1502: the configs were turned with the Caps")
		}
		dealIs(t, l, want, api.OK, "behind Caps that were turned")
	}
}

// TestKeyBytes turns a key and a First from call to call: what they hold does not count.
func TestKeyBytes(t *testing.T) {
	c := chance(4)
	x := greatest()
	for range 200 {
		copy(x.Key, c.row(len(x.Key)))
		copy(x.First, c.row(len(x.First)))
		rightIs(t, x, true, "bytes of all kinds")
	}
}

// TestNewMemory turns and grows what was answered: neither another answer nor a later one turns.
func TestNewMemory(t *testing.T) {
	for n := 1; n <= api.MaxTenants; n++ {
		l := some(n)
		want, _ := expected(l)
		one, _ := Deal(l)
		two, _ := Deal(l)
		other, _ := Deal(some(1))
		one = append(one, api.Cap{Rights: 9})
		one = one[:cap(one)]
		for i := range one {
			one[i] = api.Cap{Rights: 1, From: 2, Len: 3}
		}
		if !slices.Equal(two, want) || !slices.Equal(other, want[:1]) {
			t.Errorf("P1502: answers of Deal share memory: %v, %v", two, other)
		}
		two[0].Len = 99
		room := two[:cap(two)]
		room[len(room)-1].From = 77
		dealIs(t, l, want, api.OK, "behind an answer that was turned")
	}
	none, _ := Deal(nil)
	none = append(none, api.Cap{Len: 5})
	if again, e := Deal(nil); len(again) != 0 || e != api.ErrArg {
		t.Errorf("P1502: Deal of nothing hangs on an earlier answer: %v, %v", again, none)
	}
}

// answer is all that the calls answer, in a form that can be held against another.
type answer struct {
	need       int
	right, may bool
	caps       string
	e          api.Errno
}

// call makes the i-th of some calls; each answers otherwise than most others.
func call(i int) answer {
	c := chance(i)
	l := rows()[i%len(rows())]
	x := greatest()
	all := append(wrongs(), goods()...)
	all[c.below(len(all))].turn(&x)
	if i%3 == 0 && len(l) > 0 {
		l[c.below(len(l))].Slot = c.below(9)
	}
	caps, e := Deal(l)
	return answer{Need(x), Right(x), May(api.Cap{Rights: c.below(1024)}, c.below(12)-1), fmt.Sprint(caps), e}
}

// TestOnlyArguments calls in several orders: an answer that hung on an earlier call would differ.
func TestOnlyArguments(t *testing.T) {
	var want [60]answer
	for i := range want {
		want[i] = call(i)
	}
	for i := range want {
		for j := range want {
			call(j)
			if got := call(i); got != want[i] {
				t.Fatalf("P1502: call %d behind call %d answers %v, not %v", i, j, got, want[i])
			}
		}
	}
}

// TestAtOnce calls from several goroutines with the same arguments.
func TestAtOnce(t *testing.T) {
	l := some(8)
	want, _ := expected(l)
	got := make([][]api.Cap, 8)
	var all sync.WaitGroup
	for i := range got {
		all.Add(1)
		go func() {
			defer all.Done()
			for range 50 {
				got[i], _ = Deal(l)
				got[i][i].Len += Need(l[i]) - got[i][i].Len
			}
		}()
	}
	all.Wait()
	for i := range got {
		if !slices.Equal(got[i], want) {
			t.Errorf("P1502: Deal at once: %v, not %v", got[i], want)
		}
	}
}

// TestLongRun draws configs of all kinds, and holds all answers against the second reading.
func TestLongRun(t *testing.T) {
	var counts [17]int
	for seed := range 20000 {
		c := chance(seed)
		l := some(1 + c.below(8))
		for range c.below(6) {
			x := append(goods(), slot(1+c.below(6), true), named(nth(c.below(8)), true))
			x[c.below(len(x))].turn(&l[c.below(len(l))])
		}
		if c.below(4) == 0 {
			x := wrongs()
			x[c.below(len(x))].turn(&l[c.below(len(l))])
		}
		dealt(t, l, fmt.Sprint("seed ", seed))
		for i, x := range l {
			if Right(x) != isRight(x) {
				t.Fatalf("P1501: seed %d: Right of config %d, named %+.40q: %v", seed, i, x.Name, Right(x))
			}
		}
		_, e := Deal(l)
		counts[e]++
	}
	if counts[api.OK] < 1000 || counts[api.ErrArg] < 1000 || counts[api.ErrName] < 1000 {
		t.Errorf("the drawn ones are of too few kinds: %v", counts)
	}
}
