package update

import (
	"fmt"
	"math"
	"math/big"
	"slices"
	"sync"
	"testing"

	"waterline/api"
	"waterline/manifest"
	"waterline/meta"
)

// top is the greatest version that may come.
const top = 1073741824

// chance makes numbers, the same ones at each run.
type chance uint64

// below makes a number of 0 to n-1.
func (c *chance) below(n int) int {
	*c = *c*6364136223846793005 + 1442695040888963407
	return int(*c>>33) % n
}

// one makes one of the numbers of l.
func (c *chance) one(l []int) int { return l[c.below(len(l))] }

func (c *chance) row(n int) []byte {
	out := make([]byte, n)
	for i := range out {
		out[i] = byte(c.below(256))
	}
	return out
}

// edges are numbers at and around each limit, far from them, and those that have a limit's lowest bits.
func edges() []int {
	return []int{
		math.MinInt, math.MinInt + 1, math.MinInt + 2, math.MinInt + 320, math.MinInt + 321, -1 << 62, -1<<32 - 1, -1 << 32, -1<<32 + 1, -1<<32 + 2, math.MinInt32, -top, -1921, -1920, -641, -640, -321, -320, -319, -10, -9, -2, -1,
		0, 1, 2, 3, 4, 5, 6, 7, 8, 9, 10, 255, 256, 257, 258, 319, 320, 321, 639, 640, 641, 959, 960, 961, 1919, 1920, 1921, 2239, 2240, 2241,
		top - 1, top, top + 1, math.MaxInt32, 1 << 31, 1<<32 - 1, 1 << 32, 1<<32 + 1, 1<<32 + 2, 1<<32 + 9, 1<<32 + 320, 1 << 62, math.MaxInt/320 - 1, math.MaxInt / 320, math.MaxInt/320 + 1, math.MaxInt/320 + 2, math.MaxInt - 320, math.MaxInt - 319, math.MaxInt - 1, math.MaxInt,
	}
}

// digest has 32 bytes of which each is another one.
func digest(from int) [32]byte {
	var out [32]byte
	for i := range out {
		out[i] = byte(from*32 + i + 1)
	}
	return out
}

func made(version, size int) api.Image {
	return api.Image{Version: version, Size: size, Digest: digest(version)}
}

// pieces is a second reading of Chunks.
func pieces(size int) int {
	if size <= 0 {
		return 0
	}
	n := size / 320
	if size%320 > 0 {
		n++
	}
	return n
}

// rest is a second reading of Len, by numbers that may be of any size.
func rest(size, n int) int {
	if n < 0 {
		return 0
	}
	ahead := new(big.Int).Mul(big.NewInt(int64(n)), big.NewInt(320))
	left := ahead.Sub(big.NewInt(int64(size)), ahead)
	switch {
	case left.Sign() < 0:
		return 0
	case left.Cmp(big.NewInt(320)) > 0:
		return 320
	}
	return int(left.Int64())
}

func TestLimits(t *testing.T) {
	if api.Sector != 320 || api.MaxSlot != 6 || api.MaxVersion != top || api.Trials != 2 {
		t.Fatal("the limits are others")
	}
}

func TestExample(t *testing.T) {
	if got := Chunks(1); got != 1 {
		t.Fatalf("P1701: Chunks(1): %d", got)
	}
}

func chunksIs(t *testing.T, size, want int) {
	t.Helper()
	if got := Chunks(size); got != want {
		t.Fatalf("P1701: Chunks(%d): %d, not %d", size, got, want)
	}
}

func lenIs(t *testing.T, size, n, want int) {
	t.Helper()
	if got := Len(size, n); got != want {
		t.Fatalf("P1701: Len(%d, %d): %d, not %d", size, n, got, want)
	}
}

func TestChunksByNumbers(t *testing.T) {
	for _, x := range []struct{ size, want int }{
		{math.MinInt, 0}, {math.MinInt + 1, 0}, {-1 << 32, 0}, {-1920, 0}, {-321, 0}, {-320, 0}, {-319, 0}, {-2, 0}, {-1, 0}, {0, 0},
		{1, 1}, {2, 1}, {319, 1}, {320, 1}, {321, 2}, {639, 2}, {640, 2}, {641, 3}, {960, 3}, {961, 4},
		{1600, 5}, {1601, 6}, {1919, 6}, {1920, 6}, {1921, 7}, {2240, 7}, {2241, 8},
		{top, 3355444}, {1 << 32, 13421773}, {1<<32 + 1, 13421773},
		{math.MaxInt - 1, 28823037615171175}, {math.MaxInt, 28823037615171175}, {math.MaxInt - 127, 28823037615171174}, {math.MaxInt - 126, 28823037615171175},
	} {
		chunksIs(t, x.size, x.want)
	}
	for _, size := range edges() {
		chunksIs(t, size, pieces(size))
	}
	for size := -1000; size < 10000; size++ {
		chunksIs(t, size, pieces(size))
	}
}

func TestLenByNumbers(t *testing.T) {
	for _, x := range []struct{ size, n, want int }{
		{-1, 0, 0}, {-320, 0, 0}, {-320, -1, 0}, {-640, -2, 0}, {-640, -3, 0}, {math.MinInt, 0, 0}, {math.MinInt, math.MinInt, 0}, {math.MinInt, math.MaxInt, 0},
		{0, -1, 0}, {0, 0, 0}, {0, 1, 0}, {0, math.MinInt, 0}, {0, math.MaxInt, 0},
		{1, -1, 0}, {1, 0, 1}, {1, 1, 0}, {1, math.MinInt, 0}, {1, math.MaxInt, 0},
		{100, -1, 0}, {100, 0, 100}, {100, 1, 0}, {319, 0, 319}, {319, 1, 0},
		{320, -1, 0}, {320, 0, 320}, {320, 1, 0}, {320, 2, 0}, {321, 0, 320}, {321, 1, 1}, {321, 2, 0},
		{640, -1, 0}, {640, 0, 320}, {640, 1, 320}, {640, 2, 0}, {640, math.MinInt, 0}, {640, math.MaxInt, 0},
		{900, 0, 320}, {900, 1, 320}, {900, 2, 260}, {900, 3, 0}, {900, -1, 0}, {900, math.MinInt, 0}, {900, math.MaxInt, 0},
		{1920, 4, 320}, {1920, 5, 320}, {1920, 6, 0}, {1921, 5, 320}, {1921, 6, 1}, {1921, 7, 0},
		{320, 1 << 32, 0}, {640, 1<<32 + 1, 0}, {640, -1<<32 + 1, 0}, {640, 1 << 58, 0}, {640, -1 << 58, 0}, {640, 1 << 62, 0}, {640, math.MinInt + 1, 0},
		{math.MaxInt, -1, 0}, {math.MaxInt, 0, 320}, {math.MaxInt, 28823037615171173, 320}, {math.MaxInt, 28823037615171174, 127}, {math.MaxInt, 28823037615171175, 0},
		{math.MaxInt, math.MinInt, 0}, {math.MaxInt, math.MaxInt, 0}, {math.MaxInt - 127, 28823037615171173, 320}, {math.MaxInt - 127, 28823037615171174, 0},
	} {
		lenIs(t, x.size, x.n, x.want)
	}
	for _, size := range edges() {
		for _, n := range edges() {
			lenIs(t, size, n, rest(size, n))
		}
		for _, n := range []int{-1, 0, 1} {
			lenIs(t, size, pieces(size)+n, rest(size, pieces(size)+n))
		}
	}
}

// TestAllChunks lays the chunks of each size one behind the other: they are all of it.
func TestAllChunks(t *testing.T) {
	for size := range 4000 {
		all := 0
		for n := range Chunks(size) {
			one := Len(size, n)
			if one < 1 || one > 320 || one < 320 && n+1 < Chunks(size) {
				t.Fatalf("P1701: Len(%d, %d): %d", size, n, one)
			}
			all += one
		}
		if all != size || Len(size, Chunks(size)) != 0 || Len(size, -1) != 0 {
			t.Fatalf("P1701: the chunks of %d bytes have %d", size, all)
		}
	}
}

// ask is all that one Do is handed.
type ask struct {
	m     api.Meta
	q     api.Req
	f     api.Fact
	quota int
}

func (a ask) String() string {
	return fmt.Sprintf("Kind %d, N %d, %d bytes, Name %v, Tag %v, Worn %v, quota %d of %+v", a.q.Kind, a.q.N, len(a.q.Bytes), a.f.Name, a.f.Tag, a.f.Worn, a.quota, a.m)
}

// does fails unless Do of a answers m and r.
func does(t *testing.T, a ask, m api.Meta, r api.Resp) {
	t.Helper()
	got, resp := Do(a.m, a.q, a.f, a.quota)
	if got != m || resp != r {
		t.Fatalf("P1702: %v:\n%+v, %+v, not\n%+v, %+v", a, got, resp, m, r)
	}
	if meta.Right(a.m) && (!meta.Right(got) || got.Min < a.m.Min) {
		t.Fatalf("P1703: %v: %+v", a, got)
	}
}

// refuses fails unless Do of a answers e, and the Meta as it was.
func refuses(t *testing.T, a ask, e api.Errno) {
	t.Helper()
	does(t, a, a.m, api.Resp{Err: e})
}

// fault is a thing for which a request is refused.
type fault struct {
	holds bool
	e     api.Errno
}

// faults are a second reading of what each kind refuses, in the chapter's order.
func faults(a ask) []fault {
	m := a.m
	away := func(phases ...int) fault { return fault{!slices.Contains(phases, m.Phase), api.ErrState} }
	worn := fault{a.f.Worn, api.ErrWorn}
	count := pieces(m.Coming.Size)
	switch a.q.Kind {
	case 1:
		told, _, e := manifest.Read(a.q.Bytes)
		n := pieces(told.Image.Size)
		return []fault{away(0), {e != 0, e}, {!a.f.Name, api.ErrName}, {!a.f.Tag, api.ErrTag}, {told.Image.Version < m.Min, api.ErrOld}, {n > a.quota || n > 6, api.ErrLong}, worn}
	case 2:
		return []fault{away(1), {a.q.N != m.Got, api.ErrOrder}, {m.Got >= count, api.ErrOrder}, {len(a.q.Bytes) != rest(m.Coming.Size, m.Got), api.ErrBytes}, worn}
	case 3:
		return []fault{away(1), {m.Got < count, api.ErrOrder}, {a.f.Digest != m.Coming.Digest, api.ErrDigest}, worn}
	case 4:
		return []fault{away(2), worn}
	case 5, 9:
		return nil
	case 6:
		return []fault{away(3), {m.Trials == 2, api.ErrState}, worn}
	case 7:
		return []fault{away(3), worn}
	case 8:
		return []fault{away(1, 2), worn}
	}
	return []fault{{true, api.ErrArg}}
}

// parts is a Meta, told by its own slot's image and the other one's.
type parts struct {
	active       int
	own, other   api.Image
	least, phase int
	coming       api.Image
	got, trials  int
}

func (p parts) meta() api.Meta {
	m := api.Meta{Active: p.active, Min: p.least, Phase: p.phase, Coming: p.coming, Got: p.got, Trials: p.trials}
	m.Have[p.active], m.Have[1-p.active] = p.own, p.other
	return m
}

// expected is a second reading of Do: all that is answered is built anew.
func expected(a ask) (api.Meta, api.Resp) {
	m := a.m
	if !meta.Right(m) {
		return m, api.Resp{Err: api.ErrArg}
	}
	for _, x := range faults(a) {
		if x.holds {
			return m, api.Resp{Err: x.e}
		}
	}
	p := parts{active: m.Active, own: m.Have[m.Active], other: m.Have[1-m.Active], least: m.Min}
	switch a.q.Kind {
	case 1:
		told, _, _ := manifest.Read(a.q.Bytes)
		return parts{active: p.active, own: p.own, least: p.least, phase: 1, coming: told.Image}.meta(), api.Resp{}
	case 2:
		return parts{active: p.active, own: p.own, least: p.least, phase: 1, coming: m.Coming, got: m.Got + 1}.meta(), api.Resp{}
	case 3:
		return parts{active: p.active, own: p.own, least: p.least, phase: 2, coming: m.Coming, got: m.Got}.meta(), api.Resp{}
	case 4:
		return parts{active: p.active, own: p.own, other: m.Coming, least: p.least, phase: 3, trials: 2}.meta(), api.Resp{}
	case 5:
		return booted(a, p)
	case 6:
		least := p.least
		if p.other.Version > least {
			least = p.other.Version
		}
		return parts{active: 1 - p.active, own: p.other, other: p.own, least: least}.meta(), api.Resp{}
	case 7, 8:
		return parts{active: p.active, own: p.own, least: p.least}.meta(), api.Resp{}
	}
	return m, api.Resp{N: m.Phase, Got: m.Got}
}

func booted(a ask, p parts) (api.Meta, api.Resp) {
	if a.m.Phase == 3 && !a.f.Worn {
		if a.m.Trials == 0 {
			return parts{active: p.active, own: p.own, least: p.least}.meta(), api.Resp{N: p.active}
		}
		return parts{active: p.active, own: p.own, other: p.other, least: p.least, phase: 3, trials: a.m.Trials - 1}.meta(), api.Resp{N: 1 - p.active}
	}
	return a.m, api.Resp{N: p.active}
}

// asExpected holds Do of a against the second reading.
func asExpected(t *testing.T, a ask) {
	t.Helper()
	m, r := expected(a)
	does(t, a, m, r)
}

// signed is a manifest's bytes. Its name and its tag are nothing to Do, that is told of them by the Fact.
func signed(i api.Image) []byte {
	return manifest.Bytes([]byte("key"), api.Manifest{Name: "a1", Image: i})
}

// idle, with no image in the other slot and with one.
func idle(active int) api.Meta { return parts{active: active, own: made(4, 500), least: 3}.meta() }

func both(active int) api.Meta {
	return parts{active: active, own: made(4, 500), other: made(3, 700), least: 3}.meta()
}

// receiving is an image of 3 chunks, of which got are there.
func receiving(active, got int) api.Meta {
	return parts{active: active, own: made(4, 500), least: 3, phase: api.Receiving, coming: made(5, 641), got: got}.meta()
}

func verified(active int) api.Meta {
	return parts{active: active, own: made(4, 500), least: 3, phase: api.Verified, coming: made(5, 641), got: 3}.meta()
}

func trial(active, trials int) api.Meta {
	return parts{active: active, own: made(4, 500), other: made(5, 641), least: 3, phase: api.Trial, trials: trials}.meta()
}

// phases are some of each phase.
func phases(active int) []api.Meta {
	return []api.Meta{
		idle(active), both(active), receiving(active, 0), receiving(active, 2), receiving(active, 3),
		verified(active), trial(active, 2), trial(active, 1), trial(active, 0),
	}
}

// inPhase are those of phases that are in one of some phases.
func inPhase(active int, l ...int) []api.Meta {
	var out []api.Meta
	for _, m := range phases(active) {
		if slices.Contains(l, m.Phase) {
			out = append(out, m)
		}
	}
	return out
}

// fine is a Fact that stands against nothing.
func fine(d [32]byte) api.Fact { return api.Fact{Name: true, Tag: true, Digest: d} }

// bad is a Fact that says no to all that a kind is not to look at, but says that all can be written.
func bad() api.Fact { return api.Fact{Digest: digest(99)} }

func worn(f api.Fact) api.Fact {
	f.Worn = true
	return f
}

// plain is a request whose N and Bytes are not to be looked at.
func plain(kind int) api.Req { return api.Req{Kind: kind, N: -77, Bytes: []byte("what is this")} }

// change makes a fault of an ask that had none.
type change func(a *ask)

// group are the changes that make the same error.
type group struct {
	e       api.Errno
	changes []change
}

// states are changes to Metas of these phases.
func states(l ...int) group {
	out := group{e: api.ErrState}
	for active := range 2 {
		for _, m := range inPhase(active, l...) {
			out.changes = append(out.changes, func(a *ask) { a.m = m })
		}
	}
	return out
}

func wear() group { return group{api.ErrWorn, []change{func(a *ask) { a.f.Worn = true }}} }

// eachRefusal has a with each row of faults at once, each of them in each of its ways: the first one is told. A fault that is named earlier is made later, so that no other one is undone.
func eachRefusal(t *testing.T, a ask, groups []group) {
	t.Helper()
	if m, r := Do(a.m, a.q, a.f, a.quota); r.Err != api.OK || m == a.m {
		t.Fatalf("P1702: %v: %+v", a, r)
	}
	var with func(a ask, g int, first api.Errno)
	with = func(a ask, g int, first api.Errno) {
		if g < 0 {
			if first != api.OK {
				refuses(t, a, first)
			}
			return
		}
		with(a, g-1, first)
		for _, turn := range groups[g].changes {
			x := a
			turn(&x)
			with(x, g-1, groups[g].e)
		}
	}
	with(a, len(groups)-1, api.OK)
}

// TestBeginRefuses has images of 2 chunks and of 6, refused for each reason and for each row of reasons.
func TestBeginRefuses(t *testing.T) {
	broken := func(turn func(b []byte) []byte) change {
		return func(a *ask) { a.q.Bytes = turn(slices.Clone(a.q.Bytes)) }
	}
	groups := []group{
		states(api.Receiving, api.Verified, api.Trial),
		{api.ErrBytes, []change{
			broken(func(b []byte) []byte { return nil }),
			broken(func(b []byte) []byte { return []byte{} }),
			broken(func(b []byte) []byte { return b[:1] }),
			broken(func(b []byte) []byte { return b[:60] }),
			broken(func(b []byte) []byte { return b[:91] }),
			broken(func(b []byte) []byte { return append(b, 0) }),
			broken(func(b []byte) []byte { return append(b, b...) }),
			broken(func(b []byte) []byte { b[0] = 'w'; return b }),
			broken(func(b []byte) []byte { b[4] = 'A'; return b }),
			broken(func(b []byte) []byte { clear(b[4:20]); return b }),
			broken(func(b []byte) []byte { clear(b[20:24]); return b }),
			broken(func(b []byte) []byte { clear(b[24:28]); return b }),
			broken(func(b []byte) []byte { b[20] = 0x41; return b }),
			broken(func(b []byte) []byte { b[24] = 0x80; return b }),
		}},
		{api.ErrName, []change{func(a *ask) { a.f.Name = false }}},
		{api.ErrTag, []change{func(a *ask) { a.f.Tag = false }}},
		{api.ErrOld, []change{func(a *ask) { a.m.Min = 6 }, func(a *ask) { a.m.Min = top }}},
		{api.ErrLong, []change{
			func(a *ask) { a.quota = 1 },
			func(a *ask) { a.quota = 0 },
			func(a *ask) { a.quota = -1 },
			func(a *ask) { a.quota = math.MinInt },
			func(a *ask) { a.q.Bytes = signed(made(5, 1921)); a.quota = 7 },
			func(a *ask) { a.q.Bytes = signed(made(5, 1<<30)); a.quota = math.MaxInt },
		}},
		wear(),
	}
	for active := range 2 {
		for _, m := range []api.Meta{idle(active), both(active)} {
			eachRefusal(t, ask{m, api.Req{Kind: api.QBegin, N: 8, Bytes: signed(made(5, 640))}, fine([32]byte{}), 2}, groups)
			eachRefusal(t, ask{m, api.Req{Kind: api.QBegin, N: -8, Bytes: signed(made(5, 1920))}, fine(digest(5)), 99}, groups)
		}
	}
}

// TestBegin has each size around each quota, with versions around Min.
func TestBegin(t *testing.T) {
	for active := range 2 {
		for _, size := range []int{1, 2, 319, 320, 321, 639, 640, 641, 960, 961, 1599, 1600, 1601, 1919, 1920, 1921, 2240, 2241, top - 1, top} {
			for _, quota := range []int{math.MinInt, -1 << 32, -6, -1, 0, 1, 2, 3, 4, 5, 6, 7, 8, 9, 255, 256, 257, 1 << 32, 1<<32 + 1, math.MaxInt} {
				began(t, active, made(9, size), quota, size <= 1920 && (size+319)/320 <= quota)
			}
		}
	}
}

// began begins with i, in slots that had an image and in those that had none.
func began(t *testing.T, active int, i api.Image, quota int, want bool) {
	t.Helper()
	own := made(4, 500)
	for _, m := range []api.Meta{idle(active), both(active)} {
		a := ask{m, api.Req{Kind: api.QBegin, N: 3, Bytes: signed(i)}, fine([32]byte{}), quota}
		if !want {
			refuses(t, a, api.ErrLong)
			continue
		}
		next := api.Meta{Active: active, Min: 3, Phase: 1, Coming: i}
		next.Have[active] = own
		does(t, a, next, api.Resp{})
	}
}

// TestBeginVersions has versions around Min, also of images whose own slot's version is above it.
func TestBeginVersions(t *testing.T) {
	for _, least := range []int{0, 1, 2, 3, 4, 5, 6, 255, 256, 257, 1 << 16, 1 << 24, top - 1, top} {
		for _, v := range []int{least - 2, least - 1, least, least + 1, least + 2, 1, top} {
			if v < 1 || v > top {
				continue
			}
			for active := range 2 {
				m := both(active)
				m.Min = least
				a := ask{m, api.Req{Kind: api.QBegin, Bytes: signed(made(v, 7))}, fine([32]byte{}), 1}
				if v < least {
					refuses(t, a, api.ErrOld)
					continue
				}
				does(t, a, parts{active: active, own: made(4, 500), least: least, phase: 1, coming: made(v, 7)}.meta(), api.Resp{})
			}
		}
	}
}

// TestBeginLooksAtNoTag has tags and names of all kinds: whose they are, the Fact tells.
func TestBeginLooksAtNoTag(t *testing.T) {
	i := api.Image{Version: 5, Size: 33}
	for _, name := range []string{"a", "9", "ω", "ωωωωωωωω", "abcdefgh"} {
		for _, key := range []string{"", "key", "another"} {
			b := manifest.Bytes([]byte(key), api.Manifest{Name: name, Image: i})
			for _, turn := range []byte{0, 1, 0xff} {
				b[91] ^= turn
				a := ask{both(1), api.Req{Kind: api.QBegin, Bytes: b}, fine(digest(3)), 1}
				does(t, a, parts{active: 1, own: made(4, 500), least: 3, phase: 1, coming: i}.meta(), api.Resp{})
				a.f.Tag = false
				refuses(t, a, api.ErrTag)
				a.f.Name = false
				refuses(t, a, api.ErrName)
			}
		}
	}
}

// TestWriteRefuses has the second chunk of 3, and the last one.
func TestWriteRefuses(t *testing.T) {
	sized := func(n int) change { return func(a *ask) { a.q.Bytes = make([]byte, n) } }
	order := func(by int) change { return func(a *ask) { a.q.N += by } }
	groups := func(want int) []group {
		sizes := group{e: api.ErrBytes}
		for _, n := range []int{0, want - 1, want + 1, 319, 320, 321, 1, 2, 640, 641, 256 + want} {
			if n != want {
				sizes.changes = append(sizes.changes, sized(n))
			}
		}
		return []group{
			states(api.Idle, api.Verified, api.Trial),
			{api.ErrOrder, []change{
				order(-1), order(1), order(2), order(-3), order(256), order(1 << 32), order(-1 << 32),
				func(a *ask) { a.q.N = math.MinInt },
				func(a *ask) { a.q.N = math.MaxInt },
				func(a *ask) { a.m.Got, a.q.N = 3, 3 },
				func(a *ask) { a.m.Got, a.q.N, a.q.Bytes = 3, 3, nil },
				func(a *ask) { a.m.Got = 3 },
			}},
			sizes,
			wear(),
		}
	}
	for active := range 2 {
		eachRefusal(t, ask{receiving(active, 0), api.Req{Kind: api.QWrite, N: 0, Bytes: make([]byte, 320)}, bad(), 0}, groups(320))
		eachRefusal(t, ask{receiving(active, 1), api.Req{Kind: api.QWrite, N: 1, Bytes: make([]byte, 320)}, bad(), -5}, groups(320))
		eachRefusal(t, ask{receiving(active, 2), api.Req{Kind: api.QWrite, N: 2, Bytes: make([]byte, 1)}, fine(digest(5)), 99}, groups(1))
	}
}

// TestWrite writes images of each size from their first chunk to their last.
func TestWrite(t *testing.T) {
	for active := range 2 {
		for size := 1; size <= 1920; size++ {
			own, coming := made(4, 500), made(5, size)
			p := parts{active: active, own: own, least: 3, phase: 1, coming: coming}
			for left := size; left > 0; left -= 320 {
				a := ask{p.meta(), api.Req{Kind: api.QWrite, N: p.got, Bytes: make([]byte, min(left, 320))}, bad(), 0}
				p.got++
				does(t, a, p.meta(), api.Resp{})
				a.q.Bytes = append(a.q.Bytes, 0)
				refuses(t, a, api.ErrBytes)
				a.q.Bytes = a.q.Bytes[:min(left, 320)-1]
				refuses(t, a, api.ErrBytes)
			}
			refuses(t, ask{p.meta(), api.Req{Kind: api.QWrite, N: p.got}, bad(), 0}, api.ErrOrder)
			refuses(t, ask{p.meta(), api.Req{Kind: api.QWrite, N: p.got, Bytes: make([]byte, 320)}, bad(), 0}, api.ErrOrder)
			refuses(t, ask{p.meta(), api.Req{Kind: api.QWrite, N: 0, Bytes: make([]byte, min(size, 320))}, bad(), 0}, api.ErrOrder)
		}
	}
}

func TestVerifyRefuses(t *testing.T) {
	digests := group{e: api.ErrDigest}
	for i := range 32 {
		for _, turn := range []byte{1, 0x80} {
			digests.changes = append(digests.changes, func(a *ask) { a.f.Digest[i] ^= turn })
		}
	}
	digests.changes = append(digests.changes, func(a *ask) { a.f.Digest = [32]byte{} }, func(a *ask) { a.f.Digest = a.m.Have[a.m.Active].Digest })
	groups := []group{
		states(api.Idle, api.Verified, api.Trial),
		{api.ErrOrder, []change{func(a *ask) { a.m.Got = 0 }, func(a *ask) { a.m.Got = 1 }, func(a *ask) { a.m.Got = 2 }, func(a *ask) { a.m.Coming.Size = 961 }}},
		digests,
		wear(),
	}
	for active := range 2 {
		m := receiving(active, 3)
		eachRefusal(t, ask{m, plain(api.QVerify), api.Fact{Digest: digest(5)}, -1}, groups)
		does(t, ask{m, plain(api.QVerify), api.Fact{Digest: digest(5)}, 0}, verified(active), api.Resp{})
		does(t, ask{m, api.Req{Kind: api.QVerify}, fine(digest(5)), 9}, verified(active), api.Resp{})
	}
}

func TestCommit(t *testing.T) {
	for active := range 2 {
		a := ask{verified(active), plain(api.QCommit), bad(), 0}
		eachRefusal(t, a, []group{states(api.Idle, api.Receiving, api.Trial), wear()})
		next := api.Meta{Active: active, Min: 3, Phase: 3, Trials: 2}
		next.Have[active], next.Have[1-active] = made(4, 500), made(5, 641)
		does(t, a, next, api.Resp{})
		a.f, a.quota, a.q = fine(digest(5)), 7, api.Req{Kind: api.QCommit}
		does(t, a, next, api.Resp{})
	}
}

func TestBoot(t *testing.T) {
	for active := range 2 {
		for _, f := range []api.Fact{bad(), fine(digest(5)), {}, worn(bad()), worn(fine(digest(5)))} {
			for _, m := range inPhase(active, api.Idle, api.Receiving, api.Verified) {
				does(t, ask{m, plain(api.QBoot), f, -1}, m, api.Resp{N: active})
			}
			for trials := range 3 {
				a := ask{trial(active, trials), plain(api.QBoot), f, 0}
				switch {
				case f.Worn:
					does(t, a, a.m, api.Resp{N: active})
				case trials > 0:
					does(t, a, trial(active, trials-1), api.Resp{N: 1 - active})
				default:
					does(t, a, idle(active), api.Resp{N: active})
				}
			}
		}
	}
}

// TestTrialsEnd boots on and on: the image that is tried runs twice, then the other one for good.
func TestTrialsEnd(t *testing.T) {
	for active := range 2 {
		m := trial(active, 2)
		var ran []int
		for range 5 {
			var r api.Resp
			m, r = Do(m, plain(api.QBoot), bad(), 0)
			ran = append(ran, r.N)
		}
		if m != idle(active) || !slices.Equal(ran, []int{1 - active, 1 - active, active, active, active}) {
			t.Errorf("P1702: slots %v ran, then %+v", ran, m)
		}
	}
}

func TestConfirm(t *testing.T) {
	for active := range 2 {
		for trials := range 2 {
			a := ask{trial(active, trials), plain(api.QConfirm), bad(), 0}
			away := states(api.Idle, api.Receiving, api.Verified)
			away.changes = append(away.changes, func(a *ask) { a.m.Trials = 2 })
			eachRefusal(t, a, []group{away, wear()})
			for _, x := range []struct{ least, version, want int }{
				{0, 1, 1}, {0, 5, 5}, {1, 5, 5}, {4, 5, 5}, {5, 5, 5}, {6, 5, 6}, {9, 5, 9}, {top, 5, top}, {3, top, top}, {top - 1, top, top}, {top, top - 1, top}, {top, top, top}, {256, 255, 256}, {255, 256, 256},
			} {
				a.m.Min, a.m.Have[1-active] = x.least, made(x.version, 641)
				next := api.Meta{Active: 1 - active, Min: x.want}
				next.Have[active], next.Have[1-active] = made(4, 500), made(x.version, 641)
				does(t, a, next, api.Resp{})
				// The own slot's version raises nothing.
				a.m.Have[active].Version = top
				next.Have[active].Version = top
				does(t, a, next, api.Resp{})
				a.m.Have[active].Version = 4
			}
		}
	}
}

func TestRollback(t *testing.T) {
	for active := range 2 {
		for trials := range 3 {
			a := ask{trial(active, trials), plain(api.QRollback), bad(), 0}
			eachRefusal(t, a, []group{states(api.Idle, api.Receiving, api.Verified), wear()})
			does(t, a, idle(active), api.Resp{})
		}
	}
}

func TestAbort(t *testing.T) {
	for active := range 2 {
		for _, m := range inPhase(active, api.Receiving, api.Verified) {
			a := ask{m, plain(api.QAbort), bad(), 0}
			eachRefusal(t, a, []group{states(api.Idle, api.Trial), wear()})
			does(t, a, idle(active), api.Resp{})
		}
	}
}

func TestStatus(t *testing.T) {
	for active := range 2 {
		for _, f := range []api.Fact{bad(), fine(digest(5)), {}, worn(bad()), worn(fine(digest(5)))} {
			for i, want := range []api.Resp{{}, {}, {N: 1}, {N: 1, Got: 2}, {N: 1, Got: 3}, {N: 2, Got: 3}, {N: 3}, {N: 3}, {N: 3}} {
				m := phases(active)[i]
				does(t, ask{m, plain(api.QStatus), f, -1}, m, want)
				does(t, ask{m, api.Req{Kind: api.QStatus}, f, 6}, m, want)
			}
		}
	}
}

// TestKinds has all numbers that are no kind.
func TestKinds(t *testing.T) {
	for active := range 2 {
		for _, m := range phases(active) {
			for _, kind := range slices.Concat(edges(), []int{11, 12, 16, 17, -3, -4, -5, 265, -247}) {
				if kind >= 1 && kind <= 9 {
					continue
				}
				for _, q := range []api.Req{plain(kind), {Kind: kind, N: m.Got, Bytes: make([]byte, 320)}, {Kind: kind, Bytes: signed(made(5, 1))}} {
					refuses(t, ask{m, q, fine(m.Coming.Digest), 6}, api.ErrArg)
					refuses(t, ask{m, q, worn(bad()), 6}, api.ErrArg)
				}
			}
		}
	}
}

// wrongs are Metas that are not Right: each number of good ones turned to each edge, and some more.
func wrongs() []api.Meta {
	at := []func(m *api.Meta) *int{
		func(m *api.Meta) *int { return &m.Active }, func(m *api.Meta) *int { return &m.Min }, func(m *api.Meta) *int { return &m.Phase },
		func(m *api.Meta) *int { return &m.Got }, func(m *api.Meta) *int { return &m.Trials },
		func(m *api.Meta) *int { return &m.Have[0].Version }, func(m *api.Meta) *int { return &m.Have[0].Size },
		func(m *api.Meta) *int { return &m.Have[1].Version }, func(m *api.Meta) *int { return &m.Have[1].Size },
		func(m *api.Meta) *int { return &m.Coming.Version }, func(m *api.Meta) *int { return &m.Coming.Size },
	}
	out := []api.Meta{{}, {Active: 1}, {Phase: 1}, {Phase: 2}, {Phase: 3}, {Phase: 3, Trials: 2}}
	for active := range 2 {
		for _, m := range phases(active) {
			for _, number := range at {
				for _, n := range edges() {
					x := m
					if *number(&x) = n; !meta.Right(x) {
						out = append(out, x)
					}
				}
			}
			m.Phase ^= 1
			m.Coming.Version = 0
			out = append(out, m)
		}
	}
	return out
}

// TestWrongMetas asks all kinds of Metas that are not Right: they are answered as they came.
func TestWrongMetas(t *testing.T) {
	l := wrongs()
	if len(l) < 5000 {
		t.Fatalf("only %d Metas are not Right", len(l))
	}
	begin := signed(made(5, 1))
	for _, m := range l {
		for kind := -1; kind <= 11; kind++ {
			q := api.Req{Kind: kind, N: m.Got}
			switch kind {
			case api.QBegin:
				q.Bytes = begin
			case api.QWrite:
				q.Bytes = make([]byte, rest(m.Coming.Size, m.Got))
			}
			refuses(t, ask{m, q, fine(m.Coming.Digest), 6}, api.ErrArg)
			refuses(t, ask{m, q, worn(bad()), 6}, api.ErrArg)
		}
	}
}

// someBytes are what requests may bring: manifests, chunks, and what is neither.
func someBytes() [][]byte {
	out := [][]byte{nil, {}, make([]byte, 1), make([]byte, 91), make([]byte, 92), make([]byte, 319), make([]byte, 320), make([]byte, 321), make([]byte, 5000)}
	for _, v := range []int{1, 2, 3, 4, top} {
		for _, size := range []int{1, 92, 320, 321, 1920, 1921, top} {
			out = append(out, signed(made(v, size)))
		}
	}
	return append(out, out[len(out)-1][:91], append(slices.Clone(out[len(out)-1]), 0))
}

// TestAllTogether has each kind of each Meta with each row of bytes, each Fact and each quota.
func TestAllTogether(t *testing.T) {
	rows := someBytes()
	for active := range 2 {
		for _, m := range phases(active) {
			for kind := range 11 {
				for _, b := range rows {
					for facts := range 16 {
						f := api.Fact{Name: facts&1 > 0, Tag: facts&2 > 0, Worn: facts&4 > 0, Digest: digest(5)}
						if facts&8 > 0 {
							f.Digest[facts] ^= 2
						}
						for _, quota := range []int{-1, 0, 1, 2, 6, 7} {
							asExpected(t, ask{m, api.Req{Kind: kind, N: m.Got, Bytes: b}, f, quota})
						}
					}
				}
			}
		}
	}
}

// TestEachNumber has each kind with each N and each quota.
func TestEachNumber(t *testing.T) {
	for active := range 2 {
		for _, m := range phases(active) {
			for kind := -1; kind < 12; kind++ {
				for _, n := range edges() {
					for _, b := range [][]byte{nil, make([]byte, 1), make([]byte, 320), signed(made(5, 641))} {
						asExpected(t, ask{m, api.Req{Kind: kind, N: n, Bytes: b}, fine(digest(5)), 3})
						asExpected(t, ask{m, api.Req{Kind: kind, N: m.Got, Bytes: b}, fine(digest(5)), n})
					}
				}
			}
		}
	}
}

// drawn makes a request, one that may be done of m more often than not.
func drawn(c *chance, m api.Meta) ask {
	a := ask{m: m, q: api.Req{Kind: c.below(12) - 1, N: m.Got}, quota: c.below(10) - 1}
	switch {
	case a.q.Kind == api.QBegin && c.below(8) > 0:
		a.q.Bytes = signed(api.Image{Version: 1 + c.below(m.Min+3), Size: 1 + c.below(2000), Digest: [32]byte(c.row(32))})
	case a.q.Kind == api.QWrite && c.below(4) > 0:
		a.q.Bytes = c.row(rest(m.Coming.Size, m.Got))
	case a.q.Kind == api.QWrite:
		a.q.N, a.q.Bytes = c.below(8)-1, c.row(c.below(330))
	default:
		a.q.N, a.q.Bytes = c.one(edges()), c.row(c.below(100))
	}
	a.f = api.Fact{Name: c.below(9) > 0, Tag: c.below(9) > 0, Worn: c.below(9) == 0}
	if c.below(4) > 0 {
		a.f.Digest = m.Coming.Digest
	}
	return a
}

// TestRows goes on from request to request: what is kept is always Right, Min never falls, and a slot becomes active only by QConfirm of its image.
func TestRows(t *testing.T) {
	c := chance(1)
	var seen [10][4]int
	for row := range 400 {
		m := phases(row % 2)[row%9]
		for range 150 {
			a := drawn(&c, m)
			asExpected(t, a)
			n, r := Do(a.m, a.q, a.f, a.quota)
			if !meta.Right(n) || n.Min < m.Min || r.Err != api.OK && n != m {
				t.Fatalf("P1703: %v: %+v", a, n)
			}
			if n.Active != m.Active && (a.q.Kind != api.QConfirm || m.Phase != api.Trial || n.Min < n.Have[n.Active].Version) {
				t.Fatalf("P1703: %v: %+v", a, n)
			}
			if n != m {
				seen[a.q.Kind][m.Phase]++
			}
			m = n
		}
	}
	for _, x := range []struct{ kind, phase int }{{1, 0}, {2, 1}, {3, 1}, {4, 2}, {5, 3}, {6, 3}, {7, 3}, {8, 1}, {8, 2}} {
		if seen[x.kind][x.phase] < 20 {
			t.Errorf("P1703: requests of kind %d turned a Meta of phase %d only %d times", x.kind, x.phase, seen[x.kind][x.phase])
		}
		seen[x.kind][x.phase] = 0
	}
	if seen != [10][4]int{} {
		t.Errorf("P1703: others turned a Meta: %v", seen)
	}
}

// few are requests that lead from Meta to Meta: images of few versions and sizes, each with facts that let it pass and with some that do not.
func few(m api.Meta) []ask {
	var out []ask
	for kind := range 11 {
		for _, f := range []api.Fact{fine(m.Coming.Digest), worn(fine(m.Coming.Digest)), bad()} {
			a := ask{m, api.Req{Kind: kind, N: m.Got, Bytes: make([]byte, rest(m.Coming.Size, m.Got))}, f, 2}
			if kind != api.QBegin {
				out = append(out, a)
				continue
			}
			for v := 1; v <= 4; v++ {
				for _, size := range []int{1, 640, 641} {
					a.q.Bytes = signed(made(v, size))
					out = append(out, a)
				}
			}
		}
	}
	return out
}

// TestAllReached goes to each Meta that few requests can lead to, from one on.
func TestAllReached(t *testing.T) {
	first := api.Meta{Have: [2]api.Image{made(1, 10), {}}}
	seen := map[api.Meta]bool{first: true}
	var count [4]int
	for todo := []api.Meta{first}; len(todo) > 0; todo = todo[1:] {
		m := todo[0]
		count[m.Phase]++
		for _, a := range few(m) {
			asExpected(t, a)
			if n, _ := Do(a.m, a.q, a.f, a.quota); !seen[n] {
				seen[n] = true
				todo = append(todo, n)
			}
		}
	}
	if slices.Min(count[:]) < 30 {
		t.Errorf("P1703: only %v Metas of the phases were reached", count)
	}
}

// TestHandedInStays looks at the Bytes and at the memory on both their sides, which must neither be turned nor be read.
func TestHandedInStays(t *testing.T) {
	c := chance(2)
	for active := range 2 {
		for _, m := range phases(active) {
			for kind := range 11 {
				for _, b := range someBytes() {
					room := slices.Concat(c.row(50), b, c.row(200))
					was := slices.Clone(room)
					a := ask{m, api.Req{Kind: kind, N: m.Got, Bytes: room[50 : 50+len(b)]}, fine(m.Coming.Digest), 6}
					asExpected(t, a)
					if !slices.Equal(room, was) {
						t.Fatalf("P1703: %v turned its bytes, or the memory beside them", a)
					}
					copy(room[50+len(b):], c.row(200))
					copy(room[:50], c.row(50))
					asExpected(t, a)
				}
			}
		}
	}
}

// TestNotKept turns the Bytes that were handed in: what was answered must stay, and the next call must read what stands there now.
func TestNotKept(t *testing.T) {
	one, two := made(5, 640), made(6, 320)
	b := append(make([]byte, 0, 300), signed(one)...)
	a := ask{both(0), api.Req{Kind: api.QBegin, Bytes: b}, fine([32]byte{}), 2}
	got, _ := Do(a.m, a.q, a.f, a.quota)
	for i := range b[:cap(b)] {
		b[:cap(b)][i] ^= 0x55
	}
	if got.Coming != one {
		t.Fatalf("P1703: what Do answered was turned with its bytes: %+v", got)
	}
	refuses(t, a, api.ErrBytes)
	copy(b, signed(two))
	does(t, a, parts{own: made(4, 500), least: 3, phase: 1, coming: two}.meta(), api.Resp{})
	got.Coming.Digest[0]++
	does(t, a, parts{own: made(4, 500), least: 3, phase: 1, coming: two}.meta(), api.Resp{})
}

// call makes the i-th of some calls; each answers otherwise than most others.
func call(i int) string {
	c := chance(i)
	all := phases(i % 2)
	a := drawn(&c, all[i/2%len(all)])
	if i%7 == 0 {
		a.m.Got = c.one(edges())
	}
	m, r := Do(a.m, a.q, a.f, a.quota)
	size := c.one(edges())
	return fmt.Sprint(m, r, Chunks(size), Len(size, c.one(edges())), Len(c.below(2000), c.below(6)))
}

// TestNothingIsKept makes each call behind each other one: it must answer as it does alone.
func TestNothingIsKept(t *testing.T) {
	const calls = 150
	var want [calls]string
	for i := range want {
		want[i] = call(i)
	}
	for i := range want {
		for j := range want {
			call(j)
			if got := call(i); got != want[i] {
				t.Fatalf("P1703: call %d behind call %d answers %s, not %s", i, j, got, want[i])
			}
		}
	}
}

// TestAtOnce makes calls beside each other, on one row of bytes.
func TestAtOnce(t *testing.T) {
	b := signed(made(5, 640))
	want, wantResp := Do(both(1), api.Req{Kind: api.QBegin, Bytes: b}, fine([32]byte{}), 2)
	var all sync.WaitGroup
	for g := range 8 {
		all.Go(func() {
			for i := range 300 {
				if got := call(g*300 + i); got != call(g*300+i) {
					t.Errorf("P1703: call %d answers %s once only", g*300+i, got)
				}
				if got, r := Do(both(1), api.Req{Kind: api.QBegin, Bytes: b}, fine([32]byte{}), 2); got != want || r != wantResp {
					t.Errorf("P1703: beside others Do answers %+v, %+v", got, r)
				}
			}
		})
	}
	all.Wait()
}
