package meta

import (
	"bytes"
	"encoding/binary"
	"encoding/hex"
	"math"
	"slices"
	"testing"

	"waterline/api"
)

// whole is how many bytes Bytes has.
const whole = 128

// chance makes numbers, the same ones at each run.
type chance uint64

func (c *chance) next() uint32 {
	*c = *c*6364136223846793005 + 1442695040888963407
	return uint32(*c >> 32)
}

// below makes a number of 0 to n-1.
func (c *chance) below(n int) int { return int(c.next() % uint32(n)) }

func (c *chance) row(n int) []byte {
	out := make([]byte, n)
	for i := range out {
		out[i] = byte(c.next() >> 20)
	}
	return out
}

// digest has 32 bytes of which each is another one, also than those of the digests from others on.
func digest(from byte) [32]byte {
	var out [32]byte
	for i := range out {
		out[i] = from + byte(i)
	}
	return out
}

func made(version, size int) api.Image {
	return api.Image{Version: version, Size: size, Digest: digest(byte(version))}
}

// goods are some of each phase that are Right, with either slot active, and with each image at its least and at its greatest.
func goods() []api.Meta {
	var out []api.Meta
	for active := range 2 {
		for _, one := range []api.Image{made(1, 1), made(0x01020304, 258), made(1<<30, 1920), {Version: 7, Size: 320}} {
			idle := api.Meta{Active: active}
			idle.Have[active] = one
			least := idle
			least.Min = 1 << 30
			both := idle
			both.Have[1-active] = made(5, 321)
			both.Min = 5
			out = append(out, idle, least, both)
			for _, coming := range []struct{ size, chunks int }{{1, 1}, {320, 1}, {321, 2}, {640, 2}, {1920, 6}} {
				m := idle
				m.Phase, m.Coming = api.Receiving, made(9, coming.size)
				out = append(out, m)
				m.Got = coming.chunks
				out = append(out, m)
				m.Phase = api.Verified
				out = append(out, m)
			}
			for trials := range 3 {
				m := both
				m.Phase, m.Trials = api.Trial, trials
				out = append(out, m)
			}
		}
	}
	return out
}

// isRight is a second reading of what Right asks.
func isRight(m api.Meta) bool {
	between := func(n, least, most int) bool { return n >= least && n <= most }
	none := api.Image{}
	for _, i := range []api.Image{m.Have[0], m.Have[1], m.Coming} {
		if !between(i.Version, 0, 1<<30) || !between(i.Size, 0, 1920) {
			return false
		}
		if i.Version*i.Size == 0 && i != none {
			return false
		}
	}
	var own, other api.Image
	switch m.Active {
	case 0:
		own, other = m.Have[0], m.Have[1]
	case 1:
		own, other = m.Have[1], m.Have[0]
	default:
		return false
	}
	if own == none || !between(m.Min, 0, 1<<30) || !between(m.Got, 0, 6) || !between(m.Trials, 0, 2) {
		return false
	}
	chunks := 0
	for left := m.Coming.Size; left > 0; left -= 320 {
		chunks++
	}
	receives := m.Coming != none && other == none && m.Trials == 0
	return m.Phase == 0 && m.Coming == none && m.Got == 0 && m.Trials == 0 ||
		m.Phase == 1 && receives && m.Got <= chunks ||
		m.Phase == 2 && receives && m.Got == chunks ||
		m.Phase == 3 && m.Coming == none && m.Got == 0 && other != none
}

// written is what m's bytes must be, of any m: the lowest bytes of each number.
func written(m api.Meta) []byte {
	image := func(b []byte, i api.Image) []byte {
		b = binary.BigEndian.AppendUint32(b, uint32(i.Version))
		b = binary.BigEndian.AppendUint32(b, uint32(i.Size))
		return append(b, i.Digest[:]...)
	}
	out := image([]byte{byte(m.Active)}, m.Have[0])
	out = binary.BigEndian.AppendUint32(image(out, m.Have[1]), uint32(m.Min))
	out = image(append(out, byte(m.Phase)), m.Coming)
	return append(out, byte(m.Got), byte(m.Trials))
}

// stands is what the first bytes of b say, Right or not.
func stands(b []byte) api.Meta {
	image := func(at int) api.Image {
		num := func(at int) int { return int(binary.BigEndian.Uint32(b[at:])) }
		return api.Image{Version: num(at), Size: num(at + 4), Digest: [32]byte(b[at+8 : at+40])}
	}
	return api.Meta{
		Active: int(b[0]), Have: [2]api.Image{image(1), image(41)}, Min: int(binary.BigEndian.Uint32(b[81:])),
		Phase: int(b[85]), Coming: image(86), Got: int(b[126]), Trials: int(b[127]),
	}
}

// told fails unless Read tells m.
func told(t *testing.T, promise string, b []byte, m api.Meta) {
	t.Helper()
	if got, e := Read(b); e != api.OK || got != m {
		t.Fatalf("%s: Read of %d bytes %x..: %+v, error %d, not %+v", promise, len(b), b[:min(whole, len(b))], got, e, m)
	}
}

// refused fails unless Read tells ErrBytes, and nothing beside it.
func refused(t *testing.T, promise string, b []byte) {
	t.Helper()
	if got, e := Read(b); e != api.ErrBytes || got != (api.Meta{}) {
		t.Fatalf("%s: Read of %d bytes %x..: %+v, error %d", promise, len(b), b[:min(whole, len(b))], got, e)
	}
}

// judged holds Right and Bytes of m against want, and Read of its bytes against what stands there.
func judged(t *testing.T, m api.Meta, want bool) {
	t.Helper()
	if got := Right(m); got != want {
		t.Fatalf("P1301: Right of %+v is %v", m, got)
	}
	b := written(m)
	if got := Bytes(m); want && !slices.Equal(got, b) || !want && len(got) != 0 {
		t.Fatalf("P1301: Bytes of %+v is %x", m, got)
	}
	// What is beyond its bytes is read as another number, that can be right.
	if back := stands(b); isRight(back) {
		told(t, "P1301", b, back)
	} else {
		refused(t, "P1301", b)
	}
}

// TestExample has nil, no bytes, and no bytes ahead of a Meta's.
func TestExample(t *testing.T) {
	for _, b := range [][]byte{nil, {}, written(goods()[0])[:0]} {
		refused(t, "P1301", b)
	}
}

// A row is a Meta, and its bytes.
type row struct {
	text string
	m    api.Meta
}

// known are some whose bytes are written out; of their numbers and Digests each byte is another one.
func known() []row {
	first := api.Image{Version: 0x01020304, Size: 0x0506, Digest: digest(0x10)}
	second := api.Image{Version: 0x0708090a, Size: 0x070b, Digest: digest(0x30)}
	const (
		one   = "01020304" + "00000506" + "101112131415161718191a1b1c1d1e1f202122232425262728292a2b2c2d2e2f"
		two   = "0708090a" + "0000070b" + "303132333435363738393a3b3c3d3e3f404142434445464748494a4b4c4d4e4f"
		none  = "00000000" + "00000000" + "0000000000000000000000000000000000000000000000000000000000000000"
		least = "3c3d3e3f"
	)
	return []row{
		{"00" + one + none + least + "00" + none + "00" + "00", api.Meta{Have: [2]api.Image{first, {}}, Min: 0x3c3d3e3f}},
		{"01" + one + two + least + "00" + none + "00" + "00", api.Meta{Active: 1, Have: [2]api.Image{first, second}, Min: 0x3c3d3e3f}},
		{"01" + none + two + least + "01" + one + "03" + "00", api.Meta{Active: 1, Have: [2]api.Image{{}, second}, Min: 0x3c3d3e3f, Phase: api.Receiving, Coming: first, Got: 3}},
		{"00" + one + none + least + "02" + two + "06" + "00", api.Meta{Have: [2]api.Image{first, {}}, Min: 0x3c3d3e3f, Phase: api.Verified, Coming: second, Got: 6}},
		{"00" + two + one + least + "03" + none + "00" + "02", api.Meta{Have: [2]api.Image{second, first}, Min: 0x3c3d3e3f, Phase: api.Trial, Trials: 2}},
		{"01" + one + two + "00000000" + "03" + none + "00" + "01", api.Meta{Active: 1, Have: [2]api.Image{first, second}, Phase: api.Trial, Trials: 1}},
	}
}

func TestKnown(t *testing.T) {
	for _, x := range known() {
		want, err := hex.DecodeString(x.text)
		if err != nil || len(want) != whole {
			t.Fatalf("%d bytes, %v", len(want), err)
		}
		judged(t, x.m, true)
		if got := Bytes(x.m); !slices.Equal(got, want) {
			t.Errorf("P1301: Bytes of %+v is %x", x.m, got)
		}
		told(t, "P1301", want, x.m)
	}
}

func TestGoodsOfEachPhase(t *testing.T) {
	for _, m := range goods() {
		judged(t, m, true)
	}
	judged(t, api.Meta{}, false)
}

// A change turns one thing of a Meta; ok is whether it is Right then.
type change struct {
	what string
	turn func(m *api.Meta)
	ok   bool
}

// changed makes each of the changes to m alone, with the one slot active and with the other.
func changed(t *testing.T, m api.Meta, changes []change) {
	t.Helper()
	for range 2 {
		judged(t, m, true)
		for _, c := range changes {
			x := m
			c.turn(&x)
			if isRight(x) != c.ok {
				t.Fatalf("P1301: phase %d, %s: the second reading is %v", m.Phase, c.what, !c.ok)
			}
			judged(t, x, c.ok)
		}
		m.Active = 1 - m.Active
		m.Have[0], m.Have[1] = m.Have[1], m.Have[0]
	}
}

// anyPhase are changes that are as right or as wrong in each phase.
func anyPhase() []change {
	own := func(m *api.Meta) *api.Image { return &m.Have[m.Active] }
	other := func(m *api.Meta) *api.Image { return &m.Have[1-m.Active] }
	return []change{
		{"Active -1", func(m *api.Meta) { m.Active = -1 }, false},
		{"Active 2", func(m *api.Meta) { m.Active = 2 }, false},
		{"the least Active", func(m *api.Meta) { m.Active = math.MinInt }, false},
		{"the greatest Active", func(m *api.Meta) { m.Active = math.MaxInt }, false},
		{"Active 256", func(m *api.Meta) { m.Active += 256 }, false},
		{"no image in the active slot", func(m *api.Meta) { *own(m) = api.Image{} }, false},
		{"no Version in the active slot", func(m *api.Meta) { own(m).Version = 0 }, false},
		{"no Size in the active slot", func(m *api.Meta) { own(m).Size = 0 }, false},
		{"a Digest alone in the active slot", func(m *api.Meta) { *own(m) = api.Image{Digest: digest(1)} }, false},
		{"no Digest in the active slot", func(m *api.Meta) { own(m).Digest = [32]byte{} }, true},
		{"the least image", func(m *api.Meta) { *own(m) = made(1, 1) }, true},
		{"the greatest image", func(m *api.Meta) { *own(m) = made(1<<30, 1920) }, true},
		{"a Version one more", func(m *api.Meta) { own(m).Version = 1<<30 + 1 }, false},
		{"a Size one more", func(m *api.Meta) { own(m).Size = 1921 }, false},
		{"a Version of -1", func(m *api.Meta) { own(m).Version = -1 }, false},
		{"a Size of -1", func(m *api.Meta) { own(m).Size = -1 }, false},
		{"a Version and a Size of -1", func(m *api.Meta) { own(m).Version, own(m).Size = -1, -1 }, false},
		{"another one with a Digest alone", func(m *api.Meta) { *other(m) = api.Image{Digest: [32]byte{31: 1}} }, false},
		{"another one with a Version alone", func(m *api.Meta) { *other(m) = api.Image{Version: 1} }, false},
		{"another one with a Size alone", func(m *api.Meta) { *other(m) = api.Image{Size: 1} }, false},
		{"another one below 0", func(m *api.Meta) { *other(m) = api.Image{Version: -1, Size: -1} }, false},
		{"another one too great", func(m *api.Meta) { *other(m) = made(1<<30+1, 1) }, false},
		{"another one too long", func(m *api.Meta) { *other(m) = made(1, 1921) }, false},
		{"coming with a Digest alone", func(m *api.Meta) { m.Coming = api.Image{Digest: [32]byte{1}} }, false},
		{"coming with a Version alone", func(m *api.Meta) { m.Coming = api.Image{Version: 1} }, false},
		{"coming with a Size alone", func(m *api.Meta) { m.Coming = api.Image{Size: 1} }, false},
		{"coming below 0", func(m *api.Meta) { m.Coming = api.Image{Version: -1, Size: -1} }, false},
		{"coming too great", func(m *api.Meta) { m.Coming.Version, m.Coming.Size = 1<<30+1, 641 }, false},
		{"coming too long", func(m *api.Meta) { m.Coming.Version, m.Coming.Size = 1, 1921 }, false},
		{"Min 0", func(m *api.Meta) { m.Min = 0 }, true},
		{"the greatest Min", func(m *api.Meta) { m.Min = 1 << 30 }, true},
		{"Min above the active one's Version", func(m *api.Meta) { m.Min = own(m).Version + 1 }, true},
		{"Min -1", func(m *api.Meta) { m.Min = -1 }, false},
		{"Min one more", func(m *api.Meta) { m.Min = 1<<30 + 1 }, false},
		{"the least Min", func(m *api.Meta) { m.Min = math.MinInt }, false},
		{"Phase -1", func(m *api.Meta) { m.Phase = -1 }, false},
		{"Phase 4", func(m *api.Meta) { m.Phase = 4 }, false},
		{"Phase and 256", func(m *api.Meta) { m.Phase += 256 }, false},
		{"Got -1", func(m *api.Meta) { m.Got = -1 }, false},
		{"Got 7", func(m *api.Meta) { m.Got = 7 }, false},
		{"Trials -1", func(m *api.Meta) { m.Trials = -1 }, false},
		{"Trials 3", func(m *api.Meta) { m.Trials = 3 }, false},
	}
}

func TestIdle(t *testing.T) {
	m := api.Meta{Have: [2]api.Image{made(4, 500), {}}, Min: 3}
	changes := append(anyPhase(),
		change{"the other slot too", func(m *api.Meta) { m.Have[1-m.Active] = made(9, 1920) }, true},
		change{"the same image in both", func(m *api.Meta) { m.Have[1-m.Active] = m.Have[m.Active] }, true},
		change{"the other one active", func(m *api.Meta) { m.Active = 1 - m.Active }, false},
		change{"a Coming", func(m *api.Meta) { m.Coming = made(5, 1) }, false},
		change{"a Got", func(m *api.Meta) { m.Got = 1 }, false},
		change{"a Got of 6", func(m *api.Meta) { m.Got = 6 }, false},
		change{"a Trials", func(m *api.Meta) { m.Trials = 1 }, false},
		change{"a Trials of 2", func(m *api.Meta) { m.Trials = 2 }, false},
		change{"Receiving", func(m *api.Meta) { m.Phase = api.Receiving }, false},
		change{"Verified", func(m *api.Meta) { m.Phase = api.Verified }, false},
		change{"Trial", func(m *api.Meta) { m.Phase = api.Trial }, false},
	)
	changed(t, m, changes)
	m.Have[1] = made(5, 321)
	changed(t, m, append(anyPhase(),
		change{"the other one active", func(m *api.Meta) { m.Active = 1 - m.Active }, true},
		change{"a Trials", func(m *api.Meta) { m.Trials = 1 }, false},
		change{"a Got", func(m *api.Meta) { m.Got = 1 }, false},
		change{"a Coming", func(m *api.Meta) { m.Coming = made(5, 1) }, false},
		change{"Trial", func(m *api.Meta) { m.Phase = api.Trial }, true},
	))
}

// comingChanges are as right or as wrong in Receiving and in Verified.
func comingChanges() []change {
	return append(anyPhase(),
		change{"no Coming", func(m *api.Meta) { m.Coming = api.Image{} }, false},
		change{"no Coming and no Got", func(m *api.Meta) { m.Coming, m.Got = api.Image{}, 0 }, false},
		change{"no Digest coming", func(m *api.Meta) { m.Coming.Digest = [32]byte{} }, true},
		change{"a Version below Min", func(m *api.Meta) { m.Coming.Version, m.Min = 1, 2 }, true},
		change{"the greatest Version", func(m *api.Meta) { m.Coming.Version = 1 << 30 }, true},
		change{"an image in the other slot", func(m *api.Meta) { m.Have[1-m.Active] = made(1, 1) }, false},
		change{"the coming one in the other slot", func(m *api.Meta) { m.Have[1-m.Active] = m.Coming }, false},
		change{"the other one active", func(m *api.Meta) { m.Active = 1 - m.Active }, false},
		change{"Trials 1", func(m *api.Meta) { m.Trials = 1 }, false},
		change{"Trials 2", func(m *api.Meta) { m.Trials = 2 }, false},
		change{"Idle", func(m *api.Meta) { m.Phase = api.Idle }, false},
		change{"Trial", func(m *api.Meta) { m.Phase = api.Trial }, false},
		change{"one chunk more", func(m *api.Meta) { m.Got++ }, false},
	)
}

// TestComing has all chunks of images that end ahead of a chunk's end, at it and behind it; one chunk fewer is Right where chunks may be missing.
func TestComing(t *testing.T) {
	for _, x := range []struct{ size, chunks int }{{1, 1}, {319, 1}, {320, 1}, {321, 2}, {639, 2}, {640, 2}, {641, 3}, {960, 3}, {961, 4}, {1280, 4}, {1281, 5}, {1600, 5}, {1601, 6}, {1919, 6}, {1920, 6}} {
		m := api.Meta{Have: [2]api.Image{made(4, 500), {}}, Min: 3, Coming: made(6, x.size), Got: x.chunks}
		for _, phase := range []int{api.Receiving, api.Verified} {
			m.Phase = phase
			missing := phase == api.Receiving
			changed(t, m, append(comingChanges(),
				change{"one chunk fewer", func(m *api.Meta) { m.Got-- }, missing},
				change{"no chunk", func(m *api.Meta) { m.Got = 0 }, missing},
				change{"a byte of a chunk more", func(m *api.Meta) { m.Coming.Size = 320*x.chunks + 1 }, missing && x.chunks < 6},
				change{"the chunks' last byte", func(m *api.Meta) { m.Coming.Size = 320 * x.chunks }, true},
				change{"the last chunk's first byte", func(m *api.Meta) { m.Coming.Size = 320*x.chunks - 319 }, true},
				change{"a chunk's Size fewer", func(m *api.Meta) { m.Coming.Size = 320 * (x.chunks - 1) }, false},
				change{"the other phase", func(m *api.Meta) { m.Phase = 3 - phase }, true},
			))
		}
		for got := -1; got <= 8; got++ {
			m.Phase, m.Got = api.Receiving, got
			judged(t, m, got >= 0 && got <= x.chunks)
			m.Phase = api.Verified
			judged(t, m, got == x.chunks)
		}
	}
}

func TestTrial(t *testing.T) {
	for trials := -2; trials <= 4; trials++ {
		m := api.Meta{Have: [2]api.Image{made(4, 500), made(5, 321)}, Min: 3, Phase: api.Trial, Trials: trials}
		if trials < 0 || trials > 2 {
			judged(t, m, false)
			continue
		}
		changed(t, m, append(anyPhase(),
			change{"no image in the other slot", func(m *api.Meta) { m.Have[1-m.Active] = api.Image{} }, false},
			change{"no image in both", func(m *api.Meta) { m.Have = [2]api.Image{} }, false},
			change{"the other one active", func(m *api.Meta) { m.Active = 1 - m.Active }, true},
			change{"a Coming", func(m *api.Meta) { m.Coming = made(6, 1) }, false},
			change{"the other slot's one coming", func(m *api.Meta) { m.Coming = m.Have[1-m.Active] }, false},
			change{"Got 1", func(m *api.Meta) { m.Got = 1 }, false},
			change{"Got 6", func(m *api.Meta) { m.Got = 6 }, false},
			change{"Idle", func(m *api.Meta) { m.Phase = api.Idle }, trials == 0},
			change{"Receiving", func(m *api.Meta) { m.Phase = api.Receiving }, false},
			change{"Verified", func(m *api.Meta) { m.Phase = api.Verified }, false},
		))
	}
}

// part is one number of a Meta.
type part struct {
	name string
	at   func(m *api.Meta) *int
}

func parts() []part {
	return []part{
		{"Active", func(m *api.Meta) *int { return &m.Active }},
		{"Have[0].Version", func(m *api.Meta) *int { return &m.Have[0].Version }},
		{"Have[0].Size", func(m *api.Meta) *int { return &m.Have[0].Size }},
		{"Have[1].Version", func(m *api.Meta) *int { return &m.Have[1].Version }},
		{"Have[1].Size", func(m *api.Meta) *int { return &m.Have[1].Size }},
		{"Min", func(m *api.Meta) *int { return &m.Min }},
		{"Phase", func(m *api.Meta) *int { return &m.Phase }},
		{"Coming.Version", func(m *api.Meta) *int { return &m.Coming.Version }},
		{"Coming.Size", func(m *api.Meta) *int { return &m.Coming.Size }},
		{"Got", func(m *api.Meta) *int { return &m.Got }},
		{"Trials", func(m *api.Meta) *int { return &m.Trials }},
	}
}

// edges are the numbers at and beside all bounds, those whose lowest bytes are within them, and the ends of an int.
func edges() []int {
	return []int{
		-1, 0, 1, 2, 3, 4, 5, 6, 7, 8, 255, 256, 257, 258, 319, 320, 321, 639, 640, 641, 1919, 1920, 1921, 1922,
		1<<30 - 1, 1 << 30, 1<<30 + 1, 1<<31 - 1, 1 << 31, 1<<31 + 1, 1<<32 - 1, 1 << 32, 1<<32 + 1, 1<<32 + 320,
		-2, -6, -255, -256, -319, -320, -321, -1 << 30, math.MinInt32, -1 << 32, -1<<32 + 1,
		math.MaxInt - 318, math.MaxInt - 1, math.MaxInt, math.MinInt, math.MinInt + 1, math.MinInt + 256,
	}
}

// TestEachField turns each single number of each good one to each edge.
func TestEachField(t *testing.T) {
	for _, m := range goods() {
		for _, f := range parts() {
			for _, n := range edges() {
				x := m
				*f.at(&x) = n
				judged(t, x, isRight(x))
			}
		}
	}
}

// TestEachImage turns Version and Size together in each of the three images, with a Digest and without.
func TestEachImage(t *testing.T) {
	images := []func(m *api.Meta) *api.Image{
		func(m *api.Meta) *api.Image { return &m.Have[0] },
		func(m *api.Meta) *api.Image { return &m.Have[1] },
		func(m *api.Meta) *api.Image { return &m.Coming },
	}
	versions := []int{math.MinInt, -1, 0, 1, 2, 1 << 30, 1<<30 + 1, math.MaxInt}
	sizes := []int{math.MinInt, -1, 0, 1, 2, 1920, 1921, math.MaxInt}
	digests := [][32]byte{{}, digest(1), {0: 1}, {31: 0x80}}
	for _, m := range goods() {
		for _, at := range images {
			for _, v := range versions {
				for _, s := range sizes {
					for _, d := range digests {
						x := m
						*at(&x) = api.Image{Version: v, Size: s, Digest: d}
						judged(t, x, isRight(x))
					}
				}
			}
		}
	}
}

// TestEachDigestByte lays one byte that is not 0 where no image is, at each place.
func TestEachDigestByte(t *testing.T) {
	m := api.Meta{Have: [2]api.Image{made(4, 500), {}}}
	for i := range 32 {
		for _, n := range []byte{1, 0x80, 0xff} {
			x := m
			x.Have[1].Digest[i] = n
			judged(t, x, false)
			x = m
			x.Coming.Digest[i] = n
			judged(t, x, false)
			x = m
			x.Have[0].Digest[i] = n
			judged(t, x, true)
		}
	}
}

// TestAllSmall goes through all of few images and small numbers. Of either Active are Right: 2 that are Idle, 17 Receiving, 5 Verified, 3 in Trial.
func TestAllSmall(t *testing.T) {
	none, one := api.Image{}, made(3, 3)
	haves := []api.Image{none, one}
	comings := []api.Image{none, made(5, 1), made(5, 320), made(5, 321), made(5, 640), made(5, 1920)}
	var right [4]int
	for n := range 4 * 2 * 2 * 6 * 6 * 10 * 6 {
		next := func(k int) int {
			x := n % k
			n /= k
			return x
		}
		m := api.Meta{Active: next(4) - 1, Have: [2]api.Image{haves[next(2)], haves[next(2)]}, Coming: comings[next(6)], Phase: next(6) - 1, Got: next(10) - 1, Trials: next(6) - 2}
		judged(t, m, isRight(m))
		if Right(m) {
			right[m.Phase]++
		}
	}
	if right != [4]int{4, 34, 10, 6} {
		t.Errorf("P1301: Right are %v of the phases", right)
	}
}

// drawn makes a Meta that is Right.
func drawn(c *chance) api.Meta {
	image := func() api.Image {
		return api.Image{Version: 1 + int(c.next()>>2)>>c.below(31), Size: 1 + c.below(1920), Digest: [32]byte(c.row(32))}
	}
	m := api.Meta{Active: c.below(2), Min: int(c.next()>>2) >> c.below(31), Phase: c.below(4)}
	m.Have[m.Active] = image()
	switch m.Phase {
	case api.Idle:
		if c.below(2) == 0 {
			m.Have[1-m.Active] = image()
		}
	case api.Receiving, api.Verified:
		m.Coming = image()
		m.Got = (m.Coming.Size-1)/320 + 1
		if m.Phase == api.Receiving {
			m.Got = c.below(m.Got + 1)
		}
	case api.Trial:
		m.Have[1-m.Active] = image()
		m.Trials = c.below(3)
	}
	return m
}

// TestBack has the good ones and many that are drawn: Read of their Bytes tells them.
func TestBack(t *testing.T) {
	c := chance(13)
	all := goods()
	for range 5000 {
		all = append(all, drawn(&c))
	}
	for _, m := range all {
		if !isRight(m) || !Right(m) {
			t.Fatalf("P1301: %+v is not Right", m)
		}
		b := Bytes(m)
		if len(b) > api.Load || len(b) != whole || !slices.Equal(b, written(m)) {
			t.Fatalf("P1302: Bytes of %+v is %d bytes %x", m, len(b), b)
		}
		told(t, "P1302", b, m)
		told(t, "P1302", append(b, make([]byte, api.Load-len(b))...), m)
		// Another one's bytes differ.
		if x := drawn(&c); x != m && slices.Equal(Bytes(x), b) {
			t.Fatalf("P1302: %+v and %+v have the same Bytes", m, x)
		}
	}
}

// TestBehind has bytes 0 behind, few and many, and each single one of them turned.
func TestBehind(t *testing.T) {
	for _, m := range goods()[:20] {
		for _, n := range []int{0, 1, 2, 27, 28, 29, 100, 128, 192, 872, 873, 1000, 5000} {
			told(t, "P1301", append(Bytes(m), make([]byte, n)...), m)
		}
	}
	for _, x := range known() {
		m := x.m
		for _, n := range []int{1, 2, 28, 29, 192, 1100} {
			b := append(Bytes(m), make([]byte, n)...)
			for i := whole; i < len(b); i++ {
				for _, wrong := range []byte{1, 0x80, 0xff} {
					b[i] = wrong
					refused(t, "P1301", b)
				}
				b[i] = 0
			}
			told(t, "P1301", b, m)
		}
		b := append(Bytes(m), 0)
		for wrong := 1; wrong < 256; wrong++ {
			b[whole] = byte(wrong)
			refused(t, "P1301", b)
		}
		b = append(Bytes(m), make([]byte, 1<<20)...)
		told(t, "P1301", b, m)
		b[len(b)-1] = 1
		refused(t, "P1301", b)
		refused(t, "P1301", slices.Concat(Bytes(m), Bytes(m)))
		refused(t, "P1301", append([]byte{0}, Bytes(m)...))
		refused(t, "P1301", append(make([]byte, 4), Bytes(m)...))
	}
}

// TestBeginnings has each row that is too short, of a Meta's bytes, with them behind it in memory and without, and of others.
func TestBeginnings(t *testing.T) {
	c := chance(2)
	for _, m := range goods() {
		b := Bytes(m)
		for n := range b {
			refused(t, "P1301", b[:n])
			refused(t, "P1301", slices.Clone(b[:n]))
			refused(t, "P1301", b[whole-n:])
		}
	}
	for n := range 400 {
		refused(t, "P1301", make([]byte, n))
		refused(t, "P1301", bytes.Repeat([]byte{255}, n))
		refused(t, "P1301", bytes.Repeat([]byte{1}, n))
		refused(t, "P1301", append(c.row(n), 1))
	}
}

// TestEachByte turns each byte to each other value: it is told back what stands there then, or nothing.
func TestEachByte(t *testing.T) {
	for _, x := range known() {
		m := x.m
		b := Bytes(m)
		var taken [whole]int
		for i := range b {
			was := b[i]
			for n := range 256 {
				b[i] = byte(n)
				if back := stands(b); isRight(back) {
					told(t, "P1301", b, back)
					taken[i]++
				} else {
					refused(t, "P1301", b)
				}
			}
			b[i] = was
		}
		places(t, m, taken)
	}
}

// places says for the bytes of m how many values each may have.
func places(t *testing.T, m api.Meta, taken [whole]int) {
	t.Helper()
	for k, i := range []api.Image{m.Have[0], m.Have[1], m.Coming} {
		at := []int{1, 41, 86}[k]
		for d := range 40 {
			want := 1 // bytes 0 of no image, and the higher ones of a Size
			switch {
			case i.Version == 0:
			case d == 0: // a Version's first byte may be 0 to 3f: with the bytes behind it 40 is too great
				want = 64
			case d < 4 || d >= 8:
				want = 256
			case d >= 6: // it hangs on the phase
				continue
			}
			if taken[at+d] != want {
				t.Fatalf("P1301: byte %d of %+v may have %d values, not %d", at+d, m, taken[at+d], want)
			}
		}
	}
	first := 64
	if m.Min == 0 { // 40000000 is the greatest
		first = 65
	}
	if taken[81] != first || taken[82] != 256 || taken[83] != 256 || taken[84] != 256 {
		t.Fatalf("P1301: the bytes of Min may have %v values", taken[81:85])
	}
	got, trials := 1, 1
	switch m.Phase {
	case api.Receiving:
		got = 6 // chunks of 0 to 5
	case api.Trial:
		trials = 3
	}
	if taken[126] != got || taken[127] != trials {
		t.Fatalf("P1301: Got and Trials of %+v may have %d and %d values", m, taken[126], taken[127])
	}
}

// TestEachBit turns each bit: what is told then is never what was written.
func TestEachBit(t *testing.T) {
	for _, m := range goods() {
		b := Bytes(m)
		for i := range 8 * whole {
			b[i/8] ^= 1 << (i % 8)
			if got, _ := Read(b); got == m {
				t.Fatalf("P1301: Read of %+v, bit %d turned, tells it", m, i)
			}
			if back := stands(b); isRight(back) {
				told(t, "P1301", b, back)
			} else {
				refused(t, "P1301", b)
			}
			b[i/8] ^= 1 << (i % 8)
		}
	}
}

// TestOthers has rows that nothing wrote.
func TestOthers(t *testing.T) {
	c := chance(7)
	for range 3000 {
		b := c.row(whole)
		b[0], b[85], b[126], b[127] = b[0]%3, b[85]%5, b[126]%8, b[127]%4
		if back := stands(b); !isRight(back) {
			refused(t, "P1301", b)
		} else {
			told(t, "P1301", b, back)
		}
	}
	refused(t, "P1301", make([]byte, whole))
	refused(t, "P1301", bytes.Repeat([]byte{255}, whole))
	refused(t, "P1301", make([]byte, api.Load))
}

// turned turns all of b in place, its spare room too.
func turned(b []byte) {
	room := b[:cap(b)]
	for i := range room {
		room[i] ^= 0x55
	}
}

// TestHandedInStays looks at the row and at the memory on both its sides, which must neither be turned nor be read.
func TestHandedInStays(t *testing.T) {
	c := chance(5)
	for _, m := range goods() {
		for _, n := range []int{0, 1, 85, 126, 127, whole, 129, api.Load, 300} {
			room := slices.Concat(c.row(100), Bytes(m), make([]byte, 300))
			copy(room[100+max(n, whole):], c.row(len(room)))
			b := room[100 : 100+n]
			was := slices.Clone(room)
			got, e := Read(b)
			if want := n >= whole; (e == api.OK) != want || want && got != m {
				t.Fatalf("P1301: Read of %d bytes: %+v, error %d", n, got, e)
			}
			if !slices.Equal(room, was) {
				t.Fatalf("P1302: a row of %d bytes, or the memory beside it, was turned", n)
			}
			turned(room[:100:100])
			turned(room[100+n:])
			if again, f := Read(b); again != got || f != e {
				t.Fatalf("P1302: Read of %d bytes hangs on the memory beside them", n)
			}
		}
	}
}

// TestNotKept turns rows that were handed in: what was told must stay, and the next call must read what stands there now.
func TestNotKept(t *testing.T) {
	l := goods()
	for i, m := range l {
		other := l[(i+7)%len(l)]
		b := append(make([]byte, 0, 200), Bytes(m)...)
		was := slices.Clone(b)
		got, _ := Read(b)
		turned(b)
		if got != m {
			t.Fatalf("P1302: what Read told was turned with the row: %+v", got)
		}
		refused(t, "P1302", b)
		copy(b, Bytes(other))
		told(t, "P1302", b, other)
		copy(b, was)
		got.Have[0].Digest[0]++
		got.Coming.Digest[31]++
		if !slices.Equal(b, was) {
			t.Fatalf("P1302: the row was turned with what Read told")
		}
		told(t, "P1302", b, m)
	}
}

// TestNewMemory turns and grows what was answered: neither another answer nor a later one turns.
func TestNewMemory(t *testing.T) {
	for _, m := range goods() {
		want := written(m)
		was := m
		one, two := Bytes(m), Bytes(m)
		turned(append(one, "more"...))
		turned(one)
		if !slices.Equal(two, want) {
			t.Fatalf("P1302: two answers of Bytes share memory: %x", two)
		}
		turned(append(two, make([]byte, 1000)...))
		if !slices.Equal(Bytes(m), want) || m != was {
			t.Fatalf("P1302: Bytes hangs on an earlier answer")
		}
		m.Have[m.Active].Digest[3]++
		if !slices.Equal(two, want) {
			t.Fatalf("P1302: Bytes was turned with the Meta")
		}
	}
	none := Bytes(api.Meta{})
	turned(append(none, "more"...))
	if len(Bytes(api.Meta{})) != 0 {
		t.Error("P1302: Bytes of none hangs on an earlier answer")
	}
}

// answer is all that the three calls answer, in a form that can be held against another.
type answer struct {
	right bool
	bytes string
	read  api.Meta
	e     api.Errno
}

// TestOnlyArguments calls in several orders: an answer that hung on an earlier call would differ.
func TestOnlyArguments(t *testing.T) {
	l, all, numbers := goods(), parts(), edges()
	call := func(i int) answer {
		c := chance(i)
		m := l[i*7%len(l)]
		b := append(Bytes(m), make([]byte, i%3)...)
		switch i % 5 {
		case 1:
			b = b[:c.below(whole)]
		case 2:
			b[c.below(len(b))] ^= 4
		case 3:
			b = append(b, 1)
		}
		if i%2 == 1 {
			*all[c.below(len(all))].at(&m) = numbers[c.below(len(numbers))]
		}
		read, e := Read(b)
		return answer{Right(m), string(Bytes(m)), read, e}
	}
	var first [100]answer
	for i := range first {
		first[i] = call(i)
	}
	for i := range first {
		for j := range first {
			call(j)
			if got := call(i); got != first[i] {
				t.Fatalf("P1302: call %d behind call %d answers otherwise", i, j)
			}
		}
	}
}
