package tenant

import (
	"bytes"
	"crypto/hmac"
	"crypto/sha256"
	"encoding/binary"
	"fmt"
	"math"
	"slices"
	"strings"
	"sync"
	"testing"

	"waterline/api"
	"waterline/nor"
	"waterline/update"
)

const (
	sec     = 320
	most    = 6 // sectors of a slot
	ringLen = 4
	fromSec = 2 // where the parts of the tests begin in their flashes
	behind  = 2 // how many sectors are behind them
	top     = 1 << 30
)

// blank is a sector of which all bits are 1.
var blank = strings.Repeat("\xff", sec)

// chance makes numbers, the same ones at each run.
type chance uint64

// below makes a number of 0 to n-1.
func (c *chance) below(n int) int {
	*c = *c*6364136223846793005 + 1442695040888963407
	return int(*c>>33) % n
}

// one makes one of the numbers of l.
func (c *chance) one(l []int) int { return l[c.below(len(l))] }

func (c *chance) row(n int) []byte {
	out := make([]byte, n)
	for i := range out {
		out[i] = byte(c.below(256))
	}
	return out
}

func full(n int, x byte) []byte { return bytes.Repeat([]byte{x}, n) }

// edges are numbers at and around each limit, far from them, and those that have the lowest bits of one that may be.
func edges() []int {
	return []int{
		math.MinInt, math.MinInt + 1, math.MinInt + 2, math.MinInt + 9, math.MinInt / 2, -1 << 32, -1<<32 + 1, math.MinInt32, -256, -255, -10, -9, -4, -2, -1,
		0, 1, 2, 3, 4, 5, 6, 7, 8, 9, 10, 11, 12, 16, 63, 64, 65, 255, 256, 257, 999, 1000, 1001, 1023, 1024, math.MaxInt32, math.MaxInt32 + 1, 1 << 32, 1<<32 + 1, 1<<32 + 2, 1<<32 + 9, math.MaxInt / 2, math.MaxInt - 9, math.MaxInt - 1, math.MaxInt,
	}
}

// picture is the bytes of an image; each version's and size's are others.
func picture(version, size int) []byte {
	c := chance(version*5000 + size)
	return c.row(size)
}

func imageOf(version, size int) api.Image {
	return api.Image{Version: version, Size: size, Digest: sha256.Sum256(picture(version, size))}
}

// config is one whose slots have so many sectors, and whose images may fill them.
func config(slot, budget, first int) api.Config {
	return api.Config{Name: "aβ1", Key: []byte("a key"), Slot: slot, Budget: budget, Quota: slot, Rights: 1023, First: picture(1, first)}
}

// manifestRow writes a manifest by hand.
func manifestRow(key []byte, name string, i api.Image) []byte {
	row := append([]byte("WLM1"), name...)
	row = append(row, make([]byte, 20-len(row))...)
	row = binary.BigEndian.AppendUint32(row, uint32(i.Version))
	row = binary.BigEndian.AppendUint32(row, uint32(i.Size))
	row = append(row, i.Digest[:]...)
	tag := hmac.New(sha256.New, key)
	tag.Write(row)
	return tag.Sum(row)
}

// metaRow writes a Meta by hand.
func metaRow(m api.Meta) []byte {
	image := func(row []byte, i api.Image) []byte {
		row = binary.BigEndian.AppendUint32(row, uint32(i.Version))
		row = binary.BigEndian.AppendUint32(row, uint32(i.Size))
		return append(row, i.Digest[:]...)
	}
	row := image(image([]byte{byte(m.Active)}, m.Have[0]), m.Have[1])
	row = append(binary.BigEndian.AppendUint32(row, uint32(m.Min)), byte(m.Phase))
	return append(image(row, m.Coming), byte(m.Got), byte(m.Trials))
}

// cellRow writes a cell by hand.
func cellRow(seq int, load []byte) []byte {
	plain := append(binary.BigEndian.AppendUint32(nil, uint32(seq)), load...)
	plain = append(plain, make([]byte, sec/2-len(plain))...)
	var row []byte
	for _, x := range plain {
		row = append(row, x, ^x)
	}
	return row
}

// uncell reads a cell by hand; seq 0: it is none.
func uncell(sector string) (seq int, load []byte) {
	var plain []byte
	for i := 0; i < sec; i += 2 {
		if sector[i]^sector[i+1] != 0xff {
			return 0, nil
		}
		plain = append(plain, sector[i])
	}
	n := binary.BigEndian.Uint32(plain)
	if n > math.MaxInt32 {
		return 0, nil
	}
	return int(n), plain[4:]
}

// bench is a flash, a tenant's part of it with other sectors on both sides, and that tenant.
type bench struct {
	f *nor.Flash
	p api.Cap
	c api.Config
	x *Tenant
}

// emptyBench makes a part that is blank, of just so many sectors as it needs and extra ones; what is on both sides is not blank.
func emptyBench(c api.Config, extra int) bench {
	need := ringLen + 2*c.Slot
	x := bench{f: nor.New(fromSec + need + extra + behind), p: api.Cap{Rights: 1023, From: fromSec, Len: need + extra}, c: c}
	noise := chance(77)
	for s := range x.f.Len() {
		if s < fromSec || s >= fromSec+x.p.Len {
			x.f.Program(s*sec, noise.row(sec))
		}
	}
	return x
}

// setUp makes a bench whose tenant is set up and opened.
func setUp(t *testing.T, c api.Config) bench {
	t.Helper()
	x := emptyBench(c, 0)
	if e := Setup(x.f, x.p, x.c); e != api.OK {
		t.Fatalf("P2001: Setup: error %d", e)
	}
	x.x = x.opened(t)
	return x
}

// opened opens the tenant.
func (x bench) opened(t *testing.T) *Tenant {
	t.Helper()
	y, e := Open(x.f, x.p, x.c)
	if e != api.OK || y == nil {
		t.Fatalf("P2001: Open: error %d", e)
	}
	return y
}

// lay writes b at the beginning of a sector of the part, by the flash alone.
func (x bench) lay(t *testing.T, sector int, b []byte) {
	t.Helper()
	if e := x.f.Program((x.p.From+sector)*sec, b); e != api.OK {
		t.Fatalf("Program of %d bytes into sector %d: %d", len(b), sector, e)
	}
}

// wear erases a sector of the part n times, by the flash alone.
func (x bench) wear(t *testing.T, sector, n int) {
	t.Helper()
	for range n {
		if e := x.f.Erase(x.p.From + sector); e != api.OK {
			t.Fatalf("Erase of sector %d: %d", sector, e)
		}
	}
}

// turnOff makes the flash one that is off, and turns nothing else of it but its ops.
func (x bench) turnOff(t *testing.T) {
	t.Helper()
	x.f.Cut(0, []byte{0xff})
	if e := x.f.Program(0, nil); e != api.ErrOff || !x.f.Off() {
		t.Fatalf("a cut: %d", e)
	}
}

// chunk is the sector, in the part, of a chunk.
func (x bench) chunk(slot, k int) int { return ringLen + slot*x.c.Slot + k }

// state is all that can be asked of a flash.
type state struct {
	sectors []string
	wears   []int
	ops     int
	off     bool
}

func stateOf(f *nor.Flash) state {
	s := state{ops: f.Ops(), off: f.Off()}
	for i := range f.Len() {
		s.sectors = append(s.sectors, string(f.Read(i*sec, sec)))
		s.wears = append(s.wears, f.Wear(i))
	}
	return s
}

func (x bench) state() state { return stateOf(x.f) }

func same(a, b state) bool {
	return slices.Equal(a.sectors, b.sectors) && slices.Equal(a.wears, b.wears) && a.ops == b.ops && a.off == b.off
}

// differ tells where two states are not the same.
func differ(a, b state) string {
	out := fmt.Sprintf("%d and %d operations, off: %v and %v", a.ops, b.ops, a.off, b.off)
	for i := range a.sectors {
		if a.sectors[i] != b.sectors[i] || a.wears[i] != b.wears[i] {
			out += fmt.Sprintf(", sector %d of the flash: %x.. and %x.., wear %d and %d", i, a.sectors[i][:8], b.sectors[i][:8], a.wears[i], b.wears[i])
		}
	}
	return out
}

// cutting says which of the operations to come is cut (below 0: none), and which bits stay.
type cutting struct {
	n    int
	mask []byte
}

var uncut = cutting{n: -1}

func (c cutting) on(f *nor.Flash) {
	if c.n >= 0 {
		f.Cut(c.n, c.mask)
	}
}

// laid tells what is in a sector when b was laid over its beginning, and the bits of the mask stayed.
func laid(was string, b, mask []byte) string {
	out := []byte(was)
	for i, x := range b {
		stay := byte(0)
		if len(mask) > 0 {
			stay = mask[i%len(mask)]
		}
		out[i] = out[i]&stay | x&^stay
	}
	return string(out)
}

// op does one operation on a state: sector at becomes as it is with b laid over its beginning; it tells whether power is still there.
func (s *state) op(at int, b []byte, c *cutting) bool {
	s.ops++
	c.n--
	if c.n != -1 {
		s.sectors[at] = laid(s.sectors[at], b, nil)
		return true
	}
	s.sectors[at] = laid(s.sectors[at], b, c.mask)
	s.off = true
	return false
}

// fill makes b all that lies in a sector; false: the power went, or is not there.
func (s *state) fill(at int, b []byte, c *cutting) bool {
	if s.off {
		return false
	}
	if s.sectors[at] != blank {
		s.wears[at]++
		if !s.op(at, []byte(blank), c) {
			return false
		}
	}
	return s.op(at, b, c)
}

// free tells whether a sector can be filled.
func (s state) free(at, budget int) bool { return s.sectors[at] == blank || s.wears[at] < budget }

// round is where a ring has come to.
type round struct {
	next, seq int // seq 0: there is no cell
	load      []byte
}

func (s state) ring(from int) round {
	var out round
	for i := range ringLen {
		if seq, load := uncell(s.sectors[from+i]); seq > out.seq {
			out = round{(i + 1) % ringLen, seq, load}
		}
	}
	return out
}

// mayKeep tells whether something more can be put into the ring.
func (x bench) mayKeep(s state) bool {
	r := s.ring(x.p.From)
	return s.free(x.p.From+r.next, x.c.Budget) && r.seq < math.MaxInt32
}

// image is what the first size bytes of a slot are.
func (x bench) image(s state, slot, size int) []byte {
	at := x.p.From + x.chunk(slot, 0)
	return []byte(strings.Join(s.sectors[at:at+x.c.Slot], ""))[:size]
}

// fact is a second reading of what a request hangs on, by the flash alone.
func (x bench) fact(s state, m api.Meta, q api.Req) api.Fact {
	f := api.Fact{Worn: !x.mayKeep(s)}
	b := q.Bytes
	if len(b) == 92 {
		f.Name = strings.TrimRight(string(b[4:20]), "\x00") == x.c.Name
		tag := hmac.New(sha256.New, x.c.Key)
		tag.Write(b[:60])
		f.Tag = bytes.Equal(tag.Sum(nil), b[60:])
	}
	if m.Phase == api.Receiving {
		f.Digest = sha256.Sum256(x.image(s, 1-m.Active, m.Coming.Size))
		inTurn := q.Kind == api.QWrite && q.N == m.Got
		if inTurn && q.N < x.c.Slot && !s.free(x.p.From+x.chunk(1-m.Active, q.N), x.c.Budget) {
			f.Worn = true
		}
	}
	return f
}

// outcome is what a Do leaves and answers.
type outcome struct {
	s  state
	m  api.Meta
	r  api.Resp
	ok bool
}

// reckon is a second reading of Do, by the flash alone; next is what would be kept, if nothing is cut.
func (x bench) reckon(m api.Meta, q api.Req, c cutting) (out outcome, next api.Meta) {
	out = outcome{x.state(), m, api.Resp{Err: api.ErrRight}, true}
	if q.Kind < 1 || q.Kind > 9 || x.p.Rights&(1<<q.Kind) == 0 {
		return out, m
	}
	next, out.r = update.Do(m, q, x.fact(out.s, m, q), x.c.Quota)
	if out.r.Err != api.OK || next == m {
		return out, m
	}
	r := out.s.ring(x.p.From)
	done := q.Kind != api.QWrite || out.s.fill(x.p.From+x.chunk(1-m.Active, q.N), q.Bytes, &c)
	if !done || !out.s.fill(x.p.From+r.next, cellRow(r.seq+1, metaRow(next)), &c) {
		out.r, out.ok = api.Resp{}, false
		return out, next
	}
	out.m = next
	return out, next
}

// doIs has q done, with a cut to come or with none, and fails unless what is answered, kept and left is as reckoned, and what is opened then is what was kept, or is to be.
func (x bench) doIs(t *testing.T, q api.Req, c cutting) (api.Resp, bool) {
	t.Helper()
	was, given := x.x.Meta(), bytes.Clone(q.Bytes)
	want, next := x.reckon(was, q, c)
	c.on(x.f)
	r, ok := x.x.Do(q)
	told := fmt.Sprintf("Do of kind %d, N %d, %d bytes, phase %d, cut %d", q.Kind, q.N, len(q.Bytes), was.Phase, c.n)
	if r != want.r || ok != want.ok {
		t.Fatalf("P2002: %s: %v, %v, not %v, %v", told, r, ok, want.r, want.ok)
	}
	if got := x.x.Meta(); got != want.m {
		t.Fatalf("P2002: %s: Meta %v, not %v", told, got, want.m)
	}
	if got := x.state(); !same(got, want.s) {
		t.Fatalf("P2002: %s: %s", told, differ(got, want.s))
	}
	if !bytes.Equal(q.Bytes, given) {
		t.Fatalf("P2003: %s: its bytes were turned", told)
	}
	x.isWhole(t, want.s, x.x, want.m)
	y := x.opened(t)
	if got := y.Meta(); got != want.m && (ok || got != next) {
		t.Fatalf("P2003: %s: Open tells %v, not %v or %v", told, got, was, next)
	}
	x.isWhole(t, want.s, y, y.Meta())
	if got := x.state(); !same(got, want.s) {
		t.Fatalf("P2001: Open, Meta or Active behind %s: %s", told, differ(got, want.s))
	}
	return r, ok
}

// isWhole fails unless Active tells the active slot's image, and it has its Digest.
func (x bench) isWhole(t *testing.T, s state, y *Tenant, m api.Meta) {
	t.Helper()
	own := m.Have[m.Active]
	got := y.Active()
	if !bytes.Equal(got, x.image(s, m.Active, own.Size)) || sha256.Sum256(got) != own.Digest {
		t.Fatalf("P2003: the active image, slot %d: %d bytes %x..", m.Active, len(got), got[:min(8, len(got))])
	}
}

// doGives fails unless doIs tells this answer, and that power is there.
func (x bench) doGives(t *testing.T, q api.Req, want api.Resp) {
	t.Helper()
	if r, ok := x.doIs(t, q, uncut); r != want || !ok {
		t.Fatalf("P2002: Do of kind %d, N %d, %d bytes: %v, %v, not %v", q.Kind, q.N, len(q.Bytes), r, ok, want)
	}
}

func (x bench) doFails(t *testing.T, q api.Req, e api.Errno) {
	t.Helper()
	x.doGives(t, q, api.Resp{Err: e})
}

// begin asks for that version's image to come.
func (x bench) begin(version, size int) api.Req {
	return api.Req{Kind: 1, Bytes: manifestRow(x.c.Key, x.c.Name, imageOf(version, size))}
}

// write brings a chunk of that version's image.
func write(version, size, k int) api.Req {
	return api.Req{Kind: 2, N: k, Bytes: picture(version, size)[k*sec : min(size, k*sec+sec)]}
}

func plain(kind int) api.Req { return api.Req{Kind: kind} }

// toCommit are the requests of an update up to its QCommit.
func (x bench) toCommit(version, size int) []api.Req {
	l := []api.Req{x.begin(version, size)}
	for k := 0; k*sec < size; k++ {
		l = append(l, write(version, size, k))
	}
	return append(l, plain(3), plain(4))
}

// asks has several done, of which each must be OK.
func (x bench) asks(t *testing.T, l ...api.Req) {
	t.Helper()
	for _, q := range l {
		if r, ok := x.doIs(t, q, uncut); r.Err != api.OK || !ok {
			t.Fatalf("P2002: Do of kind %d, N %d: %v, %v", q.Kind, q.N, r, ok)
		}
	}
}

// to brings a tenant of Budget enough into a phase; step: idle, receiving none, receiving one of two chunks, receiving both, verified, trial, trial that was booted.
func (x bench) to(t *testing.T, step int) {
	t.Helper()
	l := x.toCommit(2, 400)
	x.asks(t, append(l, plain(5))[:step]...)
}

const (
	steps  = 7
	atIdle = 0
	atNone = 1
	atOne  = 2
	atBoth = 3
	atSure = 4
	atTry  = 5
	atBoot = 6
)

func TestLimits(t *testing.T) {
	if api.Sector != sec || api.RingLen != ringLen || api.MaxSlot != most || api.MaxBudget != 1000 || api.MaxVersion != top || api.Trials != 2 || api.Load != 156 {
		t.Fatal("the limits are others")
	}
	if api.QBegin != 1 || api.QStatus != 9 || api.Idle != 0 || api.Trial != 3 || api.ErrNone != 16 {
		t.Fatal("the numbers are others")
	}
}

func TestExample(t *testing.T) {
	var none *Tenant
	if r, ok := none.Do(api.Req{}); r != (api.Resp{Err: api.ErrNone}) || !ok {
		t.Errorf("P2003: Do of a nil one: %v, %v", r, ok)
	}
}

func sized(version int, b []byte) api.Image {
	return api.Image{Version: version, Size: len(b), Digest: sha256.Sum256(b)}
}

// TestSetupByNumbers lays first images of each length around each sector's end into blank parts.
func TestSetupByNumbers(t *testing.T) {
	for slot := 1; slot <= most; slot++ {
		for quota := 1; quota <= slot; quota++ {
			for _, size := range []int{1, 2, 319, 320, 321, 639, 640, 641, quota*sec - 1, quota * sec} {
				if size > quota*sec {
					continue
				}
				for extra := range 2 {
					c := config(slot, (size+extra)%3, size)
					c.Quota = quota
					setsUp(t, emptyBench(c, extra))
				}
			}
		}
	}
}

// setsUp fails unless Setup of a blank part leaves just what it is to leave there, and Open tells it.
func setsUp(t *testing.T, x bench) {
	t.Helper()
	want := x.state()
	size := len(x.c.First)
	for k := 0; k*sec < size; k++ {
		want.sectors[x.p.From+4+k] = laid(blank, x.c.First[k*sec:min(size, k*sec+sec)], nil)
		want.ops++
	}
	m := api.Meta{Have: [2]api.Image{sized(1, x.c.First), {}}}
	want.sectors[x.p.From] = string(cellRow(1, metaRow(m)))
	want.ops++
	if e := Setup(x.f, x.p, x.c); e != api.OK {
		t.Fatalf("P2001: Setup of slots of %d, First of %d bytes: error %d", x.c.Slot, size, e)
	}
	if got := x.state(); !same(got, want) {
		t.Fatalf("P2001: Setup of slots of %d, First of %d bytes: %s", x.c.Slot, size, differ(got, want))
	}
	y, z := x.opened(t), x.opened(t)
	if y.Meta() != m || z.Meta() != m || y == z {
		t.Fatalf("P2001: Open behind a Setup tells %v and %v, not %v", y.Meta(), z.Meta(), m)
	}
	if !bytes.Equal(y.Active(), x.c.First) {
		t.Fatalf("P2002: Active behind a Setup: %d bytes, not %d", len(y.Active()), size)
	}
	if got := x.state(); !same(got, want) {
		t.Fatalf("P2001: Open: %s", differ(got, want))
	}
}

// TestWholeFlash has a part that is all of its flash.
func TestWholeFlash(t *testing.T) {
	c := config(3, 0, 700)
	setsUp(t, bench{f: nor.New(10), p: api.Cap{Len: 10}, c: c})
	setsUp(t, bench{f: nor.New(400), p: api.Cap{Len: 400}, c: c})
	setsUp(t, bench{f: nor.New(400), p: api.Cap{From: 390, Len: 10}, c: c})
}

// refused fails unless Setup and Open both tell ErrArg, and nothing is turned.
func (x bench) refused(t *testing.T, told string) {
	t.Helper()
	before := x.state()
	if e := Setup(x.f, x.p, x.c); e != api.ErrArg {
		t.Fatalf("P2001: Setup, %s: error %d", told, e)
	}
	if y, e := Open(x.f, x.p, x.c); e != api.ErrArg || y != nil {
		t.Fatalf("P2001: Open, %s: error %d", told, e)
	}
	if got := x.state(); !same(got, before) {
		t.Fatalf("P2001: Setup or Open, %s: %s", told, differ(got, before))
	}
}

// TestWrongConfigs has one number, or row, of a config that can't be, beside others that may; its part was set up, and a blank one.
func TestWrongConfigs(t *testing.T) {
	type change func(c *api.Config)
	wrongs := map[string]change{
		"no key":            func(c *api.Config) { c.Key = nil },
		"a key of 65 bytes": func(c *api.Config) { c.Key = full(65, 1) },
		"no First":          func(c *api.Config) { c.First = nil },
		"an empty First":    func(c *api.Config) { c.First = []byte{} },
		"a long First":      func(c *api.Config) { c.First = full(2*sec+1, 1) },
		"First above Quota": func(c *api.Config) { c.Quota, c.First = 1, full(sec+1, 1) },
	}
	for _, name := range []string{"", "A", "ab-", "a b", "abcdefghi", "αβγδεζηθι", "a\x00", "\xff", "ab\n", "ά"} {
		wrongs["name "+name] = func(c *api.Config) { c.Name = name }
	}
	for _, n := range edges() {
		told := fmt.Sprint(" of ", n)
		if n < 1 || n > 6 {
			wrongs["Slot"+told] = func(c *api.Config) { c.Slot = n }
		}
		if n < 0 || n > 1000 {
			wrongs["Budget"+told] = func(c *api.Config) { c.Budget = n }
		}
		if n < 1 || n > 2 {
			wrongs["Quota"+told] = func(c *api.Config) { c.Quota = n }
		}
		if n < 0 || n > 1023 {
			wrongs["Rights"+told] = func(c *api.Config) { c.Rights = n }
		}
	}
	for told, wrong := range wrongs {
		for _, x := range []bench{emptyBench(config(2, 9, 400), 9), setUp(t, config(2, 9, 400))} {
			wrong(&x.c)
			x.refused(t, told)
		}
	}
}

// TestEdgesOfConfigs has what a config may just be.
func TestEdgesOfConfigs(t *testing.T) {
	for i, change := range []func(c *api.Config){
		func(c *api.Config) { c.Name = "a" }, func(c *api.Config) { c.Name = "αβγδεζηθ" }, func(c *api.Config) { c.Key = []byte{0} }, func(c *api.Config) { c.Key = full(64, 0xff) },
		func(c *api.Config) { c.Budget = 0 }, func(c *api.Config) { c.Budget = 1000 }, func(c *api.Config) { c.Rights = 0 }, func(c *api.Config) { c.Quota = 1 }, func(c *api.Config) { c.First = full(2*sec, 0xff) }, func(c *api.Config) { c.First = []byte{0xff} },
	} {
		c := config(2, 9, 320)
		change(&c)
		x := emptyBench(c, 0)
		if e := Setup(x.f, x.p, c); e != api.OK {
			t.Errorf("P2001: Setup of config %d that may be: error %d", i, e)
		}
		if y, e := Open(x.f, x.p, c); e != api.OK || !bytes.Equal(y.Active(), c.First) {
			t.Errorf("P2001: Open of config %d that may be: error %d", i, e)
		}
	}
}

// TestParts has each edge as From beside each one as Len, on a flash of 12 sectors, of which 8 are needed.
func TestParts(t *testing.T) {
	c := config(2, 9, 400)
	for _, from := range edges() {
		for _, n := range edges() {
			x := bench{f: nor.New(12), p: api.Cap{From: from, Len: n}, c: c}
			if from >= 0 && from <= 4 && n >= 8 && n <= 12-from {
				setsUp(t, x)
				continue
			}
			x.refused(t, fmt.Sprintf("part of %d sectors from %d on", n, from))
		}
	}
}

// TestPartOfEachSlot has a part of just what each Slot needs, of one sector more and of one fewer.
func TestPartOfEachSlot(t *testing.T) {
	for slot := 1; slot <= most; slot++ {
		need := 4 + 2*slot
		for from := range 3 {
			for _, n := range []int{need - 1, need, need + 1} {
				for _, has := range []int{from + n - 1, from + n, from + n + 1} {
					x := bench{f: nor.New(has), p: api.Cap{From: from, Len: n}, c: config(slot, 0, 99)}
					if n >= need && has >= from+n {
						setsUp(t, x)
						continue
					}
					x.refused(t, fmt.Sprintf("slots of %d, part of %d sectors from %d on, of a flash of %d", slot, n, from, has))
				}
			}
		}
	}
}

func TestNoFlash(t *testing.T) {
	for _, f := range []*nor.Flash{nil, nor.New(0), new(nor.Flash)} {
		for _, p := range []api.Cap{{}, {Len: 8}, {Len: -1}, {From: -8, Len: 8}, {Rights: 1023, From: 3, Len: 9}} {
			bench{f: f, p: p, c: config(2, 9, 400)}.refused(t, "no flash")
		}
	}
}

// reckonSetup is a second reading of Setup of a part that can be, by the flash alone.
func (x bench) reckonSetup(c cutting) (state, api.Errno) {
	s := x.state()
	put := func(at int, b []byte) api.Errno {
		if !s.free(at, x.c.Budget) {
			return api.ErrWorn
		}
		if !s.fill(at, b, &c) {
			return api.ErrOff
		}
		return api.OK
	}
	size := len(x.c.First)
	for k := 0; k*sec < size; k++ {
		if e := put(x.p.From+4+k, x.c.First[k*sec:min(size, k*sec+sec)]); e != api.OK {
			return s, e
		}
	}
	r := s.ring(x.p.From)
	m := api.Meta{Have: [2]api.Image{sized(1, x.c.First), {}}}
	return s, put(x.p.From+r.next, cellRow(r.seq+1, metaRow(m)))
}

// setupIs has a part set up, with a cut to come or with none, and fails unless what is answered and left is as reckoned.
func (x bench) setupIs(t *testing.T, c cutting) api.Errno {
	t.Helper()
	want, e := x.reckonSetup(c)
	c.on(x.f)
	if got := Setup(x.f, x.p, x.c); got != e {
		t.Fatalf("P2001: Setup, Budget %d, cut %d: error %d, not %d", x.c.Budget, c.n, got, e)
	}
	if got := x.state(); !same(got, want) {
		t.Fatalf("P2001: Setup, Budget %d, cut %d, error %d: %s", x.c.Budget, c.n, e, differ(got, want))
	}
	return e
}

// openGives fails unless Open tells e.
func (x bench) openGives(t *testing.T, e api.Errno) {
	t.Helper()
	before := x.state()
	if y, got := Open(x.f, x.p, x.c); got != e || (y == nil) != (e != api.OK) {
		t.Fatalf("P2001: Open: error %d, not %d", got, e)
	}
	if got := x.state(); !same(got, before) {
		t.Fatalf("P2001: Open: %s", differ(got, before))
	}
}

// TestSetupOfUsedChunks has a sector of slot 0 that is not blank, and has an erase left or has none; what stands ahead of it is written.
func TestSetupOfUsedChunks(t *testing.T) {
	for used := range 8 {
		for _, c := range []struct {
			budget, wears int
			e             api.Errno
		}{{0, 0, api.ErrWorn}, {1, 0, api.OK}, {1, 1, api.ErrWorn}, {3, 2, api.OK}, {3, 3, api.ErrWorn}, {3, 7, api.ErrWorn}} {
			x := emptyBench(config(4, c.budget, 3*sec+1), 0)
			x.wear(t, 4+used, c.wears)
			x.lay(t, 4+used, []byte{0x7f})
			want := c.e
			if used > 3 {
				want = api.OK
			}
			ops := x.f.Ops()
			if e := x.setupIs(t, uncut); e != want {
				t.Fatalf("P2001: Setup, sector %d of slot 0 is not blank, Budget %d, wear %d: error %d", used, c.budget, c.wears, e)
			}
			if want == api.OK {
				x.openGives(t, api.OK)
				continue
			}
			if x.f.Ops() != ops+used {
				t.Fatalf("P2001: Setup, sector %d of slot 0 is worn out: %d operations", used, x.f.Ops()-ops)
			}
			x.openGives(t, api.ErrNone)
		}
	}
}

// TestSetupOfUsedRing has sectors of the ring that are not blank, no cells: all chunks are written ahead of what the ring tells.
func TestSetupOfUsedRing(t *testing.T) {
	for _, c := range []struct {
		budget, wears int
		laid          bool
		e             api.Errno
	}{{0, 0, false, api.OK}, {0, 0, true, api.ErrWorn}, {0, 2, false, api.OK}, {1, 0, true, api.OK}, {1, 1, true, api.ErrWorn}, {1, 1, false, api.OK}, {3, 2, true, api.OK}, {3, 3, true, api.ErrWorn}} {
		x := emptyBench(config(2, c.budget, 500), 0)
		x.wear(t, 0, c.wears)
		if c.laid {
			x.lay(t, 0, []byte("no cell"))
		}
		for s := 1; s < 4; s++ {
			x.lay(t, s, full(sec, byte(s)))
		}
		if e := x.setupIs(t, uncut); e != c.e {
			t.Fatalf("P2001: Setup, the ring's first sector is used: %v, Budget %d, wear %d: error %d", c.laid, c.budget, c.wears, e)
		}
		if c.e == api.OK {
			x.openGives(t, api.OK)
		} else {
			x.openGives(t, api.ErrNone)
		}
	}
}

// TestSetupAgain sets one part up again and again, till its ring or its slot is worn out; what is opened is the one that was set up last.
func TestSetupAgain(t *testing.T) {
	for budget := range 4 {
		x := emptyBench(config(1, budget, 100), 0)
		for i := range 3 + 4*budget {
			x.c.First = picture(i, 100)
			want := api.OK
			if i > budget {
				want = api.ErrWorn
			}
			if e := x.setupIs(t, uncut); e != want {
				t.Fatalf("P2001: Setup %d, Budget %d: error %d", i, budget, e)
			}
			if y := x.opened(t); want == api.OK && (y.Meta() != api.Meta{Have: [2]api.Image{sized(1, x.c.First), {}}} || !bytes.Equal(y.Active(), x.c.First)) {
				t.Fatalf("P2001: Setup %d, Budget %d: %v", i, budget, y.Meta())
			}
		}
	}
}

func masks() [][]byte {
	return [][]byte{nil, {0}, {0xff}, {0x55}, {0xaa, 0x0f}, {0, 0, 0xff}, {0xff, 0}, append(full(300, 0), 1), append(full(300, 0xff), 0xfe)}
}

// TestSetupCuts cuts each operation of a Setup: nothing is to be opened then, but where all of the last one's bits turned; and it is set up behind.
func TestSetupCuts(t *testing.T) {
	for _, size := range []int{1, 320, 321, 960} {
		for _, used := range []bool{false, true} {
			for n := range 9 {
				for _, mask := range masks() {
					x := emptyBench(config(3, 9, size), 0)
					for s := 0; used && s < x.p.Len; s++ {
						x.lay(t, s, full(sec, 0))
					}
					e := x.setupIs(t, cutting{n, mask})
					if e == api.OK {
						x.openGives(t, api.OK)
						continue
					}
					ops := (size+sec-1)/sec + 1
					if used {
						ops *= 2
					}
					all := len(mask) == 0 || bytes.Equal(mask, []byte{0})
					if e != api.ErrOff || n >= ops {
						t.Fatalf("P2001: Setup of %d bytes, cut %d: error %d", size, n, e)
					}
					if n == ops-1 && all {
						x.openGives(t, api.OK)
					} else {
						x.openGives(t, api.ErrNone)
					}
					x.f.Power()
					if e := x.setupIs(t, uncut); e != api.OK || x.opened(t).Meta() != (api.Meta{Have: [2]api.Image{sized(1, x.c.First), {}}}) {
						t.Fatalf("P2003: Setup behind one that was cut at %d: error %d", n, e)
					}
				}
			}
		}
	}
}

// TestSetupWithoutPower turns nothing; a worn sector is told ahead of power.
func TestSetupWithoutPower(t *testing.T) {
	x := emptyBench(config(2, 0, 500), 0)
	x.turnOff(t)
	if e := x.setupIs(t, uncut); e != api.ErrOff {
		t.Errorf("P2001: Setup without power: error %d", e)
	}
	x.openGives(t, api.ErrNone)
	x = emptyBench(config(2, 0, 500), 0)
	x.lay(t, 4, []byte{1})
	x.turnOff(t)
	if e := x.setupIs(t, uncut); e != api.ErrWorn {
		t.Errorf("P2001: Setup of a worn part without power: error %d", e)
	}
	x = setUp(t, config(2, 0, 500))
	x.turnOff(t)
	x.openGives(t, api.OK)
	x.c.Name = ""
	x.refused(t, "without power")
}

// metas are some of each phase.
func metas() []api.Meta {
	own, next := imageOf(3, 400), imageOf(5, 600)
	idle := api.Meta{Have: [2]api.Image{own, {}}, Min: 3}
	both, got, sure, try := idle, idle, idle, idle
	both.Have[1] = imageOf(2, 9)
	got.Phase, got.Coming, got.Got = api.Receiving, next, 1
	sure.Phase, sure.Coming, sure.Got = api.Verified, next, 2
	try.Phase, try.Have[1], try.Trials = api.Trial, next, 1
	turned := both
	turned.Active = 1
	turned.Have[1] = imageOf(top, 320)
	turned.Min = top
	return []api.Meta{idle, both, got, sure, try, turned}
}

// TestOpenOfEachMeta lays cells of Metas into each of the ring's sectors, with older ones beside them.
func TestOpenOfEachMeta(t *testing.T) {
	for i, m := range metas() {
		for at := range 4 {
			for _, seq := range []int{2, 900, math.MaxInt32} {
				x := emptyBench(config(2, 9, 1), 0)
				x.lay(t, at, cellRow(seq, metaRow(m)))
				x.lay(t, (at+1)%4, cellRow(seq-1, metaRow(metas()[(i+1)%6])))
				x.lay(t, (at+2)%4, []byte("no cell"))
				x.lay(t, x.chunk(m.Active, 0), picture(m.Have[m.Active].Version, m.Have[m.Active].Size)[:320])
				y, z := x.opened(t), x.opened(t)
				if y.Meta() != m || z.Meta() != m {
					t.Fatalf("P2001: Open of Meta %d in sector %d: %v", i, at, y.Meta())
				}
				before := x.state()
				if r, ok := y.Do(plain(9)); r != (api.Resp{N: m.Phase, Got: m.Got}) || !ok || !same(x.state(), before) {
					t.Fatalf("P2002: QStatus of Meta %d: %v", i, r)
				}
			}
		}
	}
}

// TestOpenOfNone has rings without a Meta, though some have one that is not the last.
func TestOpenOfNone(t *testing.T) {
	m := metaRow(metas()[0])
	wrong := bytes.Clone(m)
	wrong[0] = 2
	for told, loads := range map[string][][]byte{
		"a blank ring":                {},
		"no cell":                     {[]byte("what is this")},
		"a cell of nothing":           {cellRow(1, nil)},
		"a cell of bytes":             {cellRow(1, full(156, 7))},
		"a cell cut short":            {cellRow(1, m)[:318]},
		"a Meta cut short":            {cellRow(1, m[:5])},
		"a Meta that is not Right":    {cellRow(1, wrong)},
		"a byte behind the Meta":      {cellRow(1, append(append(bytes.Clone(m), make([]byte, 27)...), 1))},
		"seq 0":                       {cellRow(0, m)},
		"a seq that is too great":     {cellRow(1<<31, m)},
		"a Meta ahead of nothing":     {cellRow(1, m), cellRow(2, nil)},
		"a Meta ahead of no Meta":     {cellRow(7, m), cellRow(8, m), cellRow(9, wrong)},
		"a Meta behind, of lower seq": {cellRow(9, wrong), cellRow(5, m)},
	} {
		x := emptyBench(config(2, 9, 1), 1)
		for s, b := range loads {
			x.lay(t, s, b)
		}
		x.lay(t, 4, cellRow(1, m))
		x.openGives(t, api.ErrNone)
		x.turnOff(t)
		x.openGives(t, api.ErrNone)
		if t.Failed() {
			t.Fatal(told)
		}
	}
}

// noTenant fails unless all calls answer as those of a nil one.
func noTenant(t *testing.T, x *Tenant) {
	t.Helper()
	for _, kind := range edges() {
		for _, n := range []int{math.MinInt, -1, 0, 1, math.MaxInt} {
			for _, b := range [][]byte{nil, {}, {1}, manifestRow([]byte("a key"), "aβ1", imageOf(2, 9))} {
				if r, ok := x.Do(api.Req{Kind: kind, N: n, Bytes: b}); r != (api.Resp{Err: api.ErrNone}) || !ok {
					t.Fatalf("P2003: Do of kind %d of none: %v, %v", kind, r, ok)
				}
			}
		}
	}
	if x.Meta() != (api.Meta{}) || len(x.Active()) != 0 {
		t.Errorf("P2003: Meta and Active of none: %v, %d bytes", x.Meta(), len(x.Active()))
	}
}

func TestNilTenant(t *testing.T) { noTenant(t, nil) }

// TestNeverOpened has a tenant that is there, but that Open did not make.
func TestNeverOpened(t *testing.T) { noTenant(t, new(Tenant)) }

// withRights opens the tenant again, with rights of its part that are others than its config's.
func (x bench) withRights(t *testing.T, part, own int) bench {
	t.Helper()
	x.p.Rights, x.c.Rights = part, own
	x.x = x.opened(t)
	return x
}

// some is a request of a kind, of which nothing is right.
func some(kind int) api.Req { return api.Req{Kind: kind, N: 77, Bytes: []byte("what is this")} }

// TestRights has, in each phase, each kind with the bit of its own alone, with all but that one, and with none: what the part's rights say holds, not the config's.
func TestRights(t *testing.T) {
	for step := range steps {
		for kind := 1; kind <= 9; kind++ {
			x := setUp(t, config(2, 9, 400))
			x.to(t, step)
			for _, q := range []api.Req{some(kind), plain(kind)} {
				for _, rights := range []int{0, 1, 1023 &^ (1 << kind), 1024, ^(1 << kind), math.MinInt, 1 << kind << 32} {
					for _, own := range []int{0, 1023} {
						x.withRights(t, rights, own).doFails(t, q, api.ErrRight)
					}
				}
			}
			if r, _ := x.withRights(t, 1<<kind, 0).doIs(t, some(kind), uncut); r.Err == api.ErrRight {
				t.Fatalf("P2002: Do of kind %d with its bit: ErrRight", kind)
			}
		}
	}
	for _, rights := range []int{-1, math.MaxInt, 1023, 1022, 1 << 9} {
		x := setUp(t, config(2, 9, 400)).withRights(t, rights, 0)
		x.doGives(t, plain(9), api.Resp{})
	}
}

// TestKinds has numbers that are no kinds, with all bits of the rights.
func TestKinds(t *testing.T) {
	for step := range steps {
		x := setUp(t, config(2, 9, 400))
		x.to(t, step)
		for _, kind := range edges() {
			if kind < 1 || kind > 9 {
				for _, rights := range []int{1023, -1, math.MaxInt} {
					x.withRights(t, rights, 1023).doFails(t, some(kind), api.ErrRight)
				}
			}
		}
	}
}

// wearOut makes the ring one to which nothing can be put any more.
func (x bench) wearOut(t *testing.T) {
	t.Helper()
	r := x.state().ring(x.p.From)
	// The others of its sectors stay as they are: one of them has the last cell.
	x.wear(t, r.next, x.c.Budget)
	x.lay(t, r.next, []byte("no cell"))
	if x.mayKeep(x.state()) {
		t.Fatal("the ring is not worn out")
	}
}

// refusal is a request that must not be done.
type refusal struct {
	q api.Req
	e api.Errno
}

// eachFails fails unless each of l tells its error, and the same one, or ErrWorn if there would be none, when the ring is worn out.
func eachFails(t *testing.T, step int, l []refusal) {
	t.Helper()
	c := config(2, 9, 300)
	if step == atIdle {
		c.Quota = 1
	}
	x := setUp(t, c)
	x.to(t, step)
	for _, r := range l {
		if r.e != api.OK && r.e != api.ErrWorn {
			x.doFails(t, r.q, r.e)
		}
	}
	x.wearOut(t)
	for _, r := range l {
		if r.e == api.OK {
			r.e = api.ErrWorn
		}
		x.doFails(t, r.q, r.e)
	}
}

// TestWhichErrorIsTold has, for each kind, each error with those behind it at once.
func TestWhichErrorIsTold(t *testing.T) {
	key, other, name := []byte("a key"), []byte("another"), "aβ1"
	begins := func(b []byte, e api.Errno) refusal { return refusal{api.Req{Kind: 1, N: 5, Bytes: b}, e} }
	good := manifestRow(key, name, imageOf(2, 320))
	idle := []refusal{
		begins(nil, api.ErrBytes), begins([]byte{}, api.ErrBytes), begins(good[:91], api.ErrBytes), begins(append(bytes.Clone(good), 0), api.ErrBytes), begins(append([]byte("wLM1"), good[4:]...), api.ErrBytes),
		begins(manifestRow(other, "", imageOf(top+1, 999)), api.ErrBytes), begins(manifestRow(key, "A", imageOf(2, 320)), api.ErrBytes), begins(manifestRow(key, name, imageOf(0, 320)), api.ErrBytes), begins(manifestRow(key, name, imageOf(top+1, 320)), api.ErrBytes), begins(manifestRow(key, name, api.Image{Version: 2}), api.ErrBytes),
		begins(manifestRow(other, "b", imageOf(2, 999)), api.ErrName), begins(manifestRow(key, "b", imageOf(2, 320)), api.ErrName), begins(manifestRow(key, "aβ", imageOf(2, 320)), api.ErrName), begins(manifestRow(key, "aβ12", imageOf(2, 320)), api.ErrName), begins(manifestRow(key, "β1", imageOf(2, 320)), api.ErrName),
		begins(manifestRow(other, name, imageOf(2, 999)), api.ErrTag), begins(manifestRow(key[:4], name, imageOf(2, 320)), api.ErrTag), begins(append(bytes.Clone(good[:91]), good[91]^1), api.ErrTag), begins(append(good[:59:59], append([]byte{good[59] ^ 1}, good[60:]...)...), api.ErrTag),
		begins(manifestRow(key, name, imageOf(2, 321)), api.ErrLong), begins(manifestRow(key, name, imageOf(2, 641)), api.ErrLong), begins(manifestRow(key, name, api.Image{Version: 2, Size: top}), api.ErrLong),
		begins(good, api.OK),
		{some(2), api.ErrState}, {write(2, 320, 0), api.ErrState}, {some(3), api.ErrState}, {some(4), api.ErrState}, {some(6), api.ErrState}, {some(7), api.ErrState}, {some(8), api.ErrState},
	}
	eachFails(t, atIdle, idle)
	receiving := func(got int) []refusal {
		l := []refusal{begins(nil, api.ErrState), begins(good, api.ErrState), begins(manifestRow(other, "b", imageOf(2, 999)), api.ErrState), {some(4), api.ErrState}, {some(6), api.ErrState}, {some(7), api.ErrState}, {some(8), api.OK}}
		for _, n := range edges() {
			if n != got || got == 2 {
				l = append(l, refusal{api.Req{Kind: 2, N: n, Bytes: picture(2, 400)[:80]}, api.ErrOrder}, refusal{api.Req{Kind: 2, N: n, Bytes: full(sec, 1)}, api.ErrOrder}, refusal{api.Req{Kind: 2, N: n}, api.ErrOrder})
			}
		}
		if got < 2 {
			l = append(l, refusal{some(3), api.ErrOrder})
			size := len(write(2, 400, got).Bytes)
			for _, n := range []int{0, 1, 79, 80, 81, 319, 320, 321, 400, 1000} {
				if n != size {
					l = append(l, refusal{api.Req{Kind: 2, N: got, Bytes: full(n, 1)}, api.ErrBytes})
				}
			}
			l = append(l, refusal{write(2, 400, got), api.ErrWorn})
		}
		return l
	}
	for got := range 2 {
		eachFails(t, atNone+got, receiving(got))
	}
	eachFails(t, atBoth, append(receiving(2), refusal{some(3), api.ErrWorn}))
	eachFails(t, atSure, []refusal{begins(nil, api.ErrState), begins(good, api.ErrState), {some(2), api.ErrState}, {write(2, 400, 1), api.ErrState}, {some(3), api.ErrState}, {some(6), api.ErrState}, {some(7), api.ErrState}, {some(4), api.ErrWorn}, {some(8), api.ErrWorn}})
	eachFails(t, atTry, []refusal{begins(nil, api.ErrState), begins(good, api.ErrState), {some(2), api.ErrState}, {some(3), api.ErrState}, {some(4), api.ErrState}, {some(6), api.ErrState}, {some(8), api.ErrState}, {some(7), api.ErrWorn}})
	eachFails(t, atBoot, []refusal{begins(nil, api.ErrState), begins(good, api.ErrState), {some(2), api.ErrState}, {some(3), api.ErrState}, {some(4), api.ErrState}, {some(8), api.ErrState}, {some(6), api.ErrWorn}, {some(7), api.ErrWorn}})
}

// TestBeginErrors has, of a tenant whose least version is 7, manifests with several things wrong, and those that may just come.
func TestBeginErrors(t *testing.T) {
	for slot := 1; slot <= most; slot++ {
		for quota := 1; quota <= slot; quota++ {
			for _, c := range []struct {
				version, size int
				e             api.Errno
			}{
				{6, 1, api.ErrOld}, {1, 1, api.ErrOld}, {6, quota*sec + 1, api.ErrOld}, {7, quota*sec + 1, api.ErrLong}, {8, top, api.ErrLong}, {top, quota*sec + 1, api.ErrLong}, {top + 1, 1, api.ErrBytes},
				{7, quota * sec, api.OK}, {8, quota*sec - 1, api.OK}, {7, 1, api.OK}, {top, quota * sec, api.OK},
			} {
				x := setUp(t, config(slot, 9, 1))
				x.asks(t, append(x.toCommit(7, 9), plain(5), plain(6))...)
				x.c.Quota = quota
				x.c.First = x.c.First[:1]
				x.x = x.opened(t)
				image := api.Image{Version: c.version, Size: c.size, Digest: [32]byte{9}}
				x.doFails(t, api.Req{Kind: 1, Bytes: manifestRow([]byte("another"), x.c.Name, image)}, map[bool]api.Errno{true: api.ErrBytes, false: api.ErrTag}[c.version > top])
				x.doFails(t, api.Req{Kind: 1, Bytes: manifestRow(x.c.Key, x.c.Name, image)}, c.e)
				if c.e != api.OK {
					continue
				}
				m := x.x.Meta()
				if m.Phase != api.Receiving || m.Coming != image || m.Got != 0 || m.Have[0] != (api.Image{}) || m.Min != 7 {
					t.Fatalf("P2002: QBegin of version %d, %d bytes: %v", c.version, c.size, m)
				}
			}
		}
	}
}

// TestKeys has tenants of several keys and names, asked by manifests of each.
func TestKeys(t *testing.T) {
	keys := [][]byte{{0}, {1}, []byte("a"), []byte("ab"), full(63, 7), full(64, 7)}
	names := []string{"a", "ab", "αβγδεζηθ", "abcdefgh", "1"}
	for _, key := range keys {
		for _, name := range names {
			c := config(1, 9, 1)
			c.Key, c.Name = key, name
			x := setUp(t, c)
			for _, k := range keys {
				for _, n := range names {
					if n != name {
						x.doFails(t, api.Req{Kind: 1, Bytes: manifestRow(k, n, imageOf(2, 9))}, api.ErrName)
					} else if !bytes.Equal(k, key) {
						x.doFails(t, api.Req{Kind: 1, Bytes: manifestRow(k, n, imageOf(2, 9))}, api.ErrTag)
					}
				}
			}
			x.asks(t, x.begin(2, 9))
		}
	}
}

// TestVerifyOfEachByte turns one bit of each byte of the coming image, and of what lies behind it in its slot.
func TestVerifyOfEachByte(t *testing.T) {
	for at := range 2 * sec {
		x := setUp(t, config(2, 9, 5))
		b := picture(2, 400)
		b[at%400] |= 1
		i := sized(2, b)
		x.asks(t, api.Req{Kind: 1, Bytes: manifestRow(x.c.Key, x.c.Name, i)}, api.Req{Kind: 2, Bytes: b[:320]}, api.Req{Kind: 2, N: 1, Bytes: b[320:]})
		was := x.f.Read((fromSec+6)*sec+at, 1)[0]
		if e := x.f.Program((fromSec+6)*sec+at, []byte{was &^ 1}); e != api.OK {
			t.Fatalf("Program: %d", e)
		}
		if at < 400 {
			x.doFails(t, plain(3), api.ErrDigest)
			x.asks(t, plain(8))
			continue
		}
		x.asks(t, plain(3), plain(4))
	}
}

// TestWrongImage has a whole image that is not the one that was said.
func TestWrongImage(t *testing.T) {
	x := setUp(t, config(2, 9, 5))
	x.asks(t, x.begin(2, 321), write(3, 321, 0), write(3, 321, 1))
	x.doFails(t, plain(3), api.ErrDigest)
	x.doFails(t, plain(4), api.ErrState)
	x.doFails(t, write(2, 321, 0), api.ErrOrder)
	x.asks(t, plain(8), x.begin(2, 321), write(2, 321, 0), write(2, 321, 1), plain(3))
}

// opsOf has q done, and tells how many operations that took.
func (x bench) opsOf(t *testing.T, q api.Req) int {
	t.Helper()
	ops := x.f.Ops()
	x.asks(t, q)
	return x.f.Ops() - ops
}

// TestOperations counts what a first update takes of the flash, request by request, by numbers: the slot's sectors are blank, and the ring comes round.
func TestOperations(t *testing.T) {
	x := setUp(t, config(3, 9, 5))
	l := append(x.toCommit(2, 700), plain(9), plain(5), plain(9), plain(6), plain(5), plain(9))
	want := []int{1, 2, 2, 3, 2, 2, 0, 2, 0, 2, 0, 0}
	for i, q := range l {
		if got := x.opsOf(t, q); got != want[i] {
			t.Errorf("P2002: Do %d, kind %d: %d operations, not %d", i, q.Kind, got, want[i])
		}
	}
	for i, want := range []int{2, 1, 1, 1, 0, 0, 0, 0, 0, 0} {
		if got := x.f.Wear(fromSec + i); got != want {
			t.Errorf("P2002: sector %d was erased %d times, not %d", i, got, want)
		}
	}
	if m := x.x.Meta(); m != (api.Meta{Active: 1, Have: [2]api.Image{imageOf(1, 5), imageOf(2, 700)}, Min: 2}) {
		t.Errorf("P2002: what is kept behind an update: %v", m)
	}
	if !bytes.Equal(x.x.Active(), picture(2, 700)) {
		t.Error("P2002: the active image behind an update")
	}
	x.asks(t, x.begin(2, 5))
	if x.opsOf(t, write(2, 5, 0)) != 4 || x.f.Wear(fromSec+4) != 1 {
		t.Error("P2002: a chunk's sector that is not blank, and the ring's, are erased once each")
	}
}

// TestWholeUpdates brings images of each length twice over, so that each slot is the active one once, and tells what each request answers and keeps.
func TestWholeUpdates(t *testing.T) {
	for slot := 1; slot <= most; slot++ {
		for _, size := range []int{1, 319, 320, 321, slot*sec - 1, slot * sec} {
			if size > slot*sec {
				continue
			}
			c := config(slot, 99, 1+size/2)
			x := setUp(t, c)
			have := [2]api.Image{sized(1, c.First), {}}
			lowest := 0
			for round := range 4 {
				active, version := round%2, 2+round/2
				was := x.x.Active()
				m := api.Meta{Active: active, Have: have, Min: lowest}
				x.keeps(t, plain(9), api.Resp{}, m)
				x.keeps(t, plain(5), api.Resp{N: active}, m)
				m.Phase, m.Coming, m.Have[1-active] = api.Receiving, imageOf(version, size), api.Image{}
				x.keeps(t, x.begin(version, size), api.Resp{}, m)
				for k := 0; k*sec < size; k++ {
					m.Got++
					x.keeps(t, write(version, size, k), api.Resp{}, m)
				}
				x.keeps(t, plain(9), api.Resp{N: 1, Got: (size + sec - 1) / sec}, m)
				m.Phase = api.Verified
				x.keeps(t, plain(3), api.Resp{}, m)
				x.keeps(t, plain(9), api.Resp{N: 2, Got: (size + sec - 1) / sec}, m)
				x.keeps(t, plain(5), api.Resp{N: active}, m)
				m.Phase, m.Have[1-active], m.Coming, m.Got, m.Trials = api.Trial, imageOf(version, size), api.Image{}, 0, 2
				x.keeps(t, plain(4), api.Resp{}, m)
				x.keeps(t, plain(9), api.Resp{N: 3}, m)
				for m.Trials > round%2 {
					m.Trials--
					x.keeps(t, plain(5), api.Resp{N: 1 - active}, m)
				}
				if !bytes.Equal(x.x.Active(), was) {
					t.Fatalf("P2003: the active image, ahead of a QConfirm")
				}
				m.Active, m.Phase, m.Trials, m.Min = 1-active, api.Idle, 0, version
				x.keeps(t, plain(6), api.Resp{}, m)
				if !bytes.Equal(x.x.Active(), picture(version, size)) {
					t.Fatalf("P2002: the active image, behind a QConfirm")
				}
				have, lowest = m.Have, version
			}
		}
	}
}

// keeps fails unless q is answered so, and m kept.
func (x bench) keeps(t *testing.T, q api.Req, want api.Resp, m api.Meta) {
	t.Helper()
	x.doGives(t, q, want)
	if got := x.x.Meta(); got != m || x.opened(t).Meta() != m {
		t.Fatalf("P2002: Do of kind %d keeps %v, not %v", q.Kind, got, m)
	}
}

// TestGivenUp has updates that come to nothing: given up in each phase, rolled back, confirmed by nobody. The image that runs runs on, and the least version stays.
func TestGivenUp(t *testing.T) {
	for _, end := range [][]int{{1, 8}, {2, 8}, {3, 8}, {4, 8}, {5, 7}, {5, 5, 7}, {5, 5, 5, 7}, {5, 5, 5, 5}} {
		x := setUp(t, config(2, 99, 333))
		first := api.Meta{Have: [2]api.Image{imageOf(1, 333), {}}}
		for range 3 {
			x.asks(t, x.toCommit(2, 400)[:end[0]]...)
			for _, kind := range end[1:] {
				x.asks(t, plain(kind))
			}
			if got := x.x.Meta(); got != first || !bytes.Equal(x.x.Active(), picture(1, 333)) {
				t.Fatalf("P2002: an update given up by %v: %v", end, got)
			}
			x.doGives(t, plain(5), api.Resp{})
		}
		x.asks(t, append(x.toCommit(2, 400), plain(5), plain(6))...)
		if !bytes.Equal(x.x.Active(), picture(2, 400)) {
			t.Fatalf("P2002: an update behind others that were given up by %v", end)
		}
	}
}

// TestBootWornOut has a trial that can't be counted: the active slot runs, and nothing turns.
func TestBootWornOut(t *testing.T) {
	for _, step := range []int{atTry, atBoot} {
		x := setUp(t, config(2, 9, 400))
		x.to(t, step)
		x.wearOut(t)
		was := x.x.Meta()
		for range 3 {
			x.keeps(t, plain(5), api.Resp{}, was)
			x.keeps(t, plain(9), api.Resp{N: 3}, was)
		}
	}
}

// TestChunkWornOut has a chunk's sector that can't be written: what is not in its turn tells that first, and all other requests go on.
func TestChunkWornOut(t *testing.T) {
	for k := range 3 {
		for budget := range 3 {
			x := setUp(t, config(3, 500, 700))
			x.asks(t, x.begin(2, 960))
			for i := range k {
				x.asks(t, write(2, 960, i))
			}
			x.wear(t, x.chunk(1, k), 500-budget)
			x.lay(t, x.chunk(1, k), []byte{0})
			if budget > 0 {
				x.asks(t, write(2, 960, k))
				continue
			}
			for n := range 6 {
				if n != k {
					x.doFails(t, api.Req{Kind: 2, N: n, Bytes: full(sec, 1)}, api.ErrOrder)
				}
			}
			x.doFails(t, api.Req{Kind: 2, N: k, Bytes: full(sec-1, 1)}, api.ErrBytes)
			x.doFails(t, write(2, 960, k), api.ErrWorn)
			x.doFails(t, plain(3), api.ErrOrder)
			x.asks(t, plain(9), plain(5), plain(8))
			x.doFails(t, write(2, 960, k), api.ErrState)
			x.asks(t, x.begin(2, 320*k+1))
		}
	}
}

// TestWornButBlank has sectors that no erase is left for, but that are blank: they can be written once.
func TestWornButBlank(t *testing.T) {
	x := emptyBench(config(1, 0, 5), 0)
	for s := range x.p.Len {
		x.wear(t, s, 3)
	}
	setsUp(t, x)
	x.x = x.opened(t)
	x.asks(t, x.begin(2, 320), write(2, 320, 0), plain(3))
	x.doFails(t, plain(4), api.ErrWorn)
	x.doFails(t, plain(8), api.ErrWorn)
	x.doGives(t, plain(9), api.Resp{N: 2, Got: 1})
	x.doGives(t, plain(5), api.Resp{})
}

// TestLastSeq has a ring that has come to the last seq.
func TestLastSeq(t *testing.T) {
	x := emptyBench(config(1, 9, 5), 0)
	x.lay(t, 4, x.c.First)
	x.lay(t, 2, cellRow(math.MaxInt32-1, metaRow(api.Meta{Have: [2]api.Image{sized(1, x.c.First), {}}})))
	x.x = x.opened(t)
	x.asks(t, x.begin(2, 320))
	x.doFails(t, write(2, 320, 0), api.ErrWorn)
	x.doFails(t, plain(8), api.ErrWorn)
	x.doGives(t, plain(9), api.Resp{N: 1})
}

// TestForeignMeta has Metas that others put into the ring, of images that are longer than the slots: what is not there is not read, and not written.
func TestForeignMeta(t *testing.T) {
	x := emptyBench(config(1, 9, 5), 0)
	m := api.Meta{Have: [2]api.Image{imageOf(1, 321), {}}, Phase: api.Receiving, Coming: imageOf(2, 1920), Got: 1}
	x.lay(t, 0, cellRow(1, metaRow(m)))
	before := x.state()
	y := x.opened(t)
	if y.Meta() != m || len(y.Active()) != 0 {
		t.Errorf("P2002: Active of an image that is longer than its slot: %d bytes", len(y.Active()))
	}
	if r, ok := y.Do(write(2, 1920, 1)); r.Err != api.ErrWorn || !ok {
		t.Errorf("P2002: QWrite of a chunk that the slot has not: %v, %v", r, ok)
	}
	if r, ok := y.Do(write(2, 1920, 2)); r.Err != api.ErrOrder || !ok {
		t.Errorf("P2002: QWrite out of its turn: %v, %v", r, ok)
	}
	if y.Meta() != m || !same(x.state(), before) {
		t.Errorf("P2002: a QWrite that failed: %s", differ(x.state(), before))
	}
	for i, digest := range [][32]byte{sha256.Sum256(nil), imageOf(2, 1920).Digest, {}} {
		z := emptyBench(config(1, 9, 5), 0)
		m.Got, m.Coming.Digest = 6, digest
		z.lay(t, 0, cellRow(1, metaRow(m)))
		want := api.Resp{Err: api.ErrDigest}
		if i == 0 {
			want = api.Resp{}
		}
		if r, ok := z.opened(t).Do(plain(3)); r != want || !ok {
			t.Errorf("P2002: QVerify %d of an image that is longer than its slot, which has the digest of no bytes: %v", i, r)
		}
	}
}

// TestTillWornOut asks again and again till all is worn out, with few erases: no sector is erased more often than Budget says, and what runs runs on.
func TestTillWornOut(t *testing.T) {
	for _, budget := range []int{0, 1, 3, 20} {
		for seed := range 12 {
			c := chance(seed*100 + budget)
			x := setUp(t, config(1+c.below(3), budget, 1+c.below(300)))
			worn := 0
			for version := 2; worn < 30; version++ {
				l := append(x.toCommit(version, 1+c.below(x.c.Slot*sec)), plain(5), plain(c.one([]int{6, 6, 7, 5, 8})), plain(8), plain(9))
				for _, q := range l {
					if r, ok := x.doIs(t, q, uncut); !ok {
						t.Fatal("P2002: power went without a cut")
					} else if r.Err == api.ErrWorn {
						worn++
					}
				}
			}
			runs := x.x.Active()
			for s := range x.p.Len {
				if x.f.Wear(x.p.From+s) > budget {
					t.Fatalf("P2002: sector %d was erased %d times, Budget %d", s, x.f.Wear(x.p.From+s), budget)
				}
			}
			active := x.x.Meta().Active
			for kind := 1; kind <= 9; kind++ {
				x.doIs(t, plain(kind), uncut)
			}
			x.doGives(t, plain(5), api.Resp{N: active})
			if !bytes.Equal(x.x.Active(), runs) {
				t.Fatal("P2003: what runs is another one when all is worn out")
			}
		}
	}
}

// TestWornOutRing has what still may be when the ring can take nothing more, by numbers.
func TestWornOutRing(t *testing.T) {
	x := setUp(t, config(1, 1, 5))
	// Cells 2 to 8 go into seven sectors, of which four were used once.
	x.asks(t, x.begin(2, 5), write(2, 5, 0), plain(3), plain(4), plain(5), plain(5), plain(6))
	was := x.x.Meta()
	x.doFails(t, x.begin(3, 5), api.ErrWorn)
	x.doFails(t, some(1), api.ErrBytes)
	x.doGives(t, plain(9), api.Resp{})
	x.doGives(t, plain(5), api.Resp{N: 1})
	if x.x.Meta() != was || !bytes.Equal(x.x.Active(), picture(2, 5)) {
		t.Errorf("P2002: what is kept: %v", x.x.Meta())
	}
}

// goesOn has l done from a tenant on that was opened behind a cut, of which the first one may have been done.
func (x bench) goesOn(t *testing.T, m, next api.Meta, l []api.Req) {
	t.Helper()
	if x.x.Meta() == next {
		l = l[1:]
	} else if x.x.Meta() != m {
		t.Fatalf("P2003: Open tells %v, not %v or %v", x.x.Meta(), m, next)
	}
	x.asks(t, l...)
}

// TestCuts cuts each request of an update at each of its operations: its own Meta stays as it was, what is opened is the one ahead or behind, and the same request asked again goes on.
func TestCuts(t *testing.T) {
	for _, rounds := range []int{0, 1} {
		for _, last := range []int{6, 7, 5} {
			for at := range 7 {
				for n := range 4 {
					for _, mask := range masks() {
						cutOne(t, rounds, last, at, cutting{n, mask})
					}
				}
			}
		}
	}
}

// cutOne has an update that ends with last, behind some others, of which one request is cut.
func cutOne(t *testing.T, rounds, last, at int, c cutting) {
	t.Helper()
	x := setUp(t, config(2, 99, 200))
	for i := range rounds {
		x.asks(t, append(x.toCommit(2+i, 640), plain(5), plain(6))...)
	}
	l := append(x.toCommit(9, 400), plain(5), plain(last))
	x.asks(t, l[:at]...)
	was := x.x.Meta()
	_, next := x.reckon(was, l[at], uncut)
	before := x.f.Ops()
	r, ok := x.doIs(t, l[at], c)
	if ok {
		// Its operations were fewer: the cut is to come at a later one.
		if x.f.Ops()-before > c.n || r.Err != api.OK {
			t.Fatalf("P2002: Do of kind %d, cut %d: %v", l[at].Kind, c.n, r)
		}
		return
	}
	if r != (api.Resp{}) || x.x.Meta() != was || x.f.Ops()-before != c.n+1 {
		t.Fatalf("P2002: Do of kind %d, cut %d: %v, Meta %v", l[at].Kind, c.n, r, x.x.Meta())
	}
	x.f.Power()
	if x.x.Meta() != was {
		t.Fatalf("P2002: Meta behind a cut is %v, not %v, till it is opened again", x.x.Meta(), was)
	}
	y := x
	y.x = x.opened(t)
	if bytes.Equal(c.mask, []byte{0xff}) && y.x.Meta() != was {
		t.Fatalf("P2003: Do of kind %d, cut %d, of which nothing turned: Open tells %v, not %v", l[at].Kind, c.n, y.x.Meta(), was)
	}
	y.goesOn(t, was, next, l[at:])
	y.keepsAfter(t, last)
}

// keepsAfter fails unless the update of version 9 came to its end.
func (x bench) keepsAfter(t *testing.T, last int) {
	t.Helper()
	m := x.x.Meta()
	switch {
	case last == 6 && (m.Phase != api.Idle || m.Min != 9 || !bytes.Equal(x.x.Active(), picture(9, 400))):
		t.Fatalf("P2003: an update that was cut and confirmed: %v", m)
	case last == 7 && (m.Phase != api.Idle || m.Min == 9 || m.Have[1-m.Active] != (api.Image{})):
		t.Fatalf("P2003: an update that was cut and rolled back: %v", m)
	case last == 5 && (m.Phase != api.Trial || m.Trials != 0):
		t.Fatalf("P2003: an update that was cut and booted twice: %v", m)
	}
}

// TestCutOfAbort cuts what gives an update up, in each phase where it may.
func TestCutOfAbort(t *testing.T) {
	for _, step := range []int{atNone, atOne, atBoth, atSure} {
		for n := range 2 {
			for _, mask := range masks() {
				x := setUp(t, config(2, 99, 200))
				x.to(t, step)
				x.doIs(t, plain(8), cutting{n, mask})
				x.f.Power()
				x.x = x.opened(t)
				if x.x.Meta().Phase != api.Idle {
					x.asks(t, plain(8))
				}
				x.asks(t, append(x.toCommit(2, 640), plain(5), plain(6))...)
			}
		}
	}
}

// TestCutOfLastBoot cuts the QBoot that ends a trial that nobody confirmed.
func TestCutOfLastBoot(t *testing.T) {
	for n := range 2 {
		for _, mask := range masks() {
			x := setUp(t, config(2, 99, 200))
			x.to(t, atBoot)
			x.asks(t, plain(5))
			x.doIs(t, plain(5), cutting{n, mask})
			x.f.Power()
			x.x = x.opened(t)
			x.doGives(t, plain(5), api.Resp{})
			if m := x.x.Meta(); m != (api.Meta{Have: [2]api.Image{imageOf(1, 200), {}}}) {
				t.Fatalf("P2003: a trial that nobody confirmed, cut: %v", m)
			}
		}
	}
}

// TestCutAtEachBit has, of the chunk and of the cell of a QWrite, just one bit that stays, or just one that turns; all sectors were used.
func TestCutAtEachBit(t *testing.T) {
	x := atWrite(t)
	for bit := 0; bit < 8*sec; bit += 7 {
		for n := range 4 {
			for _, rest := range []byte{0, 0xff} {
				mask := full(sec, rest)
				mask[bit/8] ^= 1 << (bit % 8)
				q := write(3, 200, 0)
				if _, ok := x.doIs(t, q, cutting{n, mask}); ok {
					t.Fatalf("P2002: QWrite, cut %d: power is there", n)
				}
				x.f.Power()
				x.x = x.opened(t)
				if x.x.Meta().Got == 0 {
					x.asks(t, q)
				}
				x.asks(t, plain(8), x.begin(3, 200))
				// Its Budget would not do for all of them.
				if x.f.Wear(x.p.From+4) > 900 {
					x = atWrite(t)
				}
			}
		}
	}
}

// atWrite is a tenant behind an update, in whose first slot, which is used, a chunk is to be written.
func atWrite(t *testing.T) bench {
	t.Helper()
	x := setUp(t, config(1, 1000, 200))
	x.asks(t, append(x.toCommit(2, 320), plain(5), plain(6), x.begin(3, 200))...)
	return x
}

// TestCutBehindTheLast has a cut that is to come behind all of a request's operations: that one is answered, and the next one is cut.
func TestCutBehindTheLast(t *testing.T) {
	for at := range 6 {
		probe := setUp(t, config(2, 99, 200))
		l := append(probe.toCommit(9, 400), plain(5), plain(6))
		probe.asks(t, l[:at]...)
		ops := probe.opsOf(t, l[at])
		x := setUp(t, config(2, 99, 200))
		x.asks(t, l[:at]...)
		if r, ok := x.doIs(t, l[at], cutting{ops, []byte{0x0f}}); r.Err != api.OK || !ok || x.f.Off() {
			t.Fatalf("P2002: Do of kind %d, cut behind it: %v, %v", l[at].Kind, r, ok)
		}
		was := x.x.Meta()
		x.doGives(t, plain(9), api.Resp{N: was.Phase, Got: was.Got})
		if r, ok := x.doIs(t, l[at+1], cutting{0, []byte{0x0f}}); r != (api.Resp{}) || ok || !x.f.Off() || x.x.Meta() != was {
			t.Fatalf("P2002: Do of kind %d behind it: %v, %v", l[at+1].Kind, r, ok)
		}
	}
}

// TestWithoutPower has requests that write nothing answered, and those that would write not.
func TestWithoutPower(t *testing.T) {
	for step := range steps {
		x := setUp(t, config(2, 9, 400))
		x.to(t, step)
		x.turnOff(t)
		before, was := x.state(), x.x.Meta()
		for _, q := range []api.Req{x.begin(2, 400), write(2, 400, 0), write(2, 400, 1), plain(3), plain(4), plain(5), plain(6), plain(7), plain(8), plain(9), some(1), some(2), some(0), some(10)} {
			for range 2 {
				r, ok := x.doIs(t, q, uncut)
				if !same(x.state(), before) || x.x.Meta() != was {
					t.Fatalf("P2002: Do of kind %d without power: %s", q.Kind, differ(x.state(), before))
				}
				if !ok && (r != (api.Resp{}) || q.Kind == 9 || q.Kind == 10) {
					t.Fatalf("P2002: Do of kind %d without power: %v, %v", q.Kind, r, ok)
				}
			}
		}
		x.doGives(t, plain(9), api.Resp{N: was.Phase, Got: was.Got})
		x.doFails(t, some(0), api.ErrRight)
		x.f.Power()
		if x.x.Meta() != was || x.opened(t).Meta() != was {
			t.Fatalf("P2002: Meta when power came back: %v", x.x.Meta())
		}
		x.asks(t, append(x.toCommit(2, 400), plain(5), plain(6))[step:]...)
	}
}

// TestNoPowerByNumbers tells which requests need power, in two phases.
func TestNoPowerByNumbers(t *testing.T) {
	x := setUp(t, config(2, 9, 400))
	x.turnOff(t)
	for i, c := range []struct {
		q  api.Req
		r  api.Resp
		ok bool
	}{
		{x.begin(2, 400), api.Resp{}, false}, {some(1), api.Resp{Err: api.ErrBytes}, true}, {plain(2), api.Resp{Err: api.ErrState}, true}, {plain(5), api.Resp{}, true}, {plain(9), api.Resp{}, true}, {plain(10), api.Resp{Err: api.ErrRight}, true}, {x.begin(2, 400), api.Resp{}, false},
	} {
		if r, ok := x.x.Do(c.q); r != c.r || ok != c.ok {
			t.Errorf("P2002: Do %d without power: %v, %v", i, r, ok)
		}
	}
	x = setUp(t, config(2, 9, 400))
	x.to(t, atTry)
	x.turnOff(t)
	for kind, want := range []api.Errno{14, 11, 11, 11, 11, -1, 11, -1, 11, 0, 14} {
		r, ok := x.x.Do(plain(kind))
		if ok != (want >= 0) || ok && r.Err != want || !ok && r != (api.Resp{}) {
			t.Errorf("P2002: Do of kind %d in a trial without power: %v, %v", kind, r, ok)
		}
	}
}

// TestAsItWasTillOpened has a cut of which all bits turned: the flash has what was to be kept, and the tenant what it was.
func TestAsItWasTillOpened(t *testing.T) {
	for _, q := range []api.Req{write(2, 400, 1), plain(8)} {
		x := setUp(t, config(2, 99, 200))
		x.to(t, atOne)
		was := x.x.Meta()
		_, next := x.reckon(was, q, uncut)
		ops := 2
		if q.Kind == 2 {
			ops++
		}
		r := x.state().ring(x.p.From)
		if x.state().sectors[x.p.From+r.next] == blank {
			ops--
		}
		if r, ok := x.doIs(t, q, cutting{ops - 1, nil}); r != (api.Resp{}) || ok {
			t.Fatalf("P2002: Do of kind %d, cut: %v, %v", q.Kind, r, ok)
		}
		for range 2 {
			if x.x.Meta() != was || x.opened(t).Meta() != next || next == was {
				t.Fatalf("P2002: Meta behind a cut is %v, and opened %v", x.x.Meta(), x.opened(t).Meta())
			}
			if r, ok := x.x.Do(plain(9)); r != (api.Resp{N: 1, Got: 1}) || !ok {
				t.Fatalf("P2002: QStatus of a tenant that is not opened again: %v, %v", r, ok)
			}
			x.f.Power()
		}
	}
}

// TestGoesOnUnopened has a cut request asked again of the same tenant, which is as it was, whatever the flash has.
func TestGoesOnUnopened(t *testing.T) {
	for step := range steps {
		for n := range 4 {
			for _, mask := range masks() {
				x := setUp(t, config(2, 99, 200))
				l := append(x.toCommit(2, 400), plain(5), plain(6))
				x.to(t, step)
				if r, ok := x.doIs(t, l[step], cutting{n, mask}); ok {
					if r.Err != api.OK {
						t.Fatalf("P2002: Do of kind %d, cut %d: %v", l[step].Kind, n, r)
					}
					continue
				}
				x.f.Power()
				x.asks(t, l[step:]...)
				if !bytes.Equal(x.x.Active(), picture(2, 400)) {
					t.Fatalf("P2002: an update that was cut at kind %d", l[step].Kind)
				}
			}
		}
	}
}

// inRow lays b into a row with other bytes on both sides, the spare room of the part among them.
func inRow(b []byte) (row, part []byte) {
	row = slices.Concat(full(9, 0xa5), b, full(sec+9, 0x5a))
	return row, row[9 : 9+len(b)]
}

// TestHandedInStays has a key, a First and requests' bytes that have memory ahead of and behind them.
func TestHandedInStays(t *testing.T) {
	for _, cut := range []cutting{uncut, {0, []byte{0x5a}}, {1, nil}, {2, []byte{0xff, 3}}, {3, []byte{1}}} {
		for budget := range 3 {
			c := config(2, budget, 333)
			keys, key := inRow(c.Key)
			firsts, first := inRow(c.First)
			c.Key, c.First = key, first
			wasKeys, wasFirsts := bytes.Clone(keys), bytes.Clone(firsts)
			x := emptyBench(c, 0)
			cut.on(x.f)
			Setup(x.f, x.p, x.c)
			x.f.Power()
			if e := Setup(x.f, x.p, x.c); e != api.OK {
				continue
			}
			x.x = x.opened(t)
			for i, q := range append(x.toCommit(2, 400), plain(5), plain(6)) {
				row, part := inRow(q.Bytes)
				was := bytes.Clone(row)
				q.Bytes = part
				if i%2 == 1 {
					x.doIs(t, q, cut)
					x.f.Power()
					x.x = x.opened(t)
				} else {
					x.doIs(t, q, uncut)
				}
				if !bytes.Equal(row, was) {
					t.Fatalf("P2003: Do of kind %d: its bytes, or what lies beside them, were turned", q.Kind)
				}
			}
			x.x.Active()
			if !bytes.Equal(keys, wasKeys) || !bytes.Equal(firsts, wasFirsts) {
				t.Fatalf("P2003: the config's key or First, or what lies beside them, was turned")
			}
		}
	}
}

// flip turns all of b in place, its spare room too.
func flip(b []byte) {
	room := b[:cap(b)]
	for i := range room {
		room[i] ^= 0x55
	}
}

// TestNotKept turns all that was handed in behind each call.
func TestNotKept(t *testing.T) {
	x := emptyBench(config(2, 99, 333), 0)
	given := x.c
	given.Key, given.First = bytes.Clone(x.c.Key), bytes.Clone(x.c.First)
	if e := Setup(x.f, x.p, given); e != api.OK {
		t.Fatalf("P2001: Setup: error %d", e)
	}
	flip(given.First)
	y, e := Open(x.f, x.p, given)
	if e != api.OK {
		t.Fatalf("P2001: Open: error %d", e)
	}
	flip(given.Key)
	given.Name, given.Slot, given.Quota, given.Rights, given.Budget = "other", 1, 1, 0, 0
	x.x = y
	if !bytes.Equal(y.Active(), x.c.First) {
		t.Error("P2003: First is kept")
	}
	for round := range 2 {
		for _, q := range append(x.toCommit(2, 640), plain(5), plain(6)) {
			q.Bytes = bytes.Clone(q.Bytes)
			x.asks(t, q)
			m := x.x.Meta()
			flip(q.Bytes)
			if x.x.Meta() != m {
				t.Fatalf("P2003: the bytes of kind %d are kept", q.Kind)
			}
		}
		if !bytes.Equal(x.x.Active(), picture(2, 640)) {
			t.Fatalf("P2003: an update, round %d, of bytes that were turned behind", round)
		}
	}
	if r, _ := x.x.Do(api.Req{Kind: 1, Bytes: manifestRow(given.Key, x.c.Name, imageOf(2, 9))}); r.Err != api.ErrTag {
		t.Errorf("P2003: a manifest under a key that was turned behind Open: %v", r)
	}
}

// TestNewMemory turns what Active answered, in and behind its length, and asks again.
func TestNewMemory(t *testing.T) {
	for _, size := range []int{1, 319, 320, 321, 640} {
		x := setUp(t, config(2, 9, size))
		before := x.state()
		first, second := x.x.Active(), x.x.Active()
		flip(first)
		if !bytes.Equal(second, x.c.First) {
			t.Errorf("P2003: two of Active share memory, %d bytes", size)
		}
		if !same(x.state(), before) || !bytes.Equal(x.x.Active(), x.c.First) {
			t.Errorf("P2003: Active shares memory with the flash, %d bytes", size)
		}
		x.asks(t, append(x.toCommit(2, 9), plain(5), plain(6))...)
		x.asks(t, x.toCommit(3, 640)[:3]...)
		if !bytes.Equal(second, x.c.First) {
			t.Errorf("P2003: what Active answered, %d bytes, was turned by a QWrite", size)
		}
	}
}

// TestTwoOpened opens one part twice: each goes by what it kept when it was opened, and since.
func TestTwoOpened(t *testing.T) {
	x := setUp(t, config(2, 9, 400))
	y := x.opened(t)
	first := y.Meta()
	x.to(t, atOne)
	if y.Meta() != first || x.x.Meta() == first || x.opened(t).Meta() != x.x.Meta() {
		t.Errorf("P2002: what one was asked turned another one's Meta: %v", y.Meta())
	}
	if r, ok := y.Do(plain(9)); r != (api.Resp{}) || !ok {
		t.Errorf("P2002: QStatus of another one: %v", r)
	}
}

// TestBesideEachOther has two tenants on one flash, asked in turn, and each alone on a flash of its own: none is told from its twin.
func TestBesideEachOther(t *testing.T) {
	one, two := config(2, 9, 400), config(3, 20, 900)
	two.Name, two.Key = "b", []byte("b's")
	f := nor.New(18)
	caps := []api.Cap{{Rights: 1023, Len: 8}, {Rights: 1023, From: 8, Len: 10}}
	var beside, alone []bench
	for i, c := range []api.Config{one, two} {
		x, y := bench{f: f, p: caps[i], c: c}, bench{f: nor.New(18), p: caps[i], c: c}
		for _, z := range []bench{x, y} {
			if e := Setup(z.f, z.p, z.c); e != api.OK {
				t.Fatalf("P2001: Setup: error %d", e)
			}
		}
		x.x, y.x = x.opened(t), y.opened(t)
		beside, alone = append(beside, x), append(alone, y)
	}
	c := chance(4)
	for step := range 300 {
		i := c.below(2)
		x, y := beside[i], alone[i]
		q := drawn(&c, x)
		still := beside[1-i].x.Meta()
		r, ok := x.doIs(t, q, uncut)
		if got, gotOK := y.doIs(t, q, uncut); got != r || gotOK != ok || y.x.Meta() != x.x.Meta() || !bytes.Equal(y.x.Active(), x.x.Active()) {
			t.Fatalf("P2003: step %d: of its twin %v, not %v", step, got, r)
		}
		if beside[1-i].x.Meta() != still {
			t.Fatalf("P2003: step %d: the other one's Meta was turned", step)
		}
		for k, z := range []bench{alone[0], alone[1]} {
			a, b := x.state(), z.state()
			from, end := caps[k].From, caps[k].From+caps[k].Len
			if !slices.Equal(a.sectors[from:end], b.sectors[from:end]) || !slices.Equal(a.wears[from:end], b.wears[from:end]) {
				t.Fatalf("P2003: step %d: part %d is not as its twin's", step, k)
			}
		}
	}
}

// drawn makes a request, mostly one that goes on from what is kept.
func drawn(c *chance, x bench) api.Req {
	m := x.x.Meta()
	switch c.below(12) {
	case 0:
		return api.Req{Kind: c.below(12) - 1, N: c.below(4), Bytes: c.row(c.below(sec + 2))}
	case 1:
		return some(1 + c.below(9))
	case 2:
		return plain(5)
	case 3:
		return plain(c.one([]int{7, 8, 9}))
	}
	switch {
	case m.Phase == api.Idle:
		version := m.Min + c.below(4) - 1
		return x.begin(max(version, 1), 1+c.below(x.c.Quota*sec+20))
	case m.Phase == api.Receiving && m.Got*sec < m.Coming.Size:
		return write(m.Coming.Version, m.Coming.Size, m.Got)
	case m.Phase == api.Receiving:
		return plain(3)
	case m.Phase == api.Verified:
		return plain(4)
	}
	return plain(c.one([]int{5, 6}))
}

// TestLongRun draws requests, cuts, power, others' erases behind the slots' backs and openings, and holds all that is asked against what is reckoned by the flash alone.
func TestLongRun(t *testing.T) {
	for seed := range 80 {
		c := chance(seed)
		slot := 1 + c.below(most)
		cfg := config(slot, c.one([]int{0, 1, 4, 30, 1000}), 1)
		cfg.Quota = 1 + c.below(slot)
		cfg.First = picture(1, 1+c.below(cfg.Quota*sec))
		x := setUp(t, cfg)
		least := 0
		for range 120 {
			cut := uncut
			if c.below(6) == 0 {
				cut = cutting{c.below(5), c.row(c.below(4))}
			}
			x.doIs(t, drawn(&c, x), cut)
			if !x.f.Off() {
				// No cut is to come any more.
				x.f.Power()
			}
			if x.f.Off() || c.below(9) == 0 {
				if c.below(4) == 0 && x.x.Meta() == x.opened(t).Meta() {
					x.doIs(t, drawn(&c, x), uncut)
				}
				x.f.Power()
				x.x = x.opened(t)
			}
			if m := x.x.Meta(); m.Min < least {
				t.Fatalf("P2003: Min falls from %d to %d", least, m.Min)
			}
			least = x.x.Meta().Min
		}
	}
}

// TestAtOnce has tenants of flashes of their own asked at once.
func TestAtOnce(t *testing.T) {
	var all sync.WaitGroup
	got := make([]string, 8)
	for i := range got {
		all.Go(func() {
			x := emptyBench(config(2, 9, 333), 0)
			Setup(x.f, x.p, x.c)
			x.x, _ = Open(x.f, x.p, x.c)
			c := chance(5)
			for range 60 {
				r, ok := x.x.Do(drawn(&c, x))
				got[i] += fmt.Sprint(r, ok, x.x.Meta())
			}
			got[i] += fmt.Sprintf("%x %v", x.x.Active(), x.state())
		})
	}
	all.Wait()
	for i := range got {
		if got[i] != got[0] || got[i] == "" {
			t.Errorf("P2003: asked at once: %d answers otherwise", i)
		}
	}
}

// TestAskedAtOnce asks one tenant what turns nothing, from several goroutines.
func TestAskedAtOnce(t *testing.T) {
	x := setUp(t, config(2, 9, 333))
	x.to(t, atOne)
	var all sync.WaitGroup
	for range 8 {
		all.Go(func() {
			for range 10 {
				r, ok := x.x.Do(plain(9))
				if r != (api.Resp{N: 1, Got: 1}) || !ok || !bytes.Equal(x.x.Active(), x.c.First) || x.x.Meta().Got != 1 {
					t.Errorf("P2003: asked at once: %v, %v", r, ok)
				}
			}
		})
	}
	all.Wait()
}
