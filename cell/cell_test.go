package cell

import (
	"bytes"
	"encoding/binary"
	"math"
	"slices"
	"testing"

	"waterline/api"
	"waterline/dual"
	"waterline/nor"
)

// chance makes numbers, the same ones at each run.
type chance uint64

func (c *chance) next() uint32 {
	*c = *c*6364136223846793005 + 1442695040888963407
	return uint32(*c >> 32)
}

// below makes a number of 0 to n-1.
func (c *chance) below(n int) int {
	return int(c.next() % uint32(n))
}

func (c *chance) row(n int) []byte {
	out := make([]byte, n)
	for i := range out {
		out[i] = byte(c.next() >> 20)
	}
	return out
}

// goodSeqs are the least and the greatest seq, those beside the ends of each of its bytes, and some between.
func goodSeqs() []int {
	out := []int{1, 2, 3, 254, 255, 256, 257, 65535, 65536, 1<<24 - 1, 1 << 24, 0x01020304, 0x7fffff00, 1<<31 - 2, 1<<31 - 1}
	c := chance(10)
	for range 40 {
		out = append(out, 1+int(c.next()>>1)>>c.below(31))
	}
	return slices.DeleteFunc(out, func(n int) bool { return n > 1<<31-1 })
}

// badSeqs are no seqs; of some the lowest 4 bytes alone would be one.
var badSeqs = []int{
	0, -1, -2, -255, -256, math.MinInt32, math.MinInt32 + 1, math.MinInt, math.MinInt + 1, math.MinInt + 7, -1<<32 + 1, -1 << 32,
	1 << 31, 1<<31 + 1, 1<<32 - 1, 1 << 32, 1<<32 + 1, 1<<32 + 7, 1 << 40, 1<<40 + 1, math.MaxInt - 1, math.MaxInt,
}

// goodLengths and badLengths are those of what a cell is to hold.
var (
	goodLengths = []int{0, 1, 2, 3, 4, 77, 78, 154, 155, api.Load}
	badLengths  = []int{api.Load + 1, api.Load + 2, 160, 161, 255, 256, 312, 319, api.Sector, 321, 999, 1000, 1001, 1 << 16, 1<<16 + 5, 1 << 20}
)

// rows makes of a length one of bytes 0, one of bytes 255, two of half the bits, and two others.
func rows(n int) [][]byte {
	c := chance(n)
	out := [][]byte{c.row(n), c.row(n)}
	for _, x := range []byte{0, 255, 0x55, 0x0f} {
		out = append(out, bytes.Repeat([]byte{x}, n))
	}
	return out
}

// plain is what the cell of seq and b has, without the opposites.
func plain(seq int, b []byte) []byte {
	out := binary.BigEndian.AppendUint32(nil, uint32(seq))
	return append(out, padded(b)...)
}

// padded makes b as long as a cell's load, by bytes 0.
func padded(b []byte) []byte {
	return slices.Concat(b, make([]byte, api.Load-len(b)))
}

// put fails unless Put answers bytes.
func put(t *testing.T, seq int, b []byte) []byte {
	t.Helper()
	got, e := Put(seq, b)
	if e != api.OK {
		t.Fatalf("P1001: Put of %d and %d bytes: error %d", seq, len(b), e)
	}
	return got
}

// putRefused fails unless Put answers want alone.
func putRefused(t *testing.T, seq int, b []byte, want api.Errno) {
	t.Helper()
	if got, e := Put(seq, b); e != want || len(got) != 0 {
		t.Fatalf("P1001: Put of %d and %d bytes: %d bytes, error %d, not %d", seq, len(b), len(got), e, want)
	}
}

// told fails unless Get tells seq and load.
func told(t *testing.T, promise string, b []byte, seq int, load []byte) {
	t.Helper()
	n, got, ok := Get(b)
	if !ok || n != seq || !slices.Equal(got, load) {
		t.Fatalf("%s: Get of %d bytes %x..: %d, %x, %v, not %d, %x", promise, len(b), b[:min(16, len(b))], n, got, ok, seq, load)
	}
}

// refused fails unless Get tells false, and nothing beside it.
func refused(t *testing.T, promise string, b []byte) {
	t.Helper()
	if n, got, ok := Get(b); ok || n != 0 || len(got) != 0 {
		t.Fatalf("%s: Get of %d bytes %x..: %d, %x, %v", promise, len(b), b[:min(16, len(b))], n, got, ok)
	}
}

// TestExample has nil, no bytes, and no bytes ahead of a cell's.
func TestExample(t *testing.T) {
	refused(t, "P1001", nil)
	refused(t, "P1001", []byte{})
	refused(t, "P1001", put(t, 1, nil)[:0])
}

// TestKnownCell has one that is written out.
func TestKnownCell(t *testing.T) {
	got := put(t, 0x01020304, []byte("a"))
	want := append([]byte{1, 0xfe, 2, 0xfd, 3, 0xfc, 4, 0xfb, 0x61, 0x9e}, bytes.Repeat([]byte{0, 255}, 155)...)
	if !slices.Equal(got, want) {
		t.Errorf("P1001: Put of 01020304 and a is %x", got)
	}
	told(t, "P1001", want, 0x01020304, padded([]byte("a")))
}

func TestPutAndBack(t *testing.T) {
	for _, seq := range goodSeqs() {
		for _, n := range goodLengths {
			for _, b := range rows(n) {
				got := put(t, seq, b)
				if len(got) != api.Sector || !slices.Equal(got, dual.Put(plain(seq, b))) {
					t.Fatalf("P1001: Put of %d and %d bytes is %d bytes %x", seq, n, len(got), got)
				}
				told(t, "P1001", got, seq, padded(b))
			}
		}
	}
}

// TestEachLength has all lengths that a cell can hold.
func TestEachLength(t *testing.T) {
	c := chance(1)
	for n := range api.Load + 1 {
		b := c.row(n)
		got := put(t, 7, b)
		if !slices.Equal(got, dual.Put(plain(7, b))) {
			t.Fatalf("P1001: Put of 7 and %d bytes is %x", n, got)
		}
		told(t, "P1001", got, 7, padded(b))
	}
}

// TestNothingToHold has nil, no bytes, and no bytes ahead of some: all the same.
func TestNothingToHold(t *testing.T) {
	for _, seq := range goodSeqs() {
		for _, b := range [][]byte{nil, {}, []byte("spare")[:0]} {
			got := put(t, seq, b)
			if !slices.Equal(got, dual.Put(plain(seq, nil))) {
				t.Fatalf("P1001: Put of %d and no bytes is %x", seq, got)
			}
			told(t, "P1001", got, seq, make([]byte, api.Load))
		}
	}
}

func TestBadSeq(t *testing.T) {
	for _, seq := range badSeqs {
		putRefused(t, seq, nil, api.ErrArg)
		for _, n := range goodLengths {
			putRefused(t, seq, make([]byte, n), api.ErrArg)
		}
	}
}

func TestTooLong(t *testing.T) {
	for _, n := range badLengths {
		for _, seq := range goodSeqs() {
			putRefused(t, seq, make([]byte, n), api.ErrLong)
		}
	}
	// Room behind b does not make it longer.
	b := make([]byte, 1000)
	put(t, 1, b[:api.Load])
	putRefused(t, 1, b[:api.Load+1], api.ErrLong)
	putRefused(t, 1, b[:api.Load+1:api.Load+1], api.ErrLong)
}

// TestBothWrong has a bad seq and too many bytes: the seq is told.
func TestBothWrong(t *testing.T) {
	for _, seq := range badSeqs {
		for _, n := range badLengths {
			putRefused(t, seq, make([]byte, n), api.ErrArg)
		}
	}
}

// TestOtherLengths has rows that are shorter or longer than a sector, of any bytes, of a cell's, and such as are dual and have a good seq.
func TestOtherLengths(t *testing.T) {
	c := chance(2)
	for _, seq := range goodSeqs() {
		p := put(t, seq, c.row(api.Load))
		for n := range api.Sector {
			refused(t, "P1001", p[:n])
			refused(t, "P1001", slices.Clip(p[:n]))
			refused(t, "P1001", p[api.Sector-n:])
		}
		for _, more := range [][]byte{{0}, {255}, {0, 255}, {255, 0}, {1, 0xfe}, {255, 255}, {0, 255, 0, 255}, p, slices.Concat(p, p)} {
			refused(t, "P1001", slices.Concat(p, more))
			refused(t, "P1001", slices.Concat(more, p))
		}
	}
	for _, n := range []int{0, 1, 3, 4, 5, 78, 80, 158, 159, 161, 162, 240, api.Sector, 1000} {
		for _, seq := range []int{1, 7, 1<<31 - 1} {
			refused(t, "P1001", dual.Put(slices.Concat(plain(seq, nil), make([]byte, 1000))[:n]))
		}
	}
	for n := range 2 * api.Sector {
		refused(t, "P1001", c.row(n))
		refused(t, "P1001", make([]byte, n))
		refused(t, "P1001", bytes.Repeat([]byte{255}, n))
	}
}

// TestEachBit turns one bit in each byte of a cell, to 1 or to 0: it is no cell, also where bytes 0 stand behind what was put.
func TestEachBit(t *testing.T) {
	for _, seq := range []int{1, 2, 0x01020304, 0x7fffffff} {
		for _, n := range []int{0, 5, api.Load} {
			b := rows(n)[0]
			p := put(t, seq, b)
			for i := range 8 * api.Sector {
				p[i/8] ^= 1 << (i % 8)
				refused(t, "P1001", p)
				p[i/8] ^= 1 << (i % 8)
			}
			told(t, "P1001", p, seq, padded(b))
		}
	}
}

// TestNotDual has rows of a sector's length in which some bytes' opposites are wrong, or stand elsewhere.
func TestNotDual(t *testing.T) {
	p := put(t, 7, rows(api.Load)[0])
	for i := 0; i < api.Sector; i += 2 {
		for _, pair := range [][2]byte{{0, 0}, {255, 255}, {0x61, 0x61}, {0x61, 0x9f}, {p[i], p[i]}, {p[i+1], p[i+1]}} {
			q := slices.Clone(p)
			q[i], q[i+1] = pair[0], pair[1]
			refused(t, "P1001", q)
		}
	}
	refused(t, "P1001", append(plain(7, nil), plain(7, nil)...))
	refused(t, "P1001", append(p[1:api.Sector:api.Sector], 0))
}

// TestNoSuchSeq has rows that are dual, of a sector's length, and have a seq that no Put takes, beside those that have the nearest one that is taken.
func TestNoSuchSeq(t *testing.T) {
	c := chance(3)
	for _, load := range [][]byte{make([]byte, api.Load), bytes.Repeat([]byte{255}, api.Load), c.row(api.Load)} {
		for _, seq := range []int{0, 1 << 31, 1<<31 + 1, 1<<31 + 7, 1<<31 + 1<<30, 1<<32 - 256, 1<<32 - 2, 1<<32 - 1} {
			refused(t, "P1001", dual.Put(plain(seq, load)))
		}
		for range 200 {
			refused(t, "P1001", dual.Put(plain(1<<31+int(c.next()>>1), load)))
		}
		for _, seq := range []int{1, 2, 255, 256, 1<<31 - 1} {
			told(t, "P1001", dual.Put(plain(seq, load)), seq, load)
		}
	}
}

// programmed is what a blank sector has when a Program of p was cut, with the sectors beside it as they were.
func programmed(t *testing.T, p, mask []byte) []byte {
	t.Helper()
	f := nor.New(3)
	f.Cut(0, mask)
	return cutOff(t, f, f.Program(api.Sector, p))
}

// wiped is what a sector that has p has when its Erase was cut.
func wiped(t *testing.T, p, mask []byte) []byte {
	t.Helper()
	f := nor.New(3)
	f.Program(api.Sector, p)
	f.Cut(0, mask)
	return cutOff(t, f, f.Erase(1))
}

// cutOff reads the sector 1 of a flash whose operation was cut.
func cutOff(t *testing.T, f *nor.Flash, e api.Errno) []byte {
	t.Helper()
	if e != api.ErrOff || !f.Off() {
		t.Fatalf("P602: the flash was not cut: error %d", e)
	}
	f.Power()
	return f.Read(api.Sector, api.Sector)
}

// either fails unless Get tells of what is left the Put p of seq and load, if all of it is there, else false.
func either(t *testing.T, left, p []byte, seq int, load []byte) {
	t.Helper()
	if slices.Equal(left, p) {
		told(t, "P1002", left, seq, load)
	} else {
		refused(t, "P1002", left)
	}
}

// TestCutPlain has the masks of no bits and of all bits.
func TestCutPlain(t *testing.T) {
	for _, seq := range goodSeqs() {
		for _, b := range rows(api.Load) {
			p := put(t, seq, b)
			for _, mask := range [][]byte{nil, {}, {0}, make([]byte, api.Sector)} {
				told(t, "P1002", programmed(t, p, mask), seq, b)
				refused(t, "P1002", wiped(t, p, mask))
			}
			for _, mask := range [][]byte{{255}, bytes.Repeat([]byte{255}, api.Sector)} {
				refused(t, "P1002", programmed(t, p, mask))
				told(t, "P1002", wiped(t, p, mask), seq, b)
			}
		}
	}
}

// TestCutAtEachBit has the masks of each single bit, and of all bits but one.
func TestCutAtEachBit(t *testing.T) {
	c := chance(4)
	for _, seq := range []int{1, 256, 0x01020304, 1<<31 - 1} {
		for _, n := range []int{0, 100, api.Load} {
			b := c.row(n)
			p := put(t, seq, b)
			for i := range 8 * api.Sector {
				for _, rest := range []byte{0, 255} {
					mask := bytes.Repeat([]byte{rest}, api.Sector)
					mask[i/8] ^= 1 << (i % 8)
					either(t, programmed(t, p, mask), p, seq, padded(b))
					either(t, wiped(t, p, mask), p, seq, padded(b))
				}
			}
		}
	}
}

// TestCutAtSomeBits has drawn masks, with few or many bits, some of them shorter or longer than a sector.
func TestCutAtSomeBits(t *testing.T) {
	c := chance(5)
	seqs := goodSeqs()
	for range 3000 {
		seq, b := seqs[c.below(len(seqs))], c.row(c.below(api.Load+1))
		p := put(t, seq, b)
		mask, turn := c.row(1+c.below(2*api.Sector)), byte(-c.below(2))
		for dense := c.below(8); dense > 0; dense-- {
			for i := range mask {
				mask[i] &= byte(c.next() >> 20)
			}
		}
		for i := range mask {
			mask[i] ^= turn
		}
		either(t, programmed(t, p, mask), p, seq, padded(b))
		either(t, wiped(t, p, mask), p, seq, padded(b))
	}
}

// TestCutFromAByteOn has operations that went up to some byte alone, from either end.
func TestCutFromAByteOn(t *testing.T) {
	p := put(t, 7, []byte("some"))
	for i := range api.Sector + 1 {
		mask := slices.Concat(make([]byte, i), bytes.Repeat([]byte{255}, api.Sector-i))
		for range 2 {
			either(t, programmed(t, p, mask), p, 7, padded([]byte("some")))
			either(t, wiped(t, p, mask), p, 7, padded([]byte("some")))
			slices.Reverse(mask)
		}
	}
}

// TestHandedInStays looks at the rows and at the memory on both their sides, which must neither be turned nor be read.
func TestHandedInStays(t *testing.T) {
	c := chance(6)
	for _, n := range append(slices.Clone(goodLengths), badLengths...) {
		room := c.row(200 + n + 200)
		before := slices.Clone(room)
		got, e := Put(7, room[200:200+n])
		Put(0, room[200:200+n])
		if !slices.Equal(room, before) {
			t.Fatalf("P1002: Put turned %d bytes, or the memory beside them", n)
		}
		turned(room[:200:200])
		turned(room[200+n:])
		if again, other := Put(7, room[200:200+n]); other != e || !slices.Equal(again, got) {
			t.Fatalf("P1002: Put of %d bytes hangs on the memory beside them", n)
		}
	}
	for _, n := range []int{0, 1, api.Sector - 2, api.Sector - 1, api.Sector, api.Sector + 1, api.Sector + 2} {
		room := slices.Concat(c.row(200), put(t, 7, c.row(api.Load)), c.row(200))
		before := slices.Clone(room)
		seq, got, ok := Get(room[200 : 200+n])
		if ok != (n == api.Sector) || !slices.Equal(room, before) {
			t.Fatalf("P1002: Get of %d bytes: %v, or it turned them, or the memory beside them", n, ok)
		}
		turned(room[:200:200])
		turned(room[200+n:])
		if other, again, same := Get(room[200 : 200+n]); other != seq || same != ok || !slices.Equal(again, got) {
			t.Fatalf("P1002: Get of %d bytes hangs on the memory beside them", n)
		}
	}
}

// turned turns all of b in place, its spare room too.
func turned(b []byte) {
	room := b[:cap(b)]
	for i := range room {
		room[i] ^= 0x55
	}
}

// TestNotKept turns rows that were handed in, their spare room too: what was answered must stay, and the next call must read what stands there now.
func TestNotKept(t *testing.T) {
	c := chance(7)
	for _, n := range goodLengths {
		b := append(make([]byte, 0, 400), c.row(n)...)
		was := slices.Clone(b)
		p := put(t, 7, b)
		turned(b)
		if !slices.Equal(p, dual.Put(plain(7, was))) {
			t.Fatalf("P1002: a Put of %d bytes was turned with them", n)
		}
		if !slices.Equal(put(t, 7, b), dual.Put(plain(7, b))) {
			t.Fatalf("P1002: a Put of %d turned bytes is another's", n)
		}
		_, load, _ := Get(p)
		turned(p)
		if !slices.Equal(load, padded(was)) {
			t.Fatalf("P1002: what Get told was turned with the cell of %d bytes", n)
		}
		copy(p, dual.Put(plain(9, b)))
		told(t, "P1002", p, 9, padded(b))
	}
}

// TestNewMemory turns and grows what was answered: neither what was handed in nor another answer turns.
func TestNewMemory(t *testing.T) {
	c := chance(8)
	for _, n := range goodLengths {
		b := append(make([]byte, 0, 400), c.row(n)...)
		room := slices.Clone(b[:cap(b)])
		want := dual.Put(plain(7, b))
		one, two := put(t, 7, b), put(t, 7, b)
		_, first, _ := Get(two)
		_, second, _ := Get(two)
		for _, answer := range [][]byte{one, first} {
			turned(append(answer, "more"...))
			turned(answer)
		}
		if !slices.Equal(b[:cap(b)], room) {
			t.Fatalf("P1002: %d bytes that were handed in were turned with an answer", n)
		}
		if !slices.Equal(two, want) || !slices.Equal(second, padded(b)) {
			t.Fatalf("P1002: two answers for %d bytes share memory", n)
		}
		if !slices.Equal(put(t, 7, b), want) {
			t.Fatalf("P1002: a Put of %d bytes hangs on an earlier answer", n)
		}
		told(t, "P1002", two, 7, padded(b))
	}
}

// TestOnlyArguments calls in several orders: an answer that hung on an earlier call would differ.
func TestOnlyArguments(t *testing.T) {
	type answer struct {
		put, load string
		e         api.Errno
		seq       int
		ok        bool
	}
	seqs := append(goodSeqs()[:10], badSeqs...)
	lengths := append(slices.Clone(goodLengths), api.Load+1, 1000)
	ask := func(i int) answer {
		c := chance(i)
		p, e := Put(seqs[i%len(seqs)], c.row(lengths[i%len(lengths)]))
		if i%3 == 0 && len(p) > 0 {
			p[c.below(len(p))] ^= 4
		}
		seq, load, ok := Get(p)
		return answer{string(p), string(load), e, seq, ok}
	}
	var first [70]answer
	for i := range first {
		first[i] = ask(i)
	}
	for i := range first {
		for j := range first {
			ask(j)
			if got := ask(i); got != first[i] {
				t.Fatalf("P1002: call %d behind call %d answers otherwise", i, j)
			}
		}
	}
}
