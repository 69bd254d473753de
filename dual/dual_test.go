package dual

import (
	"bytes"
	"slices"
	"testing"

	"waterline/api"
	"waterline/nor"
)

// lengths are those of the rows that the tests go through: 160 bytes and their opposites fill a sector.
var lengths = []int{0, 1, 2, 3, 4, 7, 8, 9, 31, 32, 159, 160, 161, 1000}

// chance makes numbers, the same ones at each run.
type chance uint32

func (c *chance) byte() byte {
	*c = *c*1664525 + 1013904223
	return byte(*c >> 24)
}

func (c *chance) row(n int) []byte {
	out := make([]byte, n)
	for i := range out {
		out[i] = c.byte()
	}
	return out
}

// rows makes, for each length, one of bytes 0, one of bytes 255, two of half the bits and some others; and each single byte.
func rows() [][]byte {
	c := chance(8)
	var out [][]byte
	for _, n := range lengths {
		for _, x := range []byte{0, 255, 0x55, 0x0f} {
			out = append(out, bytes.Repeat([]byte{x}, n))
		}
		for range 4 {
			out = append(out, c.row(n))
		}
	}
	for x := range 256 {
		out = append(out, []byte{byte(x)})
	}
	return out
}

// opposite turns all bits of x, one by one.
func opposite(x byte) byte {
	out := byte(0)
	for k := range 8 {
		if x>>k&1 == 0 {
			out |= 1 << k
		}
	}
	return out
}

// refused fails unless Get tells false, and nothing beside it.
func refused(t *testing.T, promise string, b []byte) {
	t.Helper()
	if got, ok := Get(b); ok || len(got) != 0 {
		t.Fatalf("%s: Get of %d bytes %x.. is %x, %v", promise, len(b), b[:min(16, len(b))], got, ok)
	}
}

// told fails unless Get tells want.
func told(t *testing.T, promise string, b, want []byte) {
	t.Helper()
	if got, ok := Get(b); !ok || !slices.Equal(got, want) {
		t.Fatalf("%s: Get of %d bytes %x.. is %x, %v, not %x", promise, len(b), b[:min(16, len(b))], got, ok, want)
	}
}

func TestExample(t *testing.T) {
	if got := Put([]byte("a")); !slices.Equal(got, []byte{0x61, 0x9e}) {
		t.Errorf("P801: Put of a is %x", got)
	}
	told(t, "P801", []byte{0x61, 0x9e}, []byte("a"))
}

func TestKnownRows(t *testing.T) {
	for _, x := range []struct{ b, put string }{
		{"\x00", "\x00\xff"}, {"\xff", "\xff\x00"}, {"\x01\x80", "\x01\xfe\x80\x7f"},
		{"abc", "\x61\x9e\x62\x9d\x63\x9c"}, {"\x0f\xf0\x55\xaa", "\x0f\xf0\xf0\x0f\x55\xaa\xaa\x55"},
	} {
		if got := Put([]byte(x.b)); string(got) != x.put {
			t.Errorf("P801: Put of %x is %x, not %x", x.b, got, x.put)
		}
		told(t, "P801", []byte(x.put), []byte(x.b))
	}
}

// TestNothing has nil, an empty row, and an empty one with memory behind it.
func TestNothing(t *testing.T) {
	for _, b := range [][]byte{nil, {}, []byte("a\x9e")[:0]} {
		if got := Put(b); len(got) != 0 {
			t.Errorf("P801: Put of no bytes is %x", got)
		}
		told(t, "P801", b, nil)
	}
}

func TestPut(t *testing.T) {
	for _, b := range rows() {
		got := Put(b)
		if len(got) != 2*len(b) {
			t.Fatalf("P801: Put of %d bytes has %d", len(b), len(got))
		}
		for i, x := range b {
			if got[2*i] != x || got[2*i+1] != opposite(x) {
				t.Fatalf("P801: Put of %d bytes has %x for byte %d, %02x", len(b), got[2*i:2*i+2], i, x)
			}
		}
	}
}

func TestGetOfPut(t *testing.T) {
	for _, b := range rows() {
		told(t, "P801", Put(b), b)
	}
	many := new(chance).row(1<<20 + 1)
	told(t, "P801", Put(many), many)
}

// TestPutOfGet has rows that Get tells: they are those that Put writes, and no others.
func TestPutOfGet(t *testing.T) {
	c := chance(4)
	for range 2000 {
		b := c.row(2 * int(c.byte()%4))
		for i := 1; i < len(b); i += 2 {
			if c.byte()%4 != 0 {
				b[i] = opposite(b[i-1])
			}
		}
		if got, ok := Get(b); ok != slices.Equal(Put(firsts(b)), b) || ok && !slices.Equal(Put(got), b) {
			t.Fatalf("P801: Get of %x is %x, %v", b, got, ok)
		}
	}
}

// firsts are the first bytes of each pair.
func firsts(b []byte) []byte {
	var out []byte
	for i := 0; i < len(b); i += 2 {
		out = append(out, b[i])
	}
	return out
}

// TestEveryPair has all 65,536: 256 are told, each as its first byte.
func TestEveryPair(t *testing.T) {
	count := 0
	for x := range 256 {
		for y := range 256 {
			b := []byte{byte(x), byte(y)}
			if x+y != 255 {
				refused(t, "P801", b)
				continue
			}
			told(t, "P801", b, b[:1])
			count++
		}
	}
	if count != 256 {
		t.Errorf("P801: %d pairs are told", count)
	}
}

func TestOneByte(t *testing.T) {
	for x := range 256 {
		refused(t, "P801", []byte{byte(x)})
	}
}

// TestOddNumber takes a byte from either end of whole rows, or lays one to it, also where the memory behind it would make a whole row.
func TestOddNumber(t *testing.T) {
	for _, b := range rows() {
		p := Put(b)
		for _, x := range []byte{0, 1, 0x9e, 255} {
			refused(t, "P801", slices.Concat(p, []byte{x}))
			refused(t, "P801", slices.Concat([]byte{x}, p))
		}
		if len(p) > 0 {
			refused(t, "P801", p[1:])
			refused(t, "P801", p[:len(p)-1])
			refused(t, "P801", slices.Clip(p[:len(p)-1]))
		}
	}
	c := chance(6)
	for n := 1; n < 400; n += 2 {
		refused(t, "P801", c.row(n))
		refused(t, "P801", make([]byte, n))
		refused(t, "P801", bytes.Repeat([]byte{255}, n))
	}
}

// TestOnePairWrong has, in a whole row, one pair of any kind that is none, at each place.
func TestOnePairWrong(t *testing.T) {
	c := chance(3)
	for _, n := range []int{1, 2, 3, 8, 9, 160, 161} {
		p := Put(c.row(n))
		for i := range n {
			for _, pair := range [][2]byte{{0, 0}, {255, 255}, {0x61, 0x61}, {0x61, 0x9f}, {0x60, 0x9e}, {0x0f, 0x0f}, {0, 254}, {1, 255}, {254, 0}, {255, 1}} {
				q := slices.Clone(p)
				q[2*i], q[2*i+1] = pair[0], pair[1]
				refused(t, "P801", q)
			}
		}
	}
}

// TestPairsAcross has rows in which bytes and their opposites stand elsewhere than behind each other.
func TestPairsAcross(t *testing.T) {
	for _, b := range []string{
		"\x61\x62\x9e\x9d",         // all bytes first
		"\x61\x62\x9d\x9e",         // as a mirror has it
		"\x00\x61\x9e\xff",         // a pair within
		"\x61\x9e\x61\x61\x9e\x9e", // one pair apart
	} {
		refused(t, "P801", []byte(b))
	}
}

func TestSameBytes(t *testing.T) {
	for x := range 256 {
		for _, n := range []int{2, 4, 6, 320} {
			refused(t, "P801", bytes.Repeat([]byte{byte(x)}, n))
		}
	}
	for n := 1; n <= 320; n++ {
		refused(t, "P801", make([]byte, n))
		refused(t, "P801", bytes.Repeat([]byte{255}, n))
	}
}

// TestEachBit turns one bit of a Put, to 1 or to 0, in the byte and in the one behind it: either way it is no Put.
func TestEachBit(t *testing.T) {
	for _, b := range rows() {
		p := Put(b)
		for i := range 8 * min(len(p), 640) {
			p[i/8] ^= 1 << (i % 8)
			refused(t, "P802", p)
			p[i/8] ^= 1 << (i % 8)
		}
		told(t, "P802", p, b)
	}
}

// TestEveryMissingBitOfAByte has, of each single byte, all ways in which its pair may lack bits that should be 0: only the one that lacks none is told.
func TestEveryMissingBitOfAByte(t *testing.T) {
	for x := range 256 {
		p := Put([]byte{byte(x)})
		for missing := range 256 {
			// Of each two bits one should be 0: those of p[1] where x has a 1, those of p[0] elsewhere.
			q := []byte{p[0] | byte(missing)&^p[0], p[1] | byte(missing)&^p[1]}
			if missing == 0 {
				told(t, "P802", q, []byte{byte(x)})
			} else {
				refused(t, "P802", q)
			}
		}
	}
}

// TestMissingAtOnePlace has, at each place of a row, all bits of one byte missing, all but one of them, and the whole pair.
func TestMissingAtOnePlace(t *testing.T) {
	for _, b := range rows() {
		p := Put(b)
		for i := range min(len(p), 320) {
			if p[i] == 255 {
				continue
			}
			q := slices.Clone(p)
			q[i] = 255
			refused(t, "P802", q)
			for k := range 8 {
				if q[i] = 255&^(1<<k) | p[i]; q[i] != p[i] {
					refused(t, "P802", q)
				}
			}
			q[i], q[i^1] = 255, 255
			refused(t, "P802", q)
		}
	}
}

// TestSomeMissing has bits missing all over a row, few or many, and in the first or the second bytes of the pairs alone.
func TestSomeMissing(t *testing.T) {
	c := chance(5)
	for _, b := range rows() {
		p := Put(b)
		for _, where := range []([2]byte){{255, 255}, {255, 0}, {0, 255}} {
			for dense := range 6 {
				q, some := slices.Clone(p), false
				for i := range q {
					bits := where[i%2]
					for range dense {
						bits &= c.byte()
					}
					q[i] |= bits
					some = some || q[i] != p[i]
				}
				if some {
					refused(t, "P802", q)
				} else {
					told(t, "P802", q, b)
				}
			}
		}
	}
}

// TestMissingFromAPlaceOn has rows that were written up to some byte alone, or erased up to it.
func TestMissingFromAPlaceOn(t *testing.T) {
	c := chance(7)
	for _, n := range []int{1, 2, 9, 160} {
		b := c.row(n)
		p := Put(b)
		for i := range p {
			written, erased := slices.Clone(p), slices.Clone(p)
			for k := range p {
				if k >= i {
					written[k] = 255
				}
				if k <= i {
					erased[k] = 255
				}
			}
			if !slices.Equal(written, p) {
				refused(t, "P802", written)
			}
			if !slices.Equal(erased, p) {
				refused(t, "P802", erased)
			}
		}
	}
}

// masks are those of cuts: no bit stays, all do, all but one, one, and some.
func masks() [][]byte {
	c := chance(9)
	out := [][]byte{nil, {0}, {255}, {254}, {127}, {1}, {128}, {255, 0}, {0, 255}, {0, 0, 255}}
	for n := 1; n < 330; n += 13 {
		out = append(out, c.row(n))
	}
	last := make([]byte, api.Sector)
	last[api.Sector-1] = 255
	return append(out, last)
}

// TestCutOnAFlash programs a sector with a Put, or erases it, and cuts the power: what is left is told as these bytes if all of it is there, else not at all.
func TestCutOnAFlash(t *testing.T) {
	for _, b := range rows() {
		p := Put(b)
		if len(p) == 0 || len(p) > api.Sector {
			continue
		}
		for _, mask := range masks() {
			f := nor.New(1)
			f.Cut(0, mask)
			f.Program(0, p)
			left(t, f, b, p)
			f = nor.New(1)
			f.Program(0, p)
			f.Cut(0, mask)
			f.Erase(0)
			left(t, f, b, p)
		}
	}
}

// left holds what Get tells of a flash's bytes against b and its Put.
func left(t *testing.T, f *nor.Flash, b, p []byte) {
	t.Helper()
	if !f.Off() {
		t.Fatal("P602: the flash was not cut")
	}
	if now := f.Read(0, len(p)); slices.Equal(now, p) {
		told(t, "P802", now, b)
	} else {
		refused(t, "P802", now)
	}
}

// TestHandedInStays looks at the row and at the memory on both its sides, which must neither be turned nor be read.
func TestHandedInStays(t *testing.T) {
	c := chance(1)
	for _, n := range lengths {
		room := slices.Concat(c.row(20), Put(c.row(n)), c.row(20))
		before := slices.Clone(room)
		b := room[20 : 20+2*n]
		put := Put(b)
		got, ok := Get(b)
		Get(room[20:][:2*n+1])
		if !slices.Equal(room, before) {
			t.Errorf("P802: %d bytes, or the memory beside them, changed", 2*n)
		}
		for i := range room {
			if i < 20 || i >= 20+2*n {
				room[i] = ^room[i]
			}
		}
		again, same := Get(b)
		if !slices.Equal(Put(b), put) || !slices.Equal(again, got) || !ok || !same {
			t.Errorf("P802: what is answered of %d bytes hangs on the memory beside them", 2*n)
		}
	}
}

// TestNewMemory turns what was handed in, and then what was answered, its spare room too: the other one must stay.
func TestNewMemory(t *testing.T) {
	for _, b := range rows() {
		in := append(slices.Clone(b), "spare"...)[:len(b)]
		p := Put(in)
		whole := append(slices.Clone(p), "spare"...)[:len(p)]
		got, _ := Get(whole)
		turned(in)
		turned(whole)
		if !slices.Equal(p, Put(b)) || !slices.Equal(got, b) {
			t.Fatalf("P802: an answer of %d bytes was turned with what was handed in", len(b))
		}
		in, whole = slices.Clone(b), Put(b)
		one, two := Put(in), Put(in)
		first, _ := Get(whole)
		second, _ := Get(whole)
		turned(one)
		turned(first)
		if !slices.Equal(in, b) || !slices.Equal(whole, two) {
			t.Fatalf("P802: %d bytes that were handed in were turned with an answer", len(b))
		}
		if !slices.Equal(two, Put(b)) || !slices.Equal(second, b) {
			t.Fatalf("P802: two answers of %d bytes share memory", len(b))
		}
	}
}

// turned turns all of b in place, its spare room too.
func turned(b []byte) {
	room := b[:cap(b)]
	for i := range room {
		room[i] ^= 0x55
	}
}

// TestNotKept turns a row that was asked: the next call must read what stands there now.
func TestNotKept(t *testing.T) {
	c := chance(2)
	for _, n := range lengths[1:] {
		b := c.row(n)
		p := Put(b)
		Get(p)
		b[n/2] ^= 0x10
		if got := Put(b); got[n/2*2] != b[n/2] || got[n/2*2+1] != opposite(b[n/2]) {
			t.Errorf("P802: Put of %d turned bytes has %x at %d", n, got[n/2*2:][:2], n/2)
		}
		p[n/2*2] ^= 0x10
		refused(t, "P802", p)
		p[n/2*2+1] ^= 0x10
		told(t, "P802", p, b)
	}
}

// TestOnlyArguments calls in several orders: an answer that hung on an earlier call would differ.
func TestOnlyArguments(t *testing.T) {
	type answer struct {
		put, got string
		ok       bool
	}
	ask := func(i int) answer {
		c := chance(i)
		b := c.row(lengths[i%len(lengths)])
		p := Put(b)
		if i%3 == 0 && len(p) > 0 {
			p[len(p)/2] ^= 4
		}
		got, ok := Get(p)
		return answer{string(p), string(got), ok}
	}
	var first [50]answer
	for i := range first {
		first[i] = ask(i)
	}
	for i := range first {
		for j := range first {
			ask(j)
			if got := ask(i); got != first[i] {
				t.Fatalf("P802: call %d behind call %d answers otherwise", i, j)
			}
		}
	}
}
