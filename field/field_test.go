package field

import (
	"bytes"
	"encoding/binary"
	"math"
	"slices"
	"testing"
)

// chance makes numbers, the same ones at each run.
type chance uint64

func (c *chance) next() int {
	*c = *c*6364136223846793005 + 1442695040888963407
	return int(*c>>32 ^ *c<<31)
}

// below makes a number of 0 to n-1.
func (c *chance) below(n int) int {
	return int(uint32(c.next()) % uint32(n))
}

func (c *chance) row(n int) []byte {
	out := make([]byte, n)
	for i := range out {
		out[i] = byte(c.next() >> 20)
	}
	return out
}

// numbers are 0, 1, some below 0, the greatest and the least, and those beside the ends of each size.
func numbers() []int {
	out := []int{0, 1, 2, 7, -1, -2, -255, -256, -257, 0x0102, 0x01020304, 0x0102030405060708, -0x0102030405060708, math.MaxInt, math.MaxInt - 1, math.MinInt, math.MinInt + 1}
	for k := 1; k < 8; k++ {
		for d := -1; d <= 1; d++ {
			out = append(out, 1<<(8*k)+d, 1<<(8*k-1)+d, -1<<(8*k)+d, -1<<(8*k-1)+d)
		}
	}
	c := chance(9)
	for range 100 {
		out = append(out, c.next(), c.next()>>c.below(64))
	}
	return out
}

// numSizes tells for sizes of Num what they are cut to.
var numSizes = []struct{ size, cut int }{
	{0, 0}, {1, 1}, {2, 2}, {3, 3}, {4, 4}, {5, 5}, {6, 6}, {7, 7}, {8, 8},
	{-1, 0}, {-2, 0}, {-8, 0}, {-256, 0}, {math.MinInt, 0}, {math.MinInt + 1, 0}, {math.MinInt32, 0},
	{9, 8}, {10, 8}, {16, 8}, {256, 8}, {1000, 8}, {1 << 32, 8}, {1<<32 + 3, 8}, {math.MaxInt, 8}, {math.MaxInt32, 8},
}

// rawSizes tells for sizes of Raw what they are cut to.
var rawSizes = []struct{ size, cut int }{
	{0, 0}, {1, 1}, {2, 2}, {3, 3}, {8, 8}, {9, 9}, {255, 255}, {256, 256}, {257, 257}, {998, 998}, {999, 999}, {1000, 1000},
	{1001, 1000}, {1002, 1000}, {1024, 1000}, {2000, 1000}, {1 << 20, 1000}, {1 << 32, 1000}, {1<<32 + 3, 1000}, {math.MaxInt32, 1000}, {math.MaxInt, 1000},
	{-1, 0}, {-2, 0}, {-1000, 0}, {math.MinInt32, 0}, {math.MinInt, 0}, {math.MinInt + 1, 0},
}

// lengths are those of rows that are shorter than, as long as and longer than these sizes.
var lengths = []int{0, 1, 2, 3, 7, 8, 9, 255, 256, 257, 998, 999, 1000, 1001, 1002, 1500, 3000}

// low makes the lowest size bytes of n, the highest first.
func low(n, size int) []byte {
	return binary.BigEndian.AppendUint64(nil, uint64(n))[8-size:]
}

// padded makes the first size bytes of b, then bytes 0.
func padded(b []byte, size int) []byte {
	return slices.Concat(b, make([]byte, size))[:size]
}

// wrote fails unless w's bytes are want.
func wrote(t *testing.T, promise string, w *Writer, want []byte) {
	t.Helper()
	if got := w.Bytes(); !bytes.Equal(got, want) {
		t.Fatalf("%s: a Writer has %d bytes %x.., not %d %x..", promise, len(got), got[:min(16, len(got))], len(want), want[:min(16, len(want))])
	}
}

// stands fails unless r has so many bytes left and is bad or not.
func stands(t *testing.T, promise string, r *Reader, left int, bad bool) {
	t.Helper()
	if r.Left() != left || r.Bad() != bad {
		t.Fatalf("%s: a Reader has %d bytes left and is bad: %v, not %d and %v", promise, r.Left(), r.Bad(), left, bad)
	}
}

// readNum fails unless r's next number is want.
func readNum(t *testing.T, promise string, r *Reader, size, want int) {
	t.Helper()
	if got := r.Num(size); got != want {
		t.Fatalf("%s: Num of size %d is %d, not %d", promise, size, got, want)
	}
}

// readRaw fails unless r's next row is want.
func readRaw(t *testing.T, promise string, r *Reader, size int, want []byte) {
	t.Helper()
	if got := r.Raw(size); !bytes.Equal(got, want) {
		t.Fatalf("%s: Raw of size %d is %d bytes %x.., not %d %x..", promise, size, len(got), got[:min(16, len(got))], len(want), want[:min(16, len(want))])
	}
}

func TestExample(t *testing.T) {
	wrote(t, "P901", new(Writer), nil)
	wrote(t, "P901", &Writer{}, nil)
	var w Writer
	wrote(t, "P901", &w, nil)
}

func TestKnownNumbers(t *testing.T) {
	for _, x := range []struct {
		n, size int
		want    string
	}{
		{0, 1, "\x00"}, {0, 8, "\x00\x00\x00\x00\x00\x00\x00\x00"}, {1, 1, "\x01"}, {1, 2, "\x00\x01"}, {1, 8, "\x00\x00\x00\x00\x00\x00\x00\x01"},
		{0x0102, 2, "\x01\x02"}, {0x0102, 1, "\x02"}, {0x0102, 3, "\x00\x01\x02"}, {0x01020304, 3, "\x02\x03\x04"},
		{0x0102030405060708, 8, "\x01\x02\x03\x04\x05\x06\x07\x08"}, {0x0102030405060708, 5, "\x04\x05\x06\x07\x08"},
		{255, 1, "\xff"}, {256, 1, "\x00"}, {257, 1, "\x01"}, {65535, 2, "\xff\xff"}, {65536, 2, "\x00\x00"},
		{-1, 1, "\xff"}, {-1, 3, "\xff\xff\xff"}, {-1, 8, "\xff\xff\xff\xff\xff\xff\xff\xff"}, {-2, 2, "\xff\xfe"}, {-256, 2, "\xff\x00"}, {-257, 2, "\xfe\xff"},
		{math.MaxInt, 8, "\x7f\xff\xff\xff\xff\xff\xff\xff"}, {math.MaxInt, 7, "\xff\xff\xff\xff\xff\xff\xff"}, {math.MaxInt, 1, "\xff"},
		{math.MinInt, 8, "\x80\x00\x00\x00\x00\x00\x00\x00"}, {math.MinInt, 7, "\x00\x00\x00\x00\x00\x00\x00"}, {math.MinInt, 1, "\x00"},
		{7, 0, ""}, {-7, 0, ""}, {7, -1, ""}, {5, 9, "\x00\x00\x00\x00\x00\x00\x00\x05"}, {-5, 9, "\xff\xff\xff\xff\xff\xff\xff\xfb"},
	} {
		w := new(Writer)
		w.Num(x.n, x.size)
		if got := string(w.Bytes()); got != x.want {
			t.Errorf("P901: Num of %d in size %d is %x, not %x", x.n, x.size, got, x.want)
		}
	}
}

func TestWriterNum(t *testing.T) {
	for _, n := range numbers() {
		for _, s := range numSizes {
			w := new(Writer)
			w.Num(n, s.size)
			if got := w.Bytes(); !bytes.Equal(got, low(n, s.cut)) {
				t.Fatalf("P901: Num of %d in size %d is %x", n, s.size, got)
			}
		}
	}
}

func TestWriterRaw(t *testing.T) {
	c := chance(1)
	for _, n := range lengths {
		for _, b := range [][]byte{c.row(n), bytes.Repeat([]byte{255}, n), make([]byte, n)} {
			for _, s := range rawSizes {
				w := new(Writer)
				w.Raw(b, s.size)
				wrote(t, "P901", w, padded(b, s.cut))
			}
		}
	}
}

// TestWriterRawOfNothing has nil, an empty row, and an empty one with memory behind it.
func TestWriterRawOfNothing(t *testing.T) {
	for _, b := range [][]byte{nil, {}, []byte("abc")[:0]} {
		for _, s := range rawSizes {
			w := new(Writer)
			w.Raw(b, s.size)
			wrote(t, "P901", w, make([]byte, s.cut))
		}
	}
}

// TestWriterRawStopsAtTheEnd has rows with memory behind them, which is no part of them: bytes 0 follow.
func TestWriterRawStopsAtTheEnd(t *testing.T) {
	room := bytes.Repeat([]byte{0xee}, 2000)
	for _, n := range []int{0, 1, 2, 999, 1000} {
		w := new(Writer)
		w.Raw(room[:n], 1000)
		wrote(t, "P901", w, padded(bytes.Repeat([]byte{0xee}, n), 1000))
	}
}

// TestBehindEachOther writes many things to one Writer and looks at all of them after each.
func TestBehindEachOther(t *testing.T) {
	c := chance(2)
	w, want := new(Writer), []byte(nil)
	for range 600 {
		if c.below(2) == 0 {
			n, s := c.next(), numSizes[c.below(len(numSizes))]
			w.Num(n, s.size)
			want = append(want, low(n, s.cut)...)
		} else {
			b, s := c.row(lengths[c.below(len(lengths))]), rawSizes[c.below(len(rawSizes))]
			w.Raw(b, s.size)
			want = append(want, padded(b, s.cut)...)
		}
		wrote(t, "P901", w, want)
	}
	wrote(t, "P901", w, want)
}

func TestManyWrites(t *testing.T) {
	w, want := new(Writer), []byte(nil)
	for i := range 300000 {
		w.Num(i, 3)
		w.Raw([]byte{byte(i)}, 2)
		want = append(want, byte(i>>16), byte(i>>8), byte(i), byte(i), 0)
	}
	wrote(t, "P901", w, want)
	r := NewReader(want)
	for i := range 300000 {
		readNum(t, "P901", r, 3, i)
		readRaw(t, "P901", r, 2, []byte{byte(i), 0})
	}
	stands(t, "P901", r, 0, false)
}

// TestBytesTurnsNothing asks for the bytes between writes, and twice.
func TestBytesTurnsNothing(t *testing.T) {
	w := new(Writer)
	for i := range 100 {
		w.Num(i, 1)
		one, two := w.Bytes(), w.Bytes()
		if !bytes.Equal(one, two) || len(one) != i+1 || one[i] != byte(i) {
			t.Fatalf("P901: behind write %d there are %x and %x", i, one, two)
		}
	}
}

func TestReaderOfNothing(t *testing.T) {
	for _, b := range [][]byte{nil, {}, []byte("abc")[:0]} {
		for _, s := range numSizes {
			r := NewReader(b)
			stands(t, "P901", r, 0, false)
			readNum(t, "P901", r, s.size, 0)
			stands(t, "P901", r, 0, s.cut > 0)
		}
		for _, s := range rawSizes {
			r := NewReader(b)
			stands(t, "P901", r, 0, false)
			readRaw(t, "P901", r, s.size, nil)
			stands(t, "P901", r, 0, s.cut > 0)
		}
	}
}

func TestKnownReads(t *testing.T) {
	for _, x := range []struct {
		b          string
		size, want int
	}{
		{"\x01\x02", 1, 1}, {"\x01\x02", 2, 0x0102}, {"\x00\x00\x05", 3, 5}, {"\xff", 1, 255}, {"\x80", 1, 128}, {"\xff\xff", 2, 65535}, {"\x80\x00\x00\x00", 4, 1 << 31},
		{"\xff\xff\xff\xff", 4, 1<<32 - 1}, {"\xff\xff\xff\xff\xff\xff\xff", 7, 1<<56 - 1}, {"\x80\x00\x00\x00\x00\x00\x00", 7, 1 << 55},
		{"\x00\x00\x00\x00\x00\x00\x00\x05", 8, 5}, {"\x7f\xff\xff\xff\xff\xff\xff\xff", 8, math.MaxInt}, {"\x80\x00\x00\x00\x00\x00\x00\x00", 8, math.MinInt},
		{"\xff\xff\xff\xff\xff\xff\xff\xff", 8, -1}, {"\xff\xff\xff\xff\xff\xff\xff\xfe", 8, -2}, {"\xff\xff\xff\xff\xff\xff\xff\xfe", 99, -2}, {"\x01\x02\x03\x04\x05\x06\x07\x08\x09", 9, 0x0102030405060708},
		{"\x07", 0, 0}, {"\x07", -1, 0}, {"\x07", math.MinInt, 0},
	} {
		r := NewReader([]byte(x.b))
		if got := r.Num(x.size); got != x.want || r.Bad() {
			t.Errorf("P901: Num of size %d of %x is %d, not %d (bad: %v)", x.size, x.b, got, x.want, r.Bad())
		}
	}
}

// TestReaderNum reads in each size from rows that are too short, just long enough and longer.
func TestReaderNum(t *testing.T) {
	c := chance(3)
	for _, s := range numSizes {
		for n := range 20 {
			for _, b := range [][]byte{c.row(n), bytes.Repeat([]byte{255}, n), bytes.Repeat([]byte{0x80}, n), make([]byte, n)} {
				r := NewReader(b)
				stands(t, "P901", r, n, false)
				if s.cut > n {
					readNum(t, "P901", r, s.size, 0)
					stands(t, "P901", r, 0, true)
					continue
				}
				want := binary.BigEndian.Uint64(slices.Concat(make([]byte, 8), b[:s.cut])[s.cut:])
				got := r.Num(s.size)
				if got != int(want) || s.cut < 8 && got < 0 {
					t.Fatalf("P901: Num of size %d of %x is %d", s.size, b, got)
				}
				stands(t, "P901", r, n-s.cut, false)
			}
		}
	}
}

func TestReaderRaw(t *testing.T) {
	c := chance(4)
	for _, s := range rawSizes {
		for _, n := range lengths {
			b := c.row(n)
			r := NewReader(b)
			stands(t, "P901", r, n, false)
			if s.cut > n {
				readRaw(t, "P901", r, s.size, nil)
				stands(t, "P901", r, 0, true)
				continue
			}
			readRaw(t, "P901", r, s.size, b[:s.cut])
			stands(t, "P901", r, n-s.cut, false)
			if n > s.cut {
				readNum(t, "P901", r, 1, int(b[s.cut]))
			}
		}
	}
}

// TestReadToTheEnd reads all there is, then nothing: that is not bad; then one byte more: that is.
func TestReadToTheEnd(t *testing.T) {
	for _, n := range []int{0, 1, 2, 8, 9, 1000} {
		b := bytes.Repeat([]byte{9}, n)
		r := NewReader(b)
		for i := range n {
			stands(t, "P901", r, n-i, false)
			readNum(t, "P901", r, 1, 9)
		}
		stands(t, "P901", r, 0, false)
		readNum(t, "P901", r, 0, 0)
		readRaw(t, "P901", r, -1, nil)
		stands(t, "P901", r, 0, false)
		readNum(t, "P901", r, 1, 0)
		stands(t, "P901", r, 0, true)
		r = NewReader(b)
		readRaw(t, "P901", r, n, b)
		readRaw(t, "P901", r, 0, nil)
		stands(t, "P901", r, 0, false)
		readRaw(t, "P901", r, 1, nil)
		stands(t, "P901", r, 0, true)
	}
}

// TestBadStaysBad has bytes missing, by one and by many, in Num and in Raw, at once and behind other reads; then reads of all sizes, which also a Reader with bytes left would have met.
func TestBadStaysBad(t *testing.T) {
	for _, ahead := range []int{0, 1, 5} {
		for left := range 8 {
			for _, over := range []int{1, 2, 3, 500, math.MaxInt - 20} {
				for _, num := range []bool{true, false} {
					r := NewReader(bytes.Repeat([]byte{7}, ahead+left))
					readRaw(t, "P901", r, ahead, bytes.Repeat([]byte{7}, ahead))
					stands(t, "P901", r, left, false)
					if num {
						readNum(t, "P901", r, left+over, 0)
					} else {
						readRaw(t, "P901", r, left+over, nil)
					}
					stands(t, "P901", r, 0, true)
					allNothing(t, r)
				}
			}
		}
	}
	r := NewReader(make([]byte, 999))
	readRaw(t, "P901", r, 1000, nil)
	allNothing(t, r)
}

// allNothing fails unless all reads of a bad Reader tell nothing, and it stays bad.
func allNothing(t *testing.T, r *Reader) {
	t.Helper()
	for _, s := range numSizes {
		readNum(t, "P901", r, s.size, 0)
		stands(t, "P901", r, 0, true)
	}
	for _, s := range rawSizes {
		readRaw(t, "P901", r, s.size, nil)
		stands(t, "P901", r, 0, true)
	}
	readNum(t, "P901", r, 0, 0)
	stands(t, "P901", r, 0, true)
}

// TestFittingNumbers reads numbers that fit their size as they were written.
func TestFittingNumbers(t *testing.T) {
	for _, n := range numbers() {
		for size := range 9 {
			w := new(Writer)
			w.Num(n, size)
			r := NewReader(w.Bytes())
			got := r.Num(size)
			if fits := size == 8 || n >= 0 && n < 1<<(8*size); fits && got != n {
				t.Fatalf("P901: %d in size %d is read as %d", n, size, got)
			}
			if size < 8 && (got < 0 || got >= 1<<(8*size)) {
				t.Fatalf("P901: %d in size %d is read as %d", n, size, got)
			}
			stands(t, "P901", r, 0, false)
		}
	}
}

func TestRowsAsWritten(t *testing.T) {
	c := chance(5)
	for _, n := range lengths {
		for _, s := range rawSizes {
			b := c.row(n)
			w := new(Writer)
			w.Raw(b, s.size)
			r := NewReader(w.Bytes())
			readRaw(t, "P901", r, s.size, padded(b, s.cut))
			stands(t, "P901", r, 0, false)
		}
	}
}

// TestManyInOrder writes numbers and rows of all sizes and reads them back in their order.
func TestManyInOrder(t *testing.T) {
	type entry struct {
		n, size int
		b       []byte
		raw     bool
	}
	c := chance(6)
	for range 40 {
		var all []entry
		w := new(Writer)
		for range 60 {
			if c.below(3) == 0 {
				e := entry{b: c.row(c.below(1300)), size: c.below(1300) - 50, raw: true}
				w.Raw(e.b, e.size)
				all = append(all, e)
				continue
			}
			e := entry{n: c.next(), size: c.below(12) - 1}
			w.Num(e.n, e.size)
			all = append(all, e)
		}
		r := NewReader(w.Bytes())
		left := len(w.Bytes())
		for _, e := range all {
			stands(t, "P901", r, left, false)
			if e.raw {
				want := padded(e.b, min(max(e.size, 0), 1000))
				readRaw(t, "P901", r, e.size, want)
				left -= len(want)
				continue
			}
			row := low(e.n, min(max(e.size, 0), 8))
			readNum(t, "P901", r, e.size, int(binary.BigEndian.Uint64(slices.Concat(make([]byte, 8), row)[len(row):])))
			left -= len(row)
		}
		stands(t, "P901", r, 0, false)
	}
}

func TestNilReader(t *testing.T) {
	var r *Reader
	for range 2 {
		stands(t, "P902", r, 0, false)
		for _, s := range numSizes {
			readNum(t, "P902", r, s.size, 0)
			stands(t, "P902", r, 0, false)
		}
		for _, s := range rawSizes {
			readRaw(t, "P902", r, s.size, nil)
			stands(t, "P902", r, 0, false)
		}
	}
}

// TestNilWriter has what no chapter speaks of: no call panics all the same.
func TestNilWriter(t *testing.T) {
	var w *Writer
	w.Num(1, 2)
	w.Raw([]byte("abc"), 3)
	wrote(t, "P901", w, nil)
}

func TestTwoWriters(t *testing.T) {
	one, two := new(Writer), new(Writer)
	var first, second []byte
	for i := range 100 {
		one.Num(i, 2)
		first = append(first, 0, byte(i))
		wrote(t, "P902", two, second)
		two.Raw([]byte("ab"), i%4)
		second = append(second, "ab\x00\x00"[:i%4]...)
		wrote(t, "P902", one, first)
	}
	wrote(t, "P902", new(Writer), nil)
}

// TestCopiedWriter writes to a Writer and to copies of it, by turns: each has what was there when it was copied, and its own.
func TestCopiedWriter(t *testing.T) {
	for n := range 70 {
		w := new(Writer)
		var want []byte
		for i := range n {
			w.Num(i, 1)
			want = append(want, byte(i))
		}
		one, two := *w, *w
		w.Num(0xaa, 1)
		one.Num(0xbb, 1)
		two.Raw([]byte{0xcc}, 1)
		wrote(t, "P902", w, slices.Concat(want, []byte{0xaa}))
		wrote(t, "P902", &one, slices.Concat(want, []byte{0xbb}))
		wrote(t, "P902", &two, slices.Concat(want, []byte{0xcc}))
		later := *w
		*w = one
		w.Num(0xdd, 1)
		wrote(t, "P902", &later, slices.Concat(want, []byte{0xaa}))
		wrote(t, "P902", w, slices.Concat(want, []byte{0xbb, 0xdd}))
	}
}

// TestTwoReaders has two Readers of one row, of which one reads on and is bad.
func TestTwoReaders(t *testing.T) {
	b := []byte{1, 2, 3, 4}
	one, two := NewReader(b), NewReader(b)
	readNum(t, "P902", one, 2, 0x0102)
	stands(t, "P902", two, 4, false)
	readNum(t, "P902", two, 1, 1)
	stands(t, "P902", one, 2, false)
	readRaw(t, "P902", one, 3, nil)
	stands(t, "P902", one, 0, true)
	stands(t, "P902", two, 3, false)
	readRaw(t, "P902", two, 3, []byte{2, 3, 4})
	stands(t, "P902", two, 0, false)
	stands(t, "P902", NewReader(b), 4, false)
	stands(t, "P902", NewReader(nil), 0, false)
}

func TestCopiedReader(t *testing.T) {
	r := NewReader([]byte{1, 2, 3})
	readNum(t, "P902", r, 1, 1)
	copied := *r
	readNum(t, "P902", r, 4, 0)
	stands(t, "P902", r, 0, true)
	stands(t, "P902", &copied, 2, false)
	got := copied.Raw(1)
	turned(got)
	readNum(t, "P902", &copied, 1, 3)
}

// turned turns all of b in place, its spare room too.
func turned(b []byte) {
	room := b[:cap(b)]
	for i := range room {
		room[i] ^= 0x55
	}
}

// TestHandedInStays looks at rows that were handed in and at the memory on both their sides, while all that was answered is turned and grown.
func TestHandedInStays(t *testing.T) {
	c := chance(7)
	for _, n := range lengths {
		room := c.row(n + 1040)
		before := slices.Clone(room)
		b := room[20 : 20+n]
		for _, s := range rawSizes {
			w := new(Writer)
			w.Raw(b, s.size)
			w.Num(-1, 8)
			w.Raw(b, s.size)
			turned(w.Bytes())
			turned(append(w.Bytes(), 1))
			r := NewReader(b)
			turned(r.Raw(s.size))
			turned(append(r.Raw(1), 1, 2, 3))
			r.Num(8)
			turned(append(r.Raw(s.size), 1))
			if !slices.Equal(room, before) {
				t.Fatalf("P902: %d bytes, or the memory beside them, changed", n)
			}
		}
	}
}

// TestNotKept turns rows that were handed in: the Writer and the Reader must not turn with them.
func TestNotKept(t *testing.T) {
	c := chance(8)
	for _, n := range lengths {
		for _, s := range rawSizes {
			b := c.row(n + 5)[:n]
			before := slices.Clone(b)
			w := new(Writer)
			w.Raw(b, s.size)
			r := NewReader(b)
			turned(b)
			wrote(t, "P902", w, padded(before, s.cut))
			stands(t, "P902", r, n, false)
			readRaw(t, "P902", r, min(n, 100), before[:min(n, 100)])
			turned(b)
			w.Raw(b, s.size)
			turned(b)
			rest := before[min(n, 100):]
			readRaw(t, "P902", r, len(rest), rest[:min(len(rest), 1000)])
			wrote(t, "P902", w, slices.Concat(padded(before, s.cut), padded(before, s.cut)))
		}
	}
}

// TestBytesAreNewMemory turns and grows what Bytes answered, between writes.
func TestBytesAreNewMemory(t *testing.T) {
	w := new(Writer)
	var want []byte
	for i := range 200 {
		w.Num(i, 1)
		w.Raw([]byte("abc"), i%6)
		want = append(append(want, byte(i)), "abc\x00\x00"[:i%6]...)
		one, two := w.Bytes(), w.Bytes()
		turned(one)
		if !bytes.Equal(two, want) {
			t.Fatalf("P902: two answers of %d bytes share memory", len(want))
		}
		grown := append(two, 0xee, 0xee)
		turned(grown)
		wrote(t, "P902", w, want)
	}
	kept := w.Bytes()
	w.Num(0, 8)
	if !bytes.Equal(kept, want) {
		t.Error("P902: an answer turned with a later write")
	}
}

// TestRowsAreNewMemory turns and grows what Raw answered: neither what is left, nor an earlier answer, nor another Reader turns.
func TestRowsAreNewMemory(t *testing.T) {
	c := chance(10)
	for _, size := range []int{1, 2, 7, 8, 100, 999, 1000} {
		b := c.row(5*size + 1)
		in := slices.Clone(b)
		r, other := NewReader(in), NewReader(in)
		first := r.Raw(size)
		second := r.Raw(size)
		turned(first)
		if !bytes.Equal(second, b[size:2*size]) {
			t.Fatalf("P902: two answers of %d bytes share memory", size)
		}
		turned(append(second, 1, 2, 3))
		readRaw(t, "P902", r, size, b[2*size:3*size])
		readNum(t, "P902", r, 1, int(b[3*size]))
		turned(r.Raw(0))
		readRaw(t, "P902", r, size, b[3*size+1:4*size+1])
		readRaw(t, "P902", other, size, b[:size])
		if !bytes.Equal(in, b) {
			t.Fatalf("P902: %d bytes that were handed in were turned with an answer", len(b))
		}
	}
}

// TestWriterAsReader reads from what a Writer answered, while the Writer goes on.
func TestWriterAsReader(t *testing.T) {
	w := new(Writer)
	w.Num(0x0102, 2)
	r := NewReader(w.Bytes())
	w.Num(0x03, 1)
	stands(t, "P902", r, 2, false)
	w.Raw(r.Raw(2), 2)
	wrote(t, "P902", w, []byte{1, 2, 3, 1, 2})
	stands(t, "P902", r, 0, false)
}

// TestOnlyArguments does the same in several orders: an answer that hung on an earlier object would differ.
func TestOnlyArguments(t *testing.T) {
	type answer struct {
		wrote, raw string
		num, left  int
		bad        bool
	}
	ask := func(i int) answer {
		c := chance(i)
		w := new(Writer)
		w.Num(c.next(), i%10)
		w.Raw(c.row(i), i%13)
		r := NewReader(w.Bytes())
		num := r.Num(c.below(9))
		raw := r.Raw(c.below(13))
		return answer{string(w.Bytes()), string(raw), num, r.Left(), r.Bad()}
	}
	var first [60]answer
	for i := range first {
		first[i] = ask(i)
	}
	for i := range first {
		for j := range first {
			ask(j)
			if got := ask(i); got != first[i] {
				t.Fatalf("P902: call %d behind call %d answers otherwise", i, j)
			}
		}
	}
}
