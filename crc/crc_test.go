package crc

import (
	"bytes"
	"hash/crc32"
	"math"
	"slices"
	"testing"
)

// lengths are those of the rows that the tests go through.
var lengths = []int{0, 1, 2, 3, 4, 7, 8, 9, 255, 256, 1000}

// sums are those that More is asked behind.
var sums = []uint32{0, 1, 77, 0x80000000, 0xcbf43926, 0xdeadbeef, 0xedb88320, 0x7fffffff, math.MaxUint32 - 1, math.MaxUint32}

// row makes n bytes, others for each seed.
func row(seed uint32, n int) []byte {
	out := make([]byte, n)
	for i := range out {
		seed = seed*1664525 + 1013904223
		out[i] = byte(seed >> 24)
	}
	return out
}

// rows makes, for each length, one of bytes 0, one of bytes 255 and some others; and each single byte.
func rows() [][]byte {
	var out [][]byte
	for _, n := range lengths {
		out = append(out, make([]byte, n), bytes.Repeat([]byte{255}, n))
		for seed := range uint32(5) {
			out = append(out, row(seed, n))
		}
	}
	for x := range 256 {
		out = append(out, []byte{byte(x)})
	}
	return out
}

// longhand is the document's sum read a second way: the bits of b, the lowest of each byte first, are held as one long number, the first 32 of them (0 where b has none) are turned, and what is left of it, divided by 104C11DB7, is the sum, turned and read from its other end.
func longhand(b []byte) uint32 {
	bits := make([]byte, 8*len(b)+32)
	for i := range 8 * len(b) {
		bits[i] = b[i/8] >> (i % 8) & 1
	}
	for i := range 32 {
		bits[i] ^= 1
	}
	for i := range 8 * len(b) {
		if bits[i] == 1 {
			for k := range 33 {
				bits[i+k] ^= byte(uint64(0x104c11db7) >> (32 - k) & 1)
			}
		}
	}
	sum := uint32(0)
	for k := range 32 {
		sum |= uint32(bits[8*len(b)+k]^1) << k
	}
	return sum
}

func TestKnownSums(t *testing.T) {
	for _, x := range []struct {
		b    []byte
		want uint32
	}{
		{[]byte("123456789"), 0xcbf43926},
		{nil, 0}, {[]byte{}, 0},
		{[]byte("a"), 0xe8b7be43}, {[]byte("abc"), 0x352441c2}, {[]byte("message digest"), 0x20159d7f},
		{[]byte("abcdefghijklmnopqrstuvwxyz"), 0x4c2750bd},
		{[]byte("The quick brown fox jumps over the lazy dog"), 0x414fa339},
		{[]byte{0}, 0xd202ef8d}, {[]byte{255}, 0xff000000}, {[]byte{0, 0, 0, 0}, 0x2144df1c}, {[]byte{255, 255, 255, 255}, 0xffffffff},
		{make([]byte, 32), 0x190a55ad}, {bytes.Repeat([]byte{255}, 32), 0xff6cab0b},
	} {
		if got := Sum(x.b); got != x.want {
			t.Errorf("P501: Sum of %q is %08x, not %08x", x.b, got, x.want)
		}
	}
}

func TestSum(t *testing.T) {
	for _, b := range rows() {
		want := crc32.ChecksumIEEE(b)
		if got := Sum(b); got != want || got != longhand(b) {
			t.Errorf("P501: Sum of %d bytes %v.. is %08x, not %08x", len(b), b[:min(8, len(b))], got, want)
		}
	}
}

func TestSumOfManyBytes(t *testing.T) {
	b := row(9, 1<<20+1)
	if got, want := Sum(b), crc32.ChecksumIEEE(b); got != want {
		t.Errorf("P501: Sum of %d bytes is %08x, not %08x", len(b), got, want)
	}
}

// TestMoreCutAnywhere cuts rows in two at each place, the two ends among them.
func TestMoreCutAnywhere(t *testing.T) {
	for _, b := range rows() {
		want := crc32.ChecksumIEEE(b)
		for k := range len(b) + 1 {
			if got := More(Sum(b[:k]), b[k:]); got != want {
				t.Fatalf("P501: More of Sum of %d bytes and %d others is %08x, not %08x", k, len(b)-k, got, want)
			}
		}
	}
}

// TestMoreInThreeParts cuts rows twice, at all pairs of places, so that each part is empty at times.
func TestMoreInThreeParts(t *testing.T) {
	for _, n := range []int{0, 1, 2, 3, 4, 7, 8, 9, 40} {
		for _, b := range [][]byte{row(7, n), make([]byte, n), bytes.Repeat([]byte{255}, n)} {
			want := crc32.ChecksumIEEE(b)
			for k := range n + 1 {
				for m := k; m <= n; m++ {
					if got := More(More(Sum(b[:k]), b[k:m]), b[m:]); got != want {
						t.Fatalf("P501: More in parts of %d, %d and %d bytes is %08x, not %08x", k, m-k, n-m, got, want)
					}
				}
			}
		}
	}
}

// TestMoreByteByByte begins with no bytes and goes on with one at a time.
func TestMoreByteByByte(t *testing.T) {
	b := row(3, 1000)
	sum := Sum(nil)
	for i := range b {
		sum = More(sum, b[i:i+1])
		if want := crc32.ChecksumIEEE(b[:i+1]); sum != want {
			t.Fatalf("P501: More byte by byte is %08x behind %d bytes, not %08x", sum, i+1, want)
		}
	}
}

func TestMoreBehindAnySum(t *testing.T) {
	behind := slices.Clone(sums)
	for i := range 32 {
		behind = append(behind, 1<<i, ^(uint32(1) << i))
	}
	for _, sum := range behind {
		for _, b := range rows() {
			if got, want := More(sum, b), crc32.Update(sum, crc32.IEEETable, b); got != want {
				t.Fatalf("P501: More(%08x) and %d bytes is %08x, not %08x", sum, len(b), got, want)
			}
		}
	}
}

// TestMoreBehindARowOfThatSum finds, for any sum, four bytes that have it, so that what More answers can be held against Sum of one row.
func TestMoreBehindARowOfThatSum(t *testing.T) {
	for _, sum := range sums {
		a := rowOfSum(sum)
		if Sum(a) != sum {
			t.Fatalf("P501: Sum of %v is %08x, not %08x", a, Sum(a), sum)
		}
		for _, n := range lengths {
			b := row(sum, n)
			if got, want := More(sum, b), Sum(slices.Concat(a, b)); got != want {
				t.Errorf("P501: More(%08x) and %d bytes is %08x, Sum of a row is %08x", sum, n, got, want)
			}
		}
	}
}

// rowOfSum goes the steps of the sum backwards, from sum to four bytes that have it.
func rowOfSum(sum uint32) []byte {
	rest := ^sum
	for range 32 {
		if rest>>31 == 1 {
			rest = (rest^0xedb88320)<<1 | 1
		} else {
			rest <<= 1
		}
	}
	rest = ^rest
	return []byte{byte(rest), byte(rest >> 8), byte(rest >> 16), byte(rest >> 24)}
}

func TestNilIsNoBytes(t *testing.T) {
	none := row(1, 5)[:0]
	for _, b := range [][]byte{nil, {}, none} {
		if got := Sum(b); got != 0 {
			t.Errorf("P501: Sum of no bytes is %08x", got)
		}
		for _, sum := range sums {
			if got := More(sum, b); got != sum {
				t.Errorf("P501: More(%08x) and no bytes is %08x", sum, got)
			}
		}
	}
}

// TestEachBitTurned turns one bit of a row, then of the sum that More goes on from: the answer must turn with it, each time to another one.
func TestEachBitTurned(t *testing.T) {
	for _, n := range lengths {
		for _, b := range [][]byte{row(5, n), make([]byte, n), bytes.Repeat([]byte{255}, n)} {
			seen := map[uint32]bool{Sum(b): true}
			for i := range 8 * n {
				b[i/8] ^= 1 << (i % 8)
				if got := Sum(b); seen[got] {
					t.Fatalf("P501: bit %d of %d bytes turned: Sum is %08x, as without it or with another", i, n, got)
				} else {
					seen[got] = true
				}
				b[i/8] ^= 1 << (i % 8)
			}
			for _, sum := range sums {
				for i := range 32 {
					if More(sum, b) == More(sum^1<<i, b) {
						t.Fatalf("P501: bit %d of sum %08x turned: More with %d bytes does not turn", i, sum, n)
					}
				}
			}
		}
	}
}

// TestHandedInStays looks at the row and at the memory on both its sides, which must neither be turned nor be read.
func TestHandedInStays(t *testing.T) {
	for _, n := range lengths {
		room := row(8, n+40)
		before := slices.Clone(room)
		b := room[20 : 20+n]
		sum, more := Sum(b), More(77, b)
		if !slices.Equal(room, before) {
			t.Errorf("P502: %d bytes, or the memory beside them, changed", n)
		}
		for i := range room {
			if i < 20 || i >= 20+n {
				room[i] = ^room[i]
			}
		}
		if Sum(b) != sum || More(77, b) != more {
			t.Errorf("P502: the sums of %d bytes hang on the memory beside them", n)
		}
	}
}

// TestNotKept turns a row that was asked: the next call must read what stands there now.
func TestNotKept(t *testing.T) {
	for _, n := range lengths[1:] {
		b := row(2, n)
		Sum(b)
		More(5, b)
		b[n/2] ^= 0x10
		if got, want := Sum(b), crc32.ChecksumIEEE(b); got != want {
			t.Errorf("P502: Sum of %d turned bytes is %08x, not %08x", n, got, want)
		}
		if got, want := More(5, b), crc32.Update(5, crc32.IEEETable, b); got != want {
			t.Errorf("P502: More of %d turned bytes is %08x, not %08x", n, got, want)
		}
	}
}

// TestOnlyArguments calls in several orders: an answer that hung on an earlier call would differ.
func TestOnlyArguments(t *testing.T) {
	type answer struct{ sum, more uint32 }
	ask := func(i int) answer {
		b := row(uint32(i), lengths[i%len(lengths)])
		return answer{Sum(b), More(sums[i%len(sums)], b)}
	}
	var first [60]answer
	for i := range first {
		first[i] = ask(i)
	}
	for i := range first {
		for j := range first {
			ask(j)
			if got := ask(i); got != first[i] {
				t.Errorf("P502: call %d behind call %d: %v, not %v", i, j, got, first[i])
			}
		}
	}
}
