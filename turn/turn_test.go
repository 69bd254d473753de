package turn

import (
	"bytes"
	"math"
	"slices"
	"testing"
)

func TestRight(t *testing.T) {
	for _, x := range []struct {
		x    uint32
		n    int
		want uint32
	}{
		{1, 1, 0x80000000}, {0x12345678, 4, 0x81234567}, {0x12345678, 8, 0x78123456}, {0x12345678, 16, 0x56781234}, {0xdeadbeef, 12, 0xeefdeadb},
		{0, 7, 0}, {math.MaxUint32, 7, math.MaxUint32},
		{0x80000001, 0, 0x80000001}, {0x80000001, 1, 0xc0000000}, {0x80000001, 31, 3}, {0x80000001, 32, 0x80000001}, {0x80000001, 33, 0xc0000000},
		{0x12345678, 63, 0x2468acf0}, {0x12345678, 64, 0x12345678}, {0x12345678, 65, 0x091a2b3c},
		{0x80000001, -1, 3}, {0x80000001, -31, 0xc0000000}, {0x80000001, -32, 0x80000001}, {0x80000001, -33, 3}, {0x12345678, -4, 0x23456781}, {0x12345678, -8, 0x34567812}, {0x12345678, -64, 0x12345678},
		{0x12345678, 256, 0x12345678}, {0x12345678, 260, 0x81234567}, {0x12345678, -260, 0x23456781}, // beyond a byte
		{1, 1<<32 + 1, 0x80000000}, {1, -(1<<32 + 1), 2}, {1, 1<<40 + 2, 0x40000000}, // beyond a word
		{0x12345678, math.MinInt, 0x12345678}, {0x12345678, math.MinInt + 1, 0x091a2b3c}, {0x12345678, math.MinInt + 4, 0x81234567},
		{0x12345678, math.MaxInt, 0x2468acf0}, {0x12345678, math.MaxInt - 3, 0x23456781},
	} {
		if got := Right(x.x, x.n); got != x.want {
			t.Errorf("P201: Right(%#08x, %d) is %#08x, not %#08x", x.x, x.n, got, x.want)
		}
	}
}

// TestRightEveryBit follows each bit alone by each of many numbers: bit i of x must stand n lower, modulo 32, and no other.
func TestRightEveryBit(t *testing.T) {
	for i := range 32 {
		for n := -100; n <= 100; n++ {
			place := ((i-n)%32 + 32) % 32
			x, want := uint32(1)<<i, uint32(1)<<place
			if got := Right(x, n); got != want {
				t.Fatalf("P201: Right(%#08x, %d) is %#08x, not %#08x", x, n, got, want)
			}
			if got := Right(^x, n); got != ^want {
				t.Fatalf("P201: Right(%#08x, %d) is %#08x, not %#08x", ^x, n, got, ^want)
			}
		}
	}
}

func TestBig(t *testing.T) {
	for _, x := range []struct {
		b    []byte
		want uint32
	}{
		{nil, 0}, {[]byte{}, 0},
		{[]byte{1}, 0x01000000}, {[]byte{0xff}, 0xff000000}, {[]byte{1, 2}, 0x01020000}, {[]byte{1, 2, 3}, 0x01020300},
		{[]byte{1, 2, 3, 4}, 0x01020304}, {[]byte{0xff, 0xfe, 0xfd, 0xfc}, 0xfffefdfc}, {[]byte{0x80, 0, 0, 0}, 0x80000000}, {[]byte{0, 0, 0, 1}, 1},
		{[]byte{0, 0, 0, 0}, 0}, {[]byte{255, 255, 255, 255}, math.MaxUint32},
		{[]byte{1, 2, 3, 4, 5}, 0x01020304}, {[]byte{1, 2, 3, 4, 5, 6, 7, 8}, 0x01020304}, {[]byte{0, 0, 0, 0, 255}, 0},
		{append([]byte{9, 8, 7, 6}, make([]byte, 100000)...), 0x09080706},
	} {
		if got := Big(x.b); got != x.want {
			t.Errorf("P201: Big of %d bytes %v is %#08x, not %#08x", len(x.b), x.b[:min(8, len(x.b))], got, x.want)
		}
	}
}

// TestBigSpareRoom has bytes behind a row's end: they are missing, not the row's.
func TestBigSpareRoom(t *testing.T) {
	room := []byte{1, 2, 3, 4, 5}
	for n, want := range []uint32{0, 0x01000000, 0x01020000, 0x01020300, 0x01020304, 0x01020304} {
		if got := Big(room[:n]); got != want {
			t.Errorf("P201: Big of %d bytes with spare room is %#08x, not %#08x", n, got, want)
		}
	}
}

func TestBytes(t *testing.T) {
	for _, x := range []struct {
		x    uint32
		want []byte
	}{
		{0, []byte{0, 0, 0, 0}}, {1, []byte{0, 0, 0, 1}}, {0x01020304, []byte{1, 2, 3, 4}}, {0xfffefdfc, []byte{0xff, 0xfe, 0xfd, 0xfc}}, {0x89abcdef, []byte{0x89, 0xab, 0xcd, 0xef}},
		{0x80000000, []byte{0x80, 0, 0, 0}}, {0x100, []byte{0, 0, 1, 0}}, {0x10000, []byte{0, 1, 0, 0}}, {0xff00ff, []byte{0, 255, 0, 255}},
		{math.MaxUint32, []byte{255, 255, 255, 255}},
	} {
		if got := Bytes(x.x); !slices.Equal(got, x.want) {
			t.Errorf("P201: Bytes(%#08x) is %v, not %v", x.x, got, x.want)
		}
	}
}

// TestThereAndBack goes through words with each bit alone and without it, and a long walk of others.
func TestThereAndBack(t *testing.T) {
	words := []uint32{0, 1, 0x01020304, 0x89abcdef, math.MaxUint32}
	for i := range 32 {
		words = append(words, 1<<i, ^(uint32(1) << i))
	}
	for i, x := 0, uint32(1); i < 100000; i++ {
		x = x*1664525 + 1013904223
		words = append(words, x)
	}
	for _, x := range words {
		b := Bytes(x)
		if len(b) != 4 || Big(b) != x {
			t.Fatalf("P201: Big(Bytes(%#08x)) is %#08x by %v", x, Big(b), b)
		}
		if again := Bytes(Big(b)); !bytes.Equal(again, b) {
			t.Fatalf("P201: Bytes(Big(%v)) is %v", b, again)
		}
	}
}

// TestOnlyArguments calls in several orders: an answer that hung on an earlier call would differ.
func TestOnlyArguments(t *testing.T) {
	words := []uint32{0, 1, 0x80000001, 0x12345678, math.MaxUint32}
	numbers := []int{0, 1, -1, 33, math.MinInt, math.MaxInt}
	type answer struct {
		right, big uint32
		bytes      [4]byte
	}
	ask := func(x uint32, n int) answer {
		row := []byte{byte(x), byte(n), byte(x >> 8)}
		return answer{Right(x, n), Big(row), [4]byte(Bytes(x))}
	}
	var first []answer
	for _, x := range words {
		for _, n := range numbers {
			first = append(first, ask(x, n))
		}
	}
	for i := range first {
		for j := range first {
			ask(words[j/len(numbers)], numbers[j%len(numbers)])
			if got := ask(words[i/len(numbers)], numbers[i%len(numbers)]); got != first[i] {
				t.Errorf("P202: call %d behind call %d: %v, not %v", i, j, got, first[i])
			}
		}
	}
}

// TestHandedInStays looks at the row that Big is given and at its spare room, and turns them then: what was answered must stand, and a later call must read the new bytes.
func TestHandedInStays(t *testing.T) {
	for n := range 9 {
		room := []byte{1, 2, 3, 4, 5, 6, 7, 8, 9, 10}
		before := slices.Clone(room)
		first := Big(room[:n])
		if !slices.Equal(room, before) {
			t.Errorf("P202: Big of %d bytes changed them or their spare room: %v", n, room)
		}
		for i := range room {
			room[i] = ^room[i]
		}
		mask := Big(bytes.Repeat([]byte{255}, n))
		if got := Big(room[:n]); got != ^first&mask {
			t.Errorf("P202: Big of %d bytes kept them: %#08x behind %#08x", n, got, first)
		}
	}
}

// TestNewMemory turns an answer, and its spare room, too: no other answer, earlier or later, may turn with it. (The earlier one is looked at ahead of the next call, which would mend a row that all calls share.)
func TestNewMemory(t *testing.T) {
	for _, x := range []uint32{0, 1, 0x01020304, math.MaxUint32} {
		want := []byte{byte(x >> 24), byte(x >> 16), byte(x >> 8), byte(x)}
		earlier, other := Bytes(x), Bytes(^x)
		if !slices.Equal(earlier, want) {
			t.Errorf("P202: Bytes(%#08x) turned with another call: %v", x, earlier)
		}
		same := Bytes(x)
		for _, b := range [][]byte{other, same} {
			whole := b[:cap(b)]
			for i := range whole {
				whole[i] ^= 0x55
			}
		}
		if !slices.Equal(earlier, want) {
			t.Errorf("P202: Bytes(%#08x) turned with another answer: %v", x, earlier)
		}
		if later := Bytes(x); !slices.Equal(later, want) {
			t.Errorf("P202: Bytes(%#08x) is %v when an earlier answer was turned", x, later)
		}
	}
}
