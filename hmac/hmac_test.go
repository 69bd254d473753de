package hmac

import (
	"bytes"
	stdhmac "crypto/hmac"
	"crypto/sha256"
	"encoding/hex"
	"slices"
	"strings"
	"testing"
)

// keyLengths and lengths are those around which a block, or the room for the length within it, ends.
var (
	keyLengths = []int{0, 1, 31, 32, 63, 64, 65, 128, 200}
	lengths    = []int{0, 1, 55, 56, 63, 64, 65, 128, 300}
)

// row makes n bytes that differ from those of another seed.
func row(seed uint32, n int) []byte {
	out := make([]byte, n)
	for i := range out {
		seed = seed*1664525 + 1013904223
		out[i] = byte(seed >> 24)
	}
	return out
}

// oracle is the library's tag.
func oracle(key, b []byte) [32]byte {
	h := stdhmac.New(sha256.New, key)
	h.Write(b)
	return [32]byte(h.Sum(nil))
}

// turned turns all of b in place, its spare room too.
func turned(b []byte) {
	whole := b[:cap(b)]
	for i := range whole {
		whole[i] ^= 0x55
	}
}

// TestKnownTags has the whole tags of RFC 4231, and two others that are widely known, the one of no bytes under no key among them.
func TestKnownTags(t *testing.T) {
	for i, x := range []struct{ key, text, want string }{
		{"", "", "b613679a0814d9ec772f95d778c35fc5ff1697c493715653c6c712144292c5ad"},
		{"key", "The quick brown fox jumps over the lazy dog", "f7bc83f430538424b13298e6aa6fb143ef4d59a14946175997479dbc2d1a3cd8"},
		{strings.Repeat("\x0b", 20), "Hi There", "b0344c61d8db38535ca8afceaf0bf12b881dc200c9833da726e9376c2e32cff7"},
		{"Jefe", "what do ya want for nothing?", "5bdcc146bf60754e6a042426089575c75a003f089d2739839dec58b964ec3843"},
		{strings.Repeat("\xaa", 20), strings.Repeat("\xdd", 50), "773ea91e36800e46854db8ebd09181a72959098b3ef8c122d9635514ced565fe"},
		{"\x01\x02\x03\x04\x05\x06\x07\x08\x09\x0a\x0b\x0c\x0d\x0e\x0f\x10\x11\x12\x13\x14\x15\x16\x17\x18\x19", strings.Repeat("\xcd", 50), "82558a389a443c0ea4cc819899f2083a85f0faa3e578f8077a2e3ff46729665b"},
		{strings.Repeat("\xaa", 131), "Test Using Larger Than Block-Size Key - Hash Key First", "60e431591ee0b67f0d8a26aacbf5b77f8e0bc6213728c5140546040f0ee37f54"},
		{strings.Repeat("\xaa", 131), "This is a test using a larger than block-size key and a larger than block-size data. The key needs to be hashed before being used by the HMAC algorithm.", "9b09ffa71b942fcb27635fbcd5b0e944bfdc63644f0713938a7f51535c3a35e2"},
	} {
		if got := Tag([]byte(x.key), []byte(x.text)); hex.EncodeToString(got[:]) != x.want {
			t.Errorf("P401: known tag %d is %x, not %s", i, got, x.want)
		}
	}
}

func TestTagOfLengths(t *testing.T) {
	for _, k := range keyLengths {
		for _, n := range lengths {
			for _, key := range [][]byte{make([]byte, k), bytes.Repeat([]byte{255}, k), row(uint32(k)+7, k)} {
				for _, b := range [][]byte{make([]byte, n), bytes.Repeat([]byte{255}, n), row(uint32(n), n)} {
					if got, want := Tag(key, b), oracle(key, b); got != want {
						t.Fatalf("P401: Tag of %d bytes under a key of %d is %x, not %x", n, k, got, want)
					}
				}
			}
		}
	}
}

// TestTagOfManyLengths goes through all lengths around one, two and three blocks, one after the other.
func TestTagOfManyLengths(t *testing.T) {
	for n := range 210 {
		key, b := row(uint32(n)+1000, n), row(uint32(n), n)
		if got := Tag(key, b[:n/2]); got != oracle(key, b[:n/2]) {
			t.Fatalf("P401: Tag of %d bytes under a key of %d is %x", n/2, n, got)
		}
		if got := Tag(key[:n/3], b); got != oracle(key[:n/3], b) {
			t.Fatalf("P401: Tag of %d bytes under a key of %d is %x", n, n/3, got)
		}
	}
	long := row(5, 100000)
	if Tag(long, long) != oracle(long, long) {
		t.Error("P401: Tag of 100000 bytes under a key of as many")
	}
}

// TestKeyFilledUp lays bytes 0 behind keys: up to 64 bytes they turn nothing, beyond that they are another key.
func TestKeyFilledUp(t *testing.T) {
	b := row(1, 70)
	for k := 0; k <= 64; k++ {
		key := row(uint32(k), k)
		want := Tag(key, b)
		for n := k; n <= 64; n++ {
			filled := append(slices.Clone(key), make([]byte, n-k)...)
			if got := Tag(filled, b); got != want {
				t.Fatalf("P401: a key of %d bytes, filled up to %d: %x, not %x", k, n, got, want)
			}
		}
		beyond := append(slices.Clone(key), make([]byte, 65-k)...)
		if Tag(beyond, b) == want {
			t.Fatalf("P401: a key of %d bytes, filled up to 65, is as the key", k)
		}
		if k > 0 && Tag(append([]byte{0}, key[:k-1]...), b) == want {
			t.Fatalf("P401: a key of %d bytes is as one with a byte 0 ahead of it", k)
		}
	}
}

// TestKeyHashed holds keys against their hashes: beyond 64 bytes both are one, up to 64 they are not.
func TestKeyHashed(t *testing.T) {
	b := row(2, 70)
	for k := range 200 {
		key := row(uint32(k), k)
		hash := sha256.Sum256(key)
		if got := Tag(key, b) == Tag(hash[:], b); got != (k > 64) {
			t.Errorf("P401: a key of %d bytes is as its hash: %v", k, got)
		}
	}
}

// TestEachBitCounts turns one bit of the key, or of the bytes, at each place of them.
func TestEachBitCounts(t *testing.T) {
	for _, n := range []int{1, 32, 64, 65, 130} {
		key, b := row(3, n), row(4, n)
		want := Tag(key, b)
		for i := range 8 * n {
			for what, part := range [][]byte{key, b} {
				part[i/8] ^= 1 << (i % 8)
				got := Tag(key, b)
				if got == want || got != oracle(key, b) {
					t.Fatalf("P401: bit %d of part %d, of %d bytes, is wrong in the tag", i, what, n)
				}
				part[i/8] ^= 1 << (i % 8)
			}
		}
	}
}

func TestKeyAndBytesApart(t *testing.T) {
	if Tag([]byte("k"), []byte("ab")) == Tag([]byte("ka"), []byte("b")) {
		t.Error("P401: a byte of the key is as one of the bytes")
	}
	if Tag([]byte("a"), []byte("b")) == Tag([]byte("b"), []byte("a")) {
		t.Error("P401: the key and the bytes are as one")
	}
}

func TestNilIsNoBytes(t *testing.T) {
	some := row(6, 40)
	none := some[:0]
	for _, x := range []struct {
		what string
		a, b [32]byte
	}{
		{"a nil key", Tag(nil, some), Tag([]byte{}, some)},
		{"a nil key beside one with spare room", Tag(nil, some), Tag(none, some)},
		{"nil bytes", Tag(some, nil), Tag(some, []byte{})},
		{"nil bytes beside some with spare room", Tag(some, nil), Tag(some, none)},
		{"both", Tag(nil, nil), Tag([]byte{}, []byte{})},
		{"both, beside rows with spare room", Tag(nil, nil), Tag(none, none)},
	} {
		if x.a != x.b {
			t.Errorf("P401: %s: %x, not %x", x.what, x.a, x.b)
		}
	}
	if Tag(nil, some) != oracle(nil, some) || Tag(some, nil) != oracle(some, nil) {
		t.Error("P401: a nil key or nil bytes are not as rows of no bytes")
	}
}

func TestSame(t *testing.T) {
	room := []byte{1, 2, 3}
	for i, x := range []struct {
		a, b []byte
		want bool
	}{
		{nil, nil, true}, {nil, []byte{}, true}, {[]byte{}, []byte{}, true}, {nil, room[:0], true},
		{nil, []byte{0}, false}, {[]byte{}, []byte{0}, false}, {nil, []byte{0, 0}, false},
		{[]byte{0}, []byte{0}, true}, {[]byte{255}, []byte{255}, true}, {[]byte{0}, []byte{255}, false},
		{room[:2], []byte{1, 2}, true}, {room[:2], room, false}, {room, room, true}, {room[:1], room[1:2], false},
		{[]byte{1, 2}, []byte{2, 1}, false}, {[]byte{1, 2}, []byte{3, 0}, false}, {[]byte{1, 1}, []byte{2, 2}, false}, {[]byte{5, 5}, []byte{6, 6}, false},
		{[]byte{128, 128}, []byte{0, 0}, false}, // the differences add up to 256
		{[]byte("tag"), []byte("tag"), true}, {[]byte("tag"), []byte("Tag"), false}, {[]byte("tag"), []byte("gat"), false},
	} {
		if Same(x.a, x.b) != x.want || Same(x.b, x.a) != x.want {
			t.Errorf("P401: Same %d of %v and %v is not %v both ways", i, x.a, x.b, x.want)
		}
	}
}

// TestSameEachBit turns one bit at each place of rows that are the same else.
func TestSameEachBit(t *testing.T) {
	for _, n := range []int{1, 2, 8, 31, 32, 33, 64, 300} {
		for _, a := range [][]byte{make([]byte, n), bytes.Repeat([]byte{255}, n), row(uint32(n), n)} {
			b := slices.Clone(a)
			if !Same(a, b) {
				t.Fatalf("P401: Same of %d bytes and their copy is false", n)
			}
			for i := range 8 * n {
				b[i/8] ^= 1 << (i % 8)
				if Same(a, b) || Same(b, a) {
					t.Fatalf("P401: Same of %d bytes does not see bit %d", n, i)
				}
				b[i/8] ^= 1 << (i % 8)
			}
		}
	}
}

// TestSameEveryTwoBytes tries all pairs of bytes, alone and twice in a row.
func TestSameEveryTwoBytes(t *testing.T) {
	for x := range 256 {
		for y := range 256 {
			a, b := []byte{byte(x)}, []byte{byte(y)}
			if Same(a, b) != (x == y) || Same(append(a, a...), append(b, b...)) != (x == y) {
				t.Fatalf("P401: Same of the bytes %d and %d is not %v", x, y, x == y)
			}
		}
	}
}

// TestSameBeginnings holds rows against their own beginnings; where bytes 0 stand behind, too, and where the rest lies in the spare room.
func TestSameBeginnings(t *testing.T) {
	for _, whole := range [][]byte{row(7, 40), make([]byte, 40), append(row(8, 20), make([]byte, 20)...)} {
		for i := range len(whole) + 1 {
			for j := range len(whole) + 1 {
				if got := Same(whole[:i], whole[:j]); got != (i == j) {
					t.Fatalf("P401: Same of the first %d and the first %d bytes is %v", i, j, got)
				}
				if got := Same(slices.Clone(whole[:i]), slices.Clone(whole[:j])); got != (i == j) {
					t.Fatalf("P401: Same of copies of the first %d and the first %d bytes is %v", i, j, got)
				}
			}
		}
	}
	for _, more := range []int{1, 255, 256, 257, 65536} { // lengths that are one in a byte, or in two
		if a := row(9, 3); Same(a, append(slices.Clone(a), make([]byte, more)...)) {
			t.Errorf("P401: Same of 3 bytes and of them with %d bytes 0 behind is true", more)
		}
	}
}

// TestSameOfTags is what Same is for.
func TestSameOfTags(t *testing.T) {
	key, b := row(1, 32), row(2, 100)
	a, c := Tag(key, b), Tag(key, b[:99])
	again := Tag(slices.Clone(key), slices.Clone(b))
	if !Same(a[:], again[:]) || Same(a[:], c[:]) {
		t.Error("P401: Same does not tell tags apart")
	}
}

// TestHandedInStays looks at what is handed in and at its spare room; where both rows lie in one memory, too.
func TestHandedInStays(t *testing.T) {
	for _, k := range keyLengths {
		for _, n := range lengths {
			keyRoom, room := row(uint32(k), k+100), row(uint32(n), n+100)
			wasKey, was := slices.Clone(keyRoom), slices.Clone(room)
			Tag(keyRoom[:k], room[:n])
			Same(keyRoom[:k], room[:n])
			Same(room[:n], was[:n])
			if !bytes.Equal(keyRoom, wasKey) || !bytes.Equal(room, was) {
				t.Fatalf("P402: a key of %d and %d bytes: what was handed in was changed", k, n)
			}
			one := append(row(5, k), row(6, n+100)...)
			was = slices.Clone(one)
			got := Tag(one[:k], one[k:k+n])
			if got != oracle(was[:k], was[k:k+n]) || !bytes.Equal(one, was) {
				t.Fatalf("P402: a key of %d and %d bytes in one memory: %x", k, n, got)
			}
		}
	}
}

// TestNotKept turns what was handed in behind the call: what was answered stands, and a later call reads the new bytes.
func TestNotKept(t *testing.T) {
	for _, k := range keyLengths {
		for _, n := range lengths {
			key, b := row(uint32(k), k), row(uint32(n), n)
			got, want := Tag(key, b), oracle(key, b)
			turned(key)
			if got != want || Tag(key, b) != oracle(key, b) {
				t.Fatalf("P402: a key of %d bytes was kept", k)
			}
			turned(b)
			if got != want || Tag(key, b) != oracle(key, b) {
				t.Fatalf("P402: %d bytes were kept", n)
			}
			c := slices.Clone(b)
			same := Same(b, c)
			turned(c)
			if !same || Same(b, c) != (n == 0) {
				t.Fatalf("P402: Same kept %d bytes", n)
			}
		}
	}
}

// TestNewMemory turns an answer: no other, earlier or later, may turn with it.
func TestNewMemory(t *testing.T) {
	key, b := row(1, 32), row(2, 40)
	want := oracle(key, b)
	earlier, other := Tag(key, b), Tag(key, b)
	turned(other[:])
	if earlier != want || Tag(key, b) != want {
		t.Error("P402: a tag turned with another")
	}
}

// TestOnlyArguments calls in several orders: an answer that hung on an earlier call would differ.
func TestOnlyArguments(t *testing.T) {
	type pair struct{ key, b []byte }
	var pairs []pair
	for i, k := range keyLengths {
		for j, n := range lengths {
			if (i+j)%2 == 0 {
				pairs = append(pairs, pair{row(uint32(k), k), row(uint32(n), n)})
			}
		}
	}
	for i, p := range pairs {
		want := oracle(p.key, p.b)
		for j, ahead := range pairs {
			Tag(ahead.key, ahead.b)
			Same(ahead.key, ahead.b)
			if got := Tag(p.key, p.b); got != want {
				t.Fatalf("P402: Tag %d behind calls with %d is %x, not %x", i, j, got, want)
			}
			Tag(ahead.b, ahead.key)
			if Same(p.key, p.b) != bytes.Equal(p.key, p.b) || !Same(p.b, slices.Clone(p.b)) {
				t.Fatalf("P402: Same %d behind calls with %d is another", i, j)
			}
		}
	}
}
