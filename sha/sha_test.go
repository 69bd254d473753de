package sha

import (
	"bytes"
	"crypto/sha256"
	"encoding"
	"encoding/binary"
	"encoding/hex"
	"hash"
	"math"
	"slices"
	"strings"
	"testing"

	"waterline/api"
	"waterline/turn"
)

// edges are the lengths around which a block, or the room for the length within it, ends.
var edges = []int{0, 1, 55, 56, 63, 64, 65, 119, 120, 127, 128, 129}

// row makes n bytes that differ from those of another seed.
func row(seed uint32, n int) []byte {
	out := make([]byte, n)
	for i := range out {
		seed = seed*1664525 + 1013904223
		out[i] = byte(seed >> 24)
	}
	return out
}

// written makes a Stream to which each part was written.
func written(parts ...[]byte) *Stream {
	s := New()
	for _, p := range parts {
		s.Write(p)
	}
	return s
}

// saved lays a Save out by hand.
func saved(words []byte, count uint64, rest []byte) []byte {
	return slices.Concat(words, binary.BigEndian.AppendUint64(nil, count), rest)
}

// oracle makes the library's hash of a Save's state: the one way to ask it about any words and any count.
func oracle(t *testing.T, save []byte) hash.Hash {
	t.Helper()
	state := slices.Concat([]byte("sha\x03"), save[:32], save[40:], make([]byte, 64-len(save[40:])), save[32:40])
	h := sha256.New()
	if err := h.(encoding.BinaryUnmarshaler).UnmarshalBinary(state); err != nil {
		t.Fatal(err)
	}
	return h
}

// restored is Restore of what must be a Save.
func restored(t *testing.T, b []byte) *Stream {
	t.Helper()
	s, e := Restore(b)
	if e != api.OK || s == nil {
		t.Fatalf("P301: Restore of %x: %v, %v", b, s, e)
	}
	return s
}

func TestKnownHashes(t *testing.T) {
	for _, x := range []struct{ text, want string }{
		{"abc", "ba7816bf8f01cfea414140de5dae2223b00361a396177a9cb410ff61f20015ad"},
		{"", "e3b0c44298fc1c149afbf4c8996fb92427ae41e4649b934ca495991b7852b855"},
		{"a", "ca978112ca1bbdcafac231b39a23dc4da786eff8147c4e72b9807785afee48bb"},
		{"\x00", "6e340b9cffb37a989ca544e6bb780a2c78901d3fb33738768511a30617afa01d"},
		{"\xbd", "68325720aabd7c82f30f554b313d0570c95accbb7dc4b5aae11204c08ffe732b"},
		{"message digest", "f7846f55cf23e14eebeab5b4e1550cad5b509e3348fbc4efa3a1413d393cb650"},
		{"abcdbcdecdefdefgefghfghighijhijkijkljklmklmnlmnomnopnopq", "248d6a61d20638b8e5c026930c3e6039a33ce45964ff2167f6ecedd419db06c1"},
		{"abcdefghbcdefghicdefghijdefghijkefghijklfghijklmghijklmnhijklmnoijklmnopjklmnopqklmnopqrlmnopqrsmnopqrstnopqrstu", "cf5b16a778af8380036ce59e7b0492370b249b11e8f07a51afac45037afee9d1"},
		{strings.Repeat("a", 1000000), "cdc76e5c9914fb9281a1c7e284d73e67f1809a48a497200e046d39ccc7112cd0"},
	} {
		for way, got := range [][32]byte{Sum([]byte(x.text)), written([]byte(x.text)).Sum()} {
			if hex.EncodeToString(got[:]) != x.want {
				t.Errorf("P301: way %d: Sum of %d bytes %.8q is %x, not %s", way, len(x.text), x.text, got, x.want)
			}
		}
	}
}

func TestSumOfLengths(t *testing.T) {
	lengths := slices.Clone(edges)
	for n := range 400 {
		lengths = append(lengths, n)
	}
	lengths = append(lengths, 4095, 4096, 4097, 100000)
	for _, n := range lengths {
		for _, b := range [][]byte{make([]byte, n), bytes.Repeat([]byte{255}, n), row(uint32(n), n)} {
			if got := Sum(b); got != sha256.Sum256(b) {
				t.Fatalf("P301: Sum of %d bytes is %x, not %x", n, got, sha256.Sum256(b))
			}
		}
	}
}

// TestCutInThree writes rows of the edges' lengths in three parts, cut at any two places (so parts of no bytes are among them).
func TestCutInThree(t *testing.T) {
	for _, n := range edges {
		b := row(uint32(n), n)
		want := sha256.Sum256(b)
		for i := 0; i <= n; i++ {
			for j := i; j <= n; j++ {
				if got := written(b[:i], b[i:j], b[j:]).Sum(); got != want {
					t.Fatalf("P301: %d bytes, cut at %d and %d: %x, not %x", n, i, j, got, want)
				}
			}
		}
	}
}

// TestEvenParts writes a long row in parts of one length each, with parts of no bytes between.
func TestEvenParts(t *testing.T) {
	b := row(7, 1000)
	want := sha256.Sum256(b)
	for n := 1; n <= 200; n++ {
		s := written(nil, []byte{})
		for part := range slices.Chunk(b, n) {
			s.Write(part)
			s.Write(nil)
			s.Write(part[:0])
		}
		if got := s.Sum(); got != want {
			t.Errorf("P301: parts of %d bytes: %x, not %x", n, got, want)
		}
	}
}

func TestOrderCounts(t *testing.T) {
	if written([]byte("a"), []byte("b")).Sum() == written([]byte("b"), []byte("a")).Sum() {
		t.Error("P301: the bytes are not taken in order")
	}
}

// TestAskingTurnsNothing holds a Stream that is asked behind each part against one that is asked at the end alone.
func TestAskingTurnsNothing(t *testing.T) {
	var asked Stream
	quiet, all := New(), []byte{}
	for i := range 150 {
		part := row(uint32(i), i%23)
		asked.Write(part)
		quiet.Write(part)
		all = append(all, part...)
		before := asked
		first, save := asked.Sum(), asked.Save()
		if first != sha256.Sum256(all) {
			t.Fatalf("P301: Sum behind %d bytes is %x", len(all), first)
		}
		if again := asked.Sum(); again != first || !bytes.Equal(asked.Save(), save) || asked != before {
			t.Fatalf("P301: Sum or Save turned the stream behind %d bytes", len(all))
		}
	}
	if asked.Sum() != quiet.Sum() || !bytes.Equal(asked.Save(), quiet.Save()) {
		t.Error("P301: a stream that was asked differs from one that was not")
	}
}

// TestSave lays each part of a Save out by hand; the words come from the library's state.
func TestSave(t *testing.T) {
	start, _ := hex.DecodeString("6a09e667bb67ae853c6ef372a54ff53a510e527f9b05688c1f83d9ab5be0cd19")
	if got := New().Save(); !bytes.Equal(got, saved(start, 0, nil)) {
		t.Errorf("P301: Save of a new stream is %x", got)
	}
	if got := written([]byte("abc")).Save(); !bytes.Equal(got, saved(start, 3, []byte("abc"))) {
		t.Errorf("P301: Save behind abc is %x", got)
	}
	for n := range 400 {
		b := row(uint32(n), n)
		h := sha256.New()
		h.Write(b)
		state, err := h.(encoding.BinaryMarshaler).MarshalBinary()
		if err != nil {
			t.Fatal(err)
		}
		want := saved(state[4:36], uint64(n), b[n-n%64:])
		if got := written(b).Save(); !bytes.Equal(got, want) {
			t.Fatalf("P301: Save behind %d bytes is %x, not %x", n, got, want)
		}
	}
}

// TestSaveAndRestore goes on behind each number of bytes, on the stream itself and on the restored one, in turns.
func TestSaveAndRestore(t *testing.T) {
	for n := range 200 {
		for _, more := range append(slices.Clone(edges), 2, 7, 200) {
			b, then := row(uint32(n), n), row(uint32(more)+1000, more)
			s := written(b)
			r := restored(t, s.Save())
			if r == s || r.Sum() != sha256.Sum256(b) || !bytes.Equal(r.Save(), s.Save()) {
				t.Fatalf("P301: Restore behind %d bytes is another stream", n)
			}
			want := sha256.Sum256(slices.Concat(b, then))
			r.Write(then)
			if r.Sum() != want || s.Sum() != sha256.Sum256(b) {
				t.Fatalf("P301, P302: %d bytes, and %d to the restored one: %x, and %x", n, more, r.Sum(), s.Sum())
			}
			s.Write(then[:more/2])
			s.Write(then[more/2:])
			if s.Sum() != want || r.Sum() != want || !bytes.Equal(s.Save(), r.Save()) {
				t.Fatalf("P301, P302: %d bytes, and %d to both: %x, and %x", n, more, r.Sum(), s.Sum())
			}
		}
	}
}

// TestManyRestores carries one hash through a Save behind each byte.
func TestManyRestores(t *testing.T) {
	s, b := New(), row(5, 300)
	for i := range b {
		s.Write(b[i : i+1])
		s = restored(t, s.Save())
		if got := s.Sum(); got != sha256.Sum256(b[:i+1]) {
			t.Fatalf("P301: behind %d restores: %x", i+1, got)
		}
	}
}

func TestRestoreRefuses(t *testing.T) {
	words := row(1, 32)
	refuse := func(what string, b []byte) {
		t.Helper()
		if s, e := Restore(b); s != nil || e != api.ErrBytes {
			t.Errorf("P301: Restore of %s (%d bytes): %v, %v", what, len(b), s, e)
		}
	}
	for n := range 40 {
		refuse("a row that is too short", make([]byte, n))
		refuse("a Save that is cut off", New().Save()[:n])
		refuse("a Save that is cut off, with the rest as spare room", written(row(2, 100)).Save()[:n])
	}
	for n := range 200 {
		save := written(row(3, n)).Save()
		refuse("a Save and a byte more", append(slices.Clone(save), 0))
		refuse("a Save and a block more", append(slices.Clone(save), make([]byte, 64)...))
		if n%64 > 0 {
			refuse("a Save and a byte less", save[:len(save)-1])
		}
	}
	for _, count := range []uint64{1 << 61, 1<<61 + 1, 1<<61 + 63, 1 << 62, 1 << 63, 1<<63 + 5, math.MaxUint64} {
		refuse("a count that is too great", saved(words, count, row(1, int(count%64))))
		refuse("a count that is too great, and no bytes", saved(words, count, nil))
	}
	refuse("a million bytes", make([]byte, 1000000))
}

// TestRestoreCounts tries each number of bytes behind counts of each remainder: one fits, and no other.
func TestRestoreCounts(t *testing.T) {
	words := row(4, 32)
	for _, base := range []uint64{0, 64, 1 << 8, 1 << 16, 1 << 31, 1 << 32, 1 << 40, 1<<61 - 64} {
		for left := range 64 {
			for n := range 130 {
				count := base + uint64(left)
				b := saved(words, count, row(uint32(n), n))
				s, e := Restore(b)
				switch {
				case n != left && (s != nil || e != api.ErrBytes):
					t.Fatalf("P301: Restore of the count %d with %d bytes: %v", count, n, e)
				case n == left && (e != api.OK || !bytes.Equal(s.Save(), b)):
					t.Fatalf("P301: Restore of the count %d: %v", count, e)
				}
			}
		}
	}
}

// TestRestoreAnyWords asks the library what comes of words that no bytes ever made, at the least and the greatest counts among others.
func TestRestoreAnyWords(t *testing.T) {
	rows := [][]byte{make([]byte, 32), bytes.Repeat([]byte{255}, 32), row(1, 32), row(2, 32), row(3, 32)}
	counts := []uint64{0, 1, 55, 56, 63, 64, 119, 120, 1<<29 - 1, 1 << 29, 1 << 32, 1<<32 + 57, 1<<53 + 5, 1<<60 + 3, 1<<61 - 64, 1<<61 - 2, 1<<61 - 1}
	for _, words := range rows {
		for _, count := range counts {
			for _, more := range []int{0, 1, 2, 9, 63, 64, 65, 200} {
				b := saved(words, count, row(9, int(count%64)))
				s, h := restored(t, b), oracle(t, b)
				if got := s.Sum(); got != [32]byte(h.Sum(nil)) {
					t.Fatalf("P301: words %x, count %d: Sum is %x", words, count, got)
				}
				then := row(8, more)
				s.Write(then)
				h.Write(then)
				if got := s.Sum(); got != [32]byte(h.Sum(nil)) {
					t.Fatalf("P301: words %x, count %d and %d: Sum is %x", words, count, more, got)
				}
				if got := binary.BigEndian.Uint64(s.Save()[32:]); got != count+uint64(more) {
					t.Fatalf("P301: words %x, count %d and %d: Save counts %d", words, count, more, got)
				}
			}
		}
	}
}

// TestCountGoesOn writes beyond the greatest count: the stream stays right, its bits wrap round to 0, and its Save is one that Restore refuses.
func TestCountGoesOn(t *testing.T) {
	b := saved(row(6, 32), 1<<61-1, row(7, 63))
	s := restored(t, b)
	s.Write([]byte{5})
	words := s.words
	save := s.Save()
	if len(save) != 40 || !bytes.Equal(save[32:], []byte{0x20, 0, 0, 0, 0, 0, 0, 0}) {
		t.Errorf("P301: Save beyond the greatest count is %x", save)
	}
	if r, e := Restore(save); r != nil || e != api.ErrBytes {
		t.Errorf("P301: Restore beyond the greatest count: %v, %v", r, e)
	}
	end := make([]byte, 64) // the last block: a 1 bit, and a length of 0
	end[0] = 0x80
	var want [32]byte
	for i, w := range fold(words, end) {
		copy(want[4*i:], turn.Bytes(w))
	}
	if got := s.Sum(); got != want {
		t.Errorf("P301: Sum of 2^61 bytes is %x, not %x", got, want)
	}
}

// TestStreamsApart writes to several streams in turns, restored, declared and copied ones among them; each must be as of its own bytes.
func TestStreamsApart(t *testing.T) {
	var declared Stream
	begun := written(row(1, 70))
	copied := *begun
	streams := []*Stream{New(), New(), &declared, begun, &copied, restored(t, begun.Save()), restored(t, begun.Save())}
	var texts [7][]byte
	for i := 3; i < len(streams); i++ {
		texts[i] = row(1, 70)
	}
	for round := range 60 {
		i := round * 5 % len(streams)
		part := row(uint32(round), round*7%90)
		streams[i].Write(part)
		texts[i] = append(texts[i], part...)
		for j, s := range streams {
			if got := s.Sum(); got != sha256.Sum256(texts[j]) {
				t.Fatalf("P302: stream %d, behind a write to stream %d: %x", j, i, got)
			}
		}
	}
}

// TestHandedInStays looks at what is handed in and at its spare room, and turns both then: nothing may turn with them.
func TestHandedInStays(t *testing.T) {
	for _, n := range append(slices.Clone(edges), 40, 41, 100, 200) {
		room := row(uint32(n), n+200)
		before := slices.Clone(room)
		want := sha256.Sum256(before[:n])
		s := New()
		s.Write(room[:n])
		if Sum(room[:n]) != want || s.Sum() != want || !bytes.Equal(room, before) {
			t.Fatalf("P302: Sum or Write of %d bytes: what was handed in was changed", n)
		}
		save := append(s.Save(), row(9, 200)...)
		before = slices.Clone(save)
		r := restored(t, save[:40+n%64])
		r.Write(room[:0])
		if !bytes.Equal(save, before) {
			t.Fatalf("P302: Restore behind %d bytes: what was handed in was changed", n)
		}
		for _, b := range [][]byte{room, save} {
			for i := range b {
				b[i] ^= 0x55
			}
		}
		if s.Sum() != want || r.Sum() != want {
			t.Fatalf("P302: behind %d bytes: a stream turned with what was handed in", n)
		}
	}
}

// TestNewMemory turns what Save answers, with its spare room: neither the stream nor another answer may turn with it.
func TestNewMemory(t *testing.T) {
	for _, n := range edges {
		b := row(uint32(n), n)
		s := written(b)
		want := slices.Clone(s.Save())
		earlier, answer := s.Save(), s.Save()
		r := restored(t, answer)
		whole := answer[:cap(answer)]
		for i := range whole {
			whole[i] ^= 0x55
		}
		if !bytes.Equal(earlier, want) || !bytes.Equal(s.Save(), want) || !bytes.Equal(r.Save(), want) {
			t.Errorf("P302: behind %d bytes: a Save turned with another", n)
		}
		if s.Sum() != sha256.Sum256(b) || r.Sum() != sha256.Sum256(b) {
			t.Errorf("P302: behind %d bytes: a stream turned with its Save", n)
		}
		s.Write(row(1, 100))
		if !bytes.Equal(earlier, want) {
			t.Errorf("P302: behind %d bytes: a Save turned with its stream", n)
		}
	}
}

// TestNewStreams has no two calls answer one stream, of no bytes either.
func TestNewStreams(t *testing.T) {
	a, b := New(), New()
	save := a.Save()
	c, d := restored(t, save), restored(t, save)
	a.Write([]byte("a"))
	c.Write([]byte("c"))
	none := sha256.Sum256(nil)
	if a == b || c == d || b.Sum() != none || d.Sum() != none || New().Sum() != none {
		t.Error("P302: two streams have something in common")
	}
}

// TestOnlyArguments calls in several orders: an answer that hung on an earlier call would differ.
func TestOnlyArguments(t *testing.T) {
	for _, i := range edges {
		for _, j := range edges {
			Sum(row(1, j))
			Restore(row(2, j))
			written(row(3, j)).Sum()
			if b := row(4, i); Sum(b) != sha256.Sum256(b) || written(b).Sum() != sha256.Sum256(b) {
				t.Errorf("P302: Sum of %d bytes behind calls with %d is another", i, j)
			}
		}
	}
}

// TestNoStream asks a nil stream, ahead of each call and behind it, and one that was only declared.
func TestNoStream(t *testing.T) {
	var none *Stream
	none.Write(nil)
	for _, part := range [][]byte{nil, {}, []byte("abc"), row(1, 64), row(2, 1000)} {
		before := slices.Clone(part)
		none.Write(part)
		if !bytes.Equal(part, before) {
			t.Errorf("P302: Write to a nil stream changed what was handed in")
		}
		if got := none.Sum(); got != sha256.Sum256(nil) {
			t.Errorf("P302: Sum of a nil stream is %x", got)
		}
		if got := none.Save(); !bytes.Equal(got, New().Save()) {
			t.Errorf("P302: Save of a nil stream is %x", got)
		}
	}
	none.Save()[0]++
	r := restored(t, none.Save())
	r.Write([]byte("abc"))
	if r.Sum() != sha256.Sum256([]byte("abc")) || none.Sum() != sha256.Sum256(nil) || New().Sum() != none.Sum() {
		t.Error("P302: a nil stream's Save, restored, is not as of no bytes")
	}
	var declared Stream
	if declared.Sum() != none.Sum() || !bytes.Equal(declared.Save(), none.Save()) {
		t.Error("P301: a stream that was only declared is not as of no bytes")
	}
	declared.Write([]byte("abc"))
	if declared.Sum() != sha256.Sum256([]byte("abc")) {
		t.Errorf("P301: abc, written to a stream that was only declared: %x", declared.Sum())
	}
}
