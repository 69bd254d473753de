package manifest

import (
	"bytes"
	stdhmac "crypto/hmac"
	"crypto/sha256"
	"encoding/binary"
	"encoding/hex"
	"math"
	"slices"
	"strings"
	"testing"
	"unicode/utf8"
	"unsafe"

	"waterline/api"
)

// whole is how many bytes Bytes has.
const whole = 92

// chance makes numbers, the same ones at each run.
type chance uint64

func (c *chance) next() uint32 {
	*c = *c*6364136223846793005 + 1442695040888963407
	return uint32(*c >> 32)
}

// below makes a number of 0 to n-1.
func (c *chance) below(n int) int { return int(c.next() % uint32(n)) }

func (c *chance) row(n int) []byte {
	out := make([]byte, n)
	for i := range out {
		out[i] = byte(c.next() >> 20)
	}
	return out
}

// digest has 32 bytes of which each is another one.
func digest() [32]byte {
	var out [32]byte
	for i := range out {
		out[i] = byte(i*7 + 1)
	}
	return out
}

func made(name string, version, size int) api.Manifest {
	return api.Manifest{Name: name, Image: api.Image{Version: version, Size: size, Digest: digest()}}
}

// named is a name, and what is read back of its first 16 bytes; none: that is no name.
type named struct{ name, back string }

// someNames have each length around that of the room for a name, runes that the room's end cuts, and bytes 0 at each place.
func someNames() []named {
	greek := "\u03b1\u03b2\u03b3\u03b4\u03b5\u03b6\u03b7\u03b8"
	zeros := strings.Repeat("\x00", 20)
	return []named{
		{"", ""}, {"a", "a"}, {"z9", "z9"}, {"0", "0"}, {"\u03c9", "\u03c9"}, {"ab\u03b31", "ab\u03b31"},
		{"abcdefg", "abcdefg"}, {"abcdefgh", "abcdefgh"}, {"abcdefghi", ""}, // eight runes, and nine
		{"abcdefghijklmno", ""}, {"abcdefghijklmnop", ""}, {"abcdefghijklmnopq", ""}, {strings.Repeat("a", 100), ""}, {strings.Repeat("a", 100000), ""},
		{greek[:14], greek[:14]}, {greek[:14] + "a", greek[:14] + "a"}, {greek, greek}, // 14, 15 and 16 bytes
		{greek + "a", greek}, {greek + "\u03b9", greek}, {greek + zeros + "a", greek}, {strings.Repeat(greek, 1000), greek}, // what goes beyond the room is gone
		{"a" + greek, ""}, {"a" + greek[:14], "a" + greek[:14]}, {"ab" + greek[:14], ""}, // a rune that is cut, eight, nine
		{"\u03b1bcdefgh", "\u03b1bcdefgh"}, {"\u03b1bcdefghi", ""},
		{"\x00", ""}, {zeros, ""}, {"\x00a", ""}, {zeros[:15] + "a", ""}, {zeros[:16] + "a", ""}, {"a\x00b", ""}, {"abcd\x00\x00\x00e", ""}, {"a" + zeros[:14] + "b", ""},
		{"a\x00", "a"}, {"a\x00\x00", "a"}, {"a" + zeros[:15], "a"}, {"a" + zeros, "a"}, {"a" + zeros[:15] + "b", "a"}, {"abcdefgh" + zeros[:8] + "i", "abcdefgh"}, {"abcdefgh" + zeros[:7] + "i", ""},
		{"A", ""}, {"aB", ""}, {"ABCDEFGH", ""}, {"\u0391", ""}, {"a\u03a9", ""},
		{"\xff", ""}, {"a\xff", ""}, {"\xffa", ""}, {"\xce", ""}, {"a\xb1", ""}, {"\xce\x00", ""}, {greek[:15], ""}, {"\xed\xa0\x80", ""},
		{" ", ""}, {"a ", ""}, {"a-1", ""}, {"a\n", ""}, {"\u00e9", ""}, {"\u65e5", ""}, {"\U0001f600", ""}, {"\ufffd", ""}, {"`", ""}, {"{", ""}, {"/", ""}, {":", ""}, {"\u03b0", ""}, {"\u03ca", ""},
	}
}

// number is a Version or a Size, its 4 bytes, and whether they are read back.
type number struct {
	n    int
	text string
	ok   bool
}

func someNumbers() []number {
	return []number{
		{0, "\x00\x00\x00\x00", false}, {1, "\x00\x00\x00\x01", true}, {2, "\x00\x00\x00\x02", true}, {255, "\x00\x00\x00\xff", true}, {256, "\x00\x00\x01\x00", true},
		{65535, "\x00\x00\xff\xff", true}, {65536, "\x00\x01\x00\x00", true}, {1 << 24, "\x01\x00\x00\x00", true}, {0x01020304, "\x01\x02\x03\x04", true},
		{1<<30 - 1, "\x3f\xff\xff\xff", true}, {1 << 30, "\x40\x00\x00\x00", true}, {1<<30 + 1, "\x40\x00\x00\x01", false}, {1<<30 + 256, "\x40\x00\x01\x00", false},
		{1<<31 - 1, "\x7f\xff\xff\xff", false}, {1 << 31, "\x80\x00\x00\x00", false}, {1<<31 + 1, "\x80\x00\x00\x01", false}, {1<<32 - 1, "\xff\xff\xff\xff", false},
		{1 << 32, "\x00\x00\x00\x00", false}, {1<<32 + 5, "\x00\x00\x00\x05", true}, {1<<40 + 1<<30, "\x40\x00\x00\x00", true}, {1<<40 + 1<<30 + 1, "\x40\x00\x00\x01", false}, {0x0102030405060708, "\x05\x06\x07\x08", true}, {0x0102030445060708, "\x45\x06\x07\x08", false},
		{math.MaxInt, "\xff\xff\xff\xff", false}, {-1, "\xff\xff\xff\xff", false}, {-2, "\xff\xff\xff\xfe", false}, {-1 << 30, "\xc0\x00\x00\x00", false}, {math.MinInt32, "\x80\x00\x00\x00", false},
		{-1<<32 + 7, "\x00\x00\x00\x07", true}, {math.MinInt, "\x00\x00\x00\x00", false}, {math.MinInt + 9, "\x00\x00\x00\x09", true},
	}
}

// someKeys are of nil, of no bytes, and of the lengths around a block's.
func someKeys() [][]byte {
	c := chance(3)
	out := [][]byte{nil, {}, []byte("spare")[:0]}
	for _, n := range []int{1, 3, 31, 32, 33, 63, 64, 65, 128, 1000, 100000} {
		out = append(out, c.row(n))
	}
	return append(out, make([]byte, 5), make([]byte, 65), bytes.Repeat([]byte{255}, 64))
}

// body is what a manifest's body must be.
func body(m api.Manifest) []byte {
	var room [16]byte
	copy(room[:], m.Name)
	out := append([]byte("WLM1"), room[:]...)
	out = binary.BigEndian.AppendUint32(out, uint32(m.Image.Version))
	out = binary.BigEndian.AppendUint32(out, uint32(m.Image.Size))
	return append(out, m.Image.Digest[:]...)
}

// tagged lays the library's tag of b behind it.
func tagged(key, b []byte) []byte {
	h := stdhmac.New(sha256.New, key)
	h.Write(b)
	return h.Sum(slices.Clone(b))
}

// told fails unless Read tells m, and the last 32 bytes as its tag.
func told(t *testing.T, promise string, b []byte, m api.Manifest) {
	t.Helper()
	got, tag, e := Read(b)
	if e != api.OK || got != m || !slices.Equal(tag, b[60:]) {
		t.Fatalf("%s: Read of %x: %+v, %x, error %d, not %+v", promise, b, got, tag, e, m)
	}
}

// refused fails unless Read tells ErrBytes, and nothing beside it.
func refused(t *testing.T, promise string, b []byte) {
	t.Helper()
	if got, tag, e := Read(b); e != api.ErrBytes || got != (api.Manifest{}) || len(tag) != 0 {
		t.Fatalf("%s: Read of %d bytes %x..: %+v, %x, error %d", promise, len(b), b[:min(whole, len(b))], got, tag, e)
	}
}

// signed fails unless Signed answers want.
func signed(t *testing.T, promise string, key, b []byte, want bool) {
	t.Helper()
	if got := Signed(key, b); got != want {
		t.Fatalf("%s: Signed under a key of %d bytes, of %d bytes %x.., is %v", promise, len(key), len(b), b[:min(whole, len(b))], got)
	}
}

// TestExample has nil, no bytes, and no bytes ahead of a manifest's.
func TestExample(t *testing.T) {
	key := []byte("key")
	for _, b := range [][]byte{nil, {}, Bytes(key, made("a", 1, 1))[:0]} {
		refused(t, "P1201", b)
		signed(t, "P1201", key, b, false)
		signed(t, "P1201", nil, b, false)
	}
}

// TestKnown has one that is written out, with a tag that was reckoned elsewhere.
func TestKnown(t *testing.T) {
	m := made("a\u03b21", 0x01020304, 0x0a0b)
	text := "574c4d31" + "61ceb231" + "000000000000000000000000" + "01020304" + "00000a0b" +
		"01080f161d242b323940474e555c636a71787f868d949ba2a9b0b7bec5ccd3da"
	want, err := hex.DecodeString(text)
	if err != nil {
		t.Fatal(err)
	}
	if got := Body(m); !slices.Equal(got, want) {
		t.Errorf("P1201: Body is %x", got)
	}
	tag, err := hex.DecodeString("0955678af5229a6b5a2f91fde123495c3a32120d4f3f04d7e977a4111def9cc1")
	if err != nil {
		t.Fatal(err)
	}
	want = append(want, tag...)
	if got := Bytes([]byte("key"), m); !slices.Equal(got, want) {
		t.Errorf("P1201: Bytes is %x", got)
	}
	told(t, "P1201", want, m)
	signed(t, "P1201", []byte("key"), want, true)
}

func TestBodyOfNames(t *testing.T) {
	for _, x := range someNames() {
		for _, m := range []api.Manifest{{Name: x.name}, made(x.name, 1, 2), made(x.name, -1, -1)} {
			got := Body(m)
			if len(got) != 60 || !slices.Equal(got, body(m)) {
				t.Fatalf("P1201: Body of the name %+q.. is %x", x.name[:min(len(x.name), 20)], got)
			}
		}
	}
}

func TestBodyOfNumbers(t *testing.T) {
	for _, v := range someNumbers() {
		for _, s := range someNumbers() {
			d := digest()
			want := "WLM1a" + strings.Repeat("\x00", 15) + v.text + s.text + string(d[:])
			if got := Body(made("a", v.n, s.n)); string(got) != want {
				t.Fatalf("P1201: Body of Version %d and Size %d is %x", v.n, s.n, got)
			}
		}
	}
}

// TestBodyOfDigests turns each bit of the Digest: the same one of the Body turns, and no other.
func TestBodyOfDigests(t *testing.T) {
	m := made("a", 1, 1)
	want := Body(m)
	for i := range 8 * 32 {
		m.Image.Digest[i/8] ^= 1 << (i % 8)
		want[28+i/8] ^= 1 << (i % 8)
		if got := Body(m); !slices.Equal(got, want) {
			t.Fatalf("P1201: Body of a Digest, bit %d turned: %x", i, got)
		}
		told(t, "P1201", tagged(nil, want), m)
		m.Image.Digest[i/8] ^= 1 << (i % 8)
		want[28+i/8] ^= 1 << (i % 8)
	}
}

func TestBodyOfNothing(t *testing.T) {
	want := append([]byte("WLM1"), make([]byte, 56)...)
	if got := Body(api.Manifest{}); !slices.Equal(got, want) {
		t.Errorf("P1201: Body of the zero manifest is %x", got)
	}
	refused(t, "P1201", Bytes(nil, api.Manifest{}))
	signed(t, "P1201", nil, Bytes(nil, api.Manifest{}), false)
}

func TestBytesUnderKeys(t *testing.T) {
	for _, key := range someKeys() {
		for _, x := range someNames() {
			m := made(x.name, 3, 4)
			got := Bytes(key, m)
			if len(got) != whole || !slices.Equal(got, tagged(key, body(m))) {
				t.Fatalf("P1201: Bytes under a key of %d bytes, of the name %+q.., is %x", len(key), x.name[:min(len(x.name), 20)], got)
			}
		}
	}
	none := Bytes(nil, made("a", 1, 1))
	if !slices.Equal(none, Bytes([]byte{}, made("a", 1, 1))) {
		t.Error("P1201: a nil key is not as one of no bytes")
	}
}

// TestBackByNames reads what Bytes wrote: the name comes back as what its first 16 bytes are.
func TestBackByNames(t *testing.T) {
	for _, key := range someKeys() {
		for _, x := range someNames() {
			b := Bytes(key, made(x.name, 5, 6))
			if x.back == "" {
				refused(t, "P1201", b)
			} else {
				told(t, "P1201", b, made(x.back, 5, 6))
			}
			signed(t, "P1201", key, b, x.back != "")
		}
	}
}

func TestBackByNumbers(t *testing.T) {
	low := func(n int) int { return n & (1<<32 - 1) }
	for _, v := range someNumbers() {
		for _, s := range someNumbers() {
			b := Bytes([]byte("k"), made("abc", v.n, s.n))
			if v.ok && s.ok {
				told(t, "P1201", b, made("abc", low(v.n), low(s.n)))
			} else {
				refused(t, "P1201", b)
			}
			signed(t, "P1201", []byte("k"), b, v.ok && s.ok)
		}
	}
}

// TestLengths has rows of each length below a manifest's and of some above, of a manifest's bytes and of others, their tag right or not.
func TestLengths(t *testing.T) {
	key := []byte("key")
	c := chance(1)
	m := made("abc", 7, 8)
	b := Bytes(key, m)
	long := slices.Concat(b, b, make([]byte, 2000))
	for n := range len(long) {
		if n == whole {
			continue
		}
		rows := [][]byte{long[:n], slices.Clip(long[:n]), make([]byte, n), bytes.Repeat([]byte{255}, n), c.row(n)}
		if n < whole {
			rows = append(rows, b[whole-n:])
		}
		if n >= 32 { // the tag of what stands ahead of it
			rows = append(rows, tagged(key, long[:n-32]))
		}
		for _, row := range rows {
			refused(t, "P1201", row)
			signed(t, "P1201", key, row, false)
		}
	}
	refused(t, "P1201", make([]byte, 1<<20+whole))
	refused(t, "P1201", append([]byte{0}, b...))
	refused(t, "P1201", append(slices.Clone(b), 0))
	told(t, "P1201", long[:whole], m)
	signed(t, "P1201", key, long[:whole], true)
}

// TestMark turns each of the first four bytes to each other byte, with the tag as it was and with the one of the bytes that stand there then.
func TestMark(t *testing.T) {
	key := []byte("key")
	m := made("abc", 7, 8)
	for i := range 4 {
		for x := range 256 {
			plain := Body(m)
			same := plain[i] == byte(x)
			plain[i] = byte(x)
			b := tagged(key, plain)
			old := slices.Concat(plain, Bytes(key, m)[60:])
			if same {
				told(t, "P1201", b, m)
			} else {
				refused(t, "P1201", b)
				refused(t, "P1201", old)
			}
			signed(t, "P1201", key, b, same)
			signed(t, "P1201", key, old, same)
		}
	}
	for _, text := range []string{"wlm1", "WLM0", "WLM2", "1MLW", "WLM\x00", "\x00\x00\x00\x00", " WLM", "LM1W"} {
		refused(t, "P1201", tagged(key, append([]byte(text), Body(m)[4:]...)))
	}
}

// withName lays 16 bytes where the name is.
func withName(key []byte, room string) []byte {
	plain := Body(made("abc", 7, 8))
	copy(plain[4:20], room)
	return tagged(key, plain)
}

// TestNameBytes has each single byte as a name, at each place of its room, alone and behind a good name.
func TestNameBytes(t *testing.T) {
	const good = "abcdefghijklmnopqrstuvwxyz0123456789"
	for x := range 256 {
		for at := range 16 {
			room := make([]byte, 16)
			copy(room, strings.Repeat("a", min(at, 8)))
			room[at] = byte(x)
			b := withName(nil, string(room))
			switch {
			case at < 8 && strings.IndexByte(good, byte(x)) >= 0:
				told(t, "P1201", b, made(strings.Repeat("a", at)+string(rune(x)), 7, 8))
			case at > 0 && x == 0:
				told(t, "P1201", b, made(strings.Repeat("a", min(at, 8)), 7, 8))
			default:
				refused(t, "P1201", b)
				signed(t, "P1201", nil, b, false)
			}
		}
	}
}

// TestNameRooms draws rooms of whole runes, cut ones and strays, against a slower reading of what a name is.
func TestNameRooms(t *testing.T) {
	parts := []string{"a", "z", "0", "9", "\u03b1", "\u03c9", "\u03b1", "b", "c", "\x00", "A", "-", "\xce", "\xb1", "\xff"}
	c := chance(9)
	taken := 0
	for range 20000 {
		kinds := 1 + c.below(len(parts))
		text := ""
		for n := c.below(10); n > 0; n-- {
			text += parts[c.below(kinds)]
		}
		room := (text + strings.Repeat("\x00", 16))[:16]
		b := withName([]byte("k"), room)
		if name := strings.TrimRight(room, "\x00"); isName(name) {
			told(t, "P1201", b, made(name, 7, 8))
			signed(t, "P1201", []byte("k"), b, true)
			taken++
		} else {
			refused(t, "P1201", b)
			signed(t, "P1201", []byte("k"), b, false)
		}
	}
	if taken < 1000 || taken > 19000 {
		t.Errorf("P1201: %d of 20000 rooms have a name: the draw is not even", taken)
	}
}

func isName(s string) bool {
	for _, r := range s {
		small := r >= 'a' && r <= 'z' || r >= '0' && r <= '9' || r >= 0x3b1 && r <= 0x3c9
		if !small {
			return false
		}
	}
	n := utf8.RuneCountInString(s)
	return n >= 1 && n <= 8
}

// TestNumberBytes lays a Version or a Size down as bytes, with the other one good.
func TestNumberBytes(t *testing.T) {
	for _, at := range []int{20, 24} {
		for _, n := range []uint32{0, 1, 2, 1<<30 - 1, 1 << 30, 1<<30 + 1, 1<<31 - 1, 1 << 31, 1<<31 + 1, 3 << 30, 1<<32 - 1} {
			plain := Body(made("abc", 7, 8))
			binary.BigEndian.PutUint32(plain[at:], n)
			b := tagged([]byte("k"), plain)
			want := made("abc", 7, 8)
			if at == 20 {
				want.Image.Version = int(n)
			} else {
				want.Image.Size = int(n)
			}
			ok := n >= 1 && n <= 1<<30
			if ok {
				told(t, "P1201", b, want)
			} else {
				refused(t, "P1201", b)
			}
			signed(t, "P1201", []byte("k"), b, ok)
		}
	}
}

// TestWrongTagIsTold has tags that no key made: Read tells them, Signed does not take them.
func TestWrongTagIsTold(t *testing.T) {
	c := chance(2)
	m := made("abc", 7, 8)
	for _, tag := range [][]byte{make([]byte, 32), bytes.Repeat([]byte{255}, 32), c.row(32), Body(m)[:32], Body(m)[28:]} {
		b := append(Body(m), tag...)
		told(t, "P1201", b, m)
		for _, key := range someKeys() {
			signed(t, "P1201", key, b, false)
		}
	}
	// The tag of all but the mark, that of the Body and the bytes of its own room, and a plain hash are none either.
	for _, over := range [][]byte{Body(m)[4:], append(Body(m), make([]byte, 32)...), nil} {
		key := []byte("key")
		b := append(Body(m), tagged(key, over)[len(over):]...)
		told(t, "P1201", b, m)
		signed(t, "P1201", key, b, false)
	}
	hash := sha256.Sum256(Body(m))
	signed(t, "P1201", nil, append(Body(m), hash[:]...), false)
}

// TestOtherKeys holds each key against what each was the key of: those that differ by bytes 0 behind, up to a block's length, are one.
func TestOtherKeys(t *testing.T) {
	filled := func(key []byte) string {
		if len(key) > 64 {
			hash := sha256.Sum256(key)
			key = hash[:]
		}
		var block [64]byte
		copy(block[:], key)
		return string(block[:])
	}
	keys := someKeys()
	for _, text := range []string{"key", "kez", "Key", "ke", "keyk", "\x00key", "key\x00", "key\x00\x00", "key\x00\x01"} {
		keys = append(keys, []byte(text))
	}
	for n := 60; n <= 66; n++ {
		keys = append(keys, append([]byte("key"), make([]byte, n-3)...))
	}
	m := made("abc", 7, 8)
	for _, key := range keys {
		b := Bytes(key, m)
		for _, other := range keys {
			signed(t, "P1201", other, b, filled(key) == filled(other))
		}
	}
}

// TestEachKeyBit turns one bit of the key at each place.
func TestEachKeyBit(t *testing.T) {
	c := chance(4)
	for _, n := range []int{1, 32, 64, 65, 130} {
		key := c.row(n)
		b := Bytes(key, made("abc", 7, 8))
		for i := range 8 * n {
			key[i/8] ^= 1 << (i % 8)
			signed(t, "P1201", key, b, false)
			key[i/8] ^= 1 << (i % 8)
		}
		signed(t, "P1201", key, b, true)
	}
}

// TestEachBit turns each bit of a manifest: none is Signed, whether Read takes it or not, and Read takes what has a digest or a tag that is turned.
func TestEachBit(t *testing.T) {
	for _, key := range [][]byte{nil, []byte("key"), make([]byte, 65)} {
		for _, m := range []api.Manifest{made("a", 1, 1), made("\u03b1\u03b2\u03b3\u03b4\u03b5\u03b6\u03b7\u03b8", 1<<30, 1<<30), made("abcdefgh", 0x01020304, 0x05060708)} {
			b := Bytes(key, m)
			for i := range 8 * whole {
				b[i/8] ^= 1 << (i % 8)
				signed(t, "P1201", key, b, false)
				_, tag, e := Read(b)
				if i < 8*4 && e != api.ErrBytes || i >= 8*28 && (e != api.OK || !slices.Equal(tag, b[60:])) {
					t.Fatalf("P1201: Read, bit %d turned: error %d, tag %x", i, e, tag)
				}
				b[i/8] ^= 1 << (i % 8)
			}
			signed(t, "P1201", key, b, true)
		}
	}
}

// turned turns all of b in place, its spare room too.
func turned(b []byte) {
	room := b[:cap(b)]
	for i := range room {
		room[i] ^= 0x55
	}
}

// answer is all that the four calls answer, in a form that can be held against another.
type answer struct {
	body, bytes, tag string
	m                api.Manifest
	e                api.Errno
	signed           bool
}

// ask makes all four calls.
func ask(key []byte, m api.Manifest, b []byte) answer {
	read, tag, e := Read(b)
	return answer{string(Body(m)), string(Bytes(key, m)), string(tag), read, e, Signed(key, b)}
}

// TestHandedInStays looks at the rows and at the memory on both their sides, which must neither be turned nor be read.
func TestHandedInStays(t *testing.T) {
	c := chance(5)
	for _, k := range []int{0, 1, 32, 63, 64, 65, 200} {
		for _, n := range []int{0, 1, 59, 60, 61, 91, whole, 93, 152, 184} {
			keyRoom := c.row(100 + k + 100)
			key := keyRoom[100 : 100+k]
			m := made("abc", 7, 8)
			room := slices.Concat(c.row(100), Bytes(key, m), c.row(200))
			b := room[100 : 100+n]
			wasKey, was := slices.Clone(keyRoom), slices.Clone(room)
			got := ask(key, m, b)
			if got.signed != (n == whole) {
				t.Fatalf("P1201: Signed of %d bytes is %v", n, got.signed)
			}
			if !slices.Equal(keyRoom, wasKey) || !slices.Equal(room, was) {
				t.Fatalf("P1202: a key of %d and %d bytes, or the memory beside them, were turned", k, n)
			}
			turned(keyRoom[:100:100])
			turned(keyRoom[100+k:])
			turned(room[:100:100])
			turned(room[100+n:])
			if again := ask(key, m, b); again != got {
				t.Fatalf("P1202: the answers for a key of %d and %d bytes hang on the memory beside them", k, n)
			}
		}
	}
}

// TestOneMemory has the key and the manifest in one memory, the one over the other too.
func TestOneMemory(t *testing.T) {
	m := made("abc", 7, 8)
	for _, k := range []int{0, 1, 28, 60} { // the key is the Body's own beginning
		key := Body(m)[:k:k]
		b := Bytes(key, m)
		was := slices.Clone(b)
		signed(t, "P1202", b[:k], b, true)
		if !slices.Equal(b, was) || !slices.Equal(Bytes(b[:k], m), was) {
			t.Fatalf("P1202: a key of %d bytes that is the manifest's own beginning turned something", k)
		}
	}
}

// TestNotKept turns rows that were handed in, their spare room too: what was answered must stay, and the next call must read what stands there now.
func TestNotKept(t *testing.T) {
	for _, k := range []int{0, 1, 64, 65} {
		c := chance(k)
		key := append(make([]byte, 0, 200), c.row(k)...)
		m, other := made("abc", 7, 8), made("xyz", 9, 10)
		b := append(make([]byte, 0, 200), Bytes(key, m)...)
		plain, all := Body(m), Bytes(key, m)
		read, tag, _ := Read(b)
		was := slices.Clone(b)
		turned(b)
		if read != m || !slices.Equal(tag, was[60:]) {
			t.Fatalf("P1202: what Read told was turned with the row: %+v, %x", read, tag)
		}
		refused(t, "P1202", b)
		signed(t, "P1202", key, b, false)
		turned(key)
		if !slices.Equal(plain, body(m)) || !slices.Equal(all, was) {
			t.Fatalf("P1202: Body or Bytes was turned with a key of %d bytes", k)
		}
		if !slices.Equal(Bytes(key, m), tagged(key, body(m))) {
			t.Fatalf("P1202: Bytes under a turned key of %d bytes is another's", k)
		}
		copy(b, was)
		signed(t, "P1202", key, b, k == 0)
		copy(b, Bytes(key, other))
		told(t, "P1202", b, other)
		signed(t, "P1202", key, b, true)
	}
}

// TestNameMemory lays a name over bytes that can be turned, and turns them.
func TestNameMemory(t *testing.T) {
	for _, name := range []string{"a", "abcdefgh", "\u03b1\u03b2", "abcdefghijklmnop", "abcdefghijklmnopq"} {
		room := []byte(name + "spare")
		m := made(unsafe.String(&room[0], len(name)), 7, 8)
		plain, b := Body(m), Bytes(nil, m)
		if string(room) != name+"spare" {
			t.Fatalf("P1202: the name %+q was turned to %+q", name+"spare", room)
		}
		for i := range room {
			room[i] = 'z'
		}
		want := body(made(name, 7, 8))
		if !slices.Equal(plain, want) || !slices.Equal(b, tagged(nil, want)) {
			t.Fatalf("P1202: Body or Bytes was turned with the name %+q", name)
		}
		if !slices.Equal(Body(m), body(made(strings.Repeat("z", len(name)), 7, 8))) {
			t.Fatalf("P1202: the name %+q was kept", name)
		}
	}
}

// TestNewMemory turns and grows what was answered: neither what was handed in nor another answer turns.
func TestNewMemory(t *testing.T) {
	key := append(make([]byte, 0, 200), "key"...)
	m := made("abc", 7, 8)
	want := tagged(key, body(m))
	b := append(make([]byte, 0, 300), want...)
	keyRoom, room := slices.Clone(key[:cap(key)]), slices.Clone(b[:cap(b)])
	oneBody, one := Body(m), Bytes(key, m)
	twoBody, two := Body(m), Bytes(key, m)
	_, oneTag, _ := Read(b)
	read, twoTag, _ := Read(b)
	for _, a := range [][]byte{oneBody, one, oneTag} {
		turned(append(a, "more"...))
		turned(a)
	}
	if !slices.Equal(key[:cap(key)], keyRoom) || !slices.Equal(b[:cap(b)], room) {
		t.Error("P1202: what was handed in was turned with an answer")
	}
	if !slices.Equal(twoBody, want[:60]) || !slices.Equal(two, want) || !slices.Equal(twoTag, want[60:]) || read != m {
		t.Error("P1202: two answers share memory")
	}
	if !slices.Equal(Body(m), want[:60]) || !slices.Equal(Bytes(key, m), want) {
		t.Error("P1202: Body or Bytes hangs on an earlier answer")
	}
	told(t, "P1202", b, m)
	signed(t, "P1202", key, b, true)
}

// TestOnlyArguments calls in several orders: an answer that hung on an earlier call would differ.
func TestOnlyArguments(t *testing.T) {
	names, numbers, keys := someNames(), someNumbers(), someKeys()
	call := func(i int) answer {
		c := chance(i)
		key := keys[i%len(keys)]
		m := made(names[i*7%len(names)].name, numbers[i%len(numbers)].n, numbers[i*5%len(numbers)].n)
		if i%2 == 0 {
			m = made("abc", 1+c.below(9), 1+c.below(9))
		}
		b := Bytes(key, m)
		switch i % 6 {
		case 1:
			b = b[:c.below(whole)]
		case 2:
			b[c.below(whole)] ^= 4
		case 3:
			b = append(b, 0)
		}
		return ask(key, m, b)
	}
	var first [60]answer
	for i := range first {
		first[i] = call(i)
	}
	for i := range first {
		for j := range first {
			call(j)
			if got := call(i); got != first[i] {
				t.Fatalf("P1202: call %d behind call %d answers otherwise", i, j)
			}
		}
	}
}
