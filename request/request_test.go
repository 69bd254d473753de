package request

import (
	"bytes"
	"encoding/binary"
	"fmt"
	"math"
	"slices"
	"sync"
	"testing"

	"waterline/api"
)

// top is the greatest number that is written.
const top = 2147483647

// chance makes numbers, the same ones at each run.
type chance uint64

// below makes a number of 0 to n-1.
func (c *chance) below(n int) int {
	*c = *c*6364136223846793005 + 1442695040888963407
	return int(*c>>33) % n
}

// one makes one of the numbers of l.
func (c *chance) one(l []int) int { return l[c.below(len(l))] }

func (c *chance) row(n int) []byte {
	out := make([]byte, n)
	for i := range out {
		out[i] = byte(c.below(256))
	}
	return out
}

// num makes a number within the limits, each length of it as often as another.
func (c *chance) num() int { return c.below(1<<31) >> c.below(32) }

// edges are numbers at and around each limit, far from them, and those that have the lowest bits of one that may be.
func edges() []int {
	return []int{
		math.MinInt, math.MinInt + 1, math.MinInt + 9, -1 << 62, -1 << 40, -1<<32 - 1, -1 << 32, -1<<32 + 1, -1<<32 + 9, math.MinInt32 - 1, math.MinInt32, math.MinInt32 + 1, -1 << 16, -256, -255, -247, -17, -16, -10, -9, -2, -1,
		0, 1, 2, 3, 4, 5, 6, 7, 8, 9, 10, 11, 15, 16, 17, 18, 127, 128, 255, 256, 257, 265, 266, 272, 273, 999, 1000, 1001, 1 << 15, 1<<16 - 1, 1 << 16, 1<<16 + 1, 1<<24 - 1, 1 << 24,
		top - 1, top, top + 1, 1<<31 + 1, 1<<32 - 1, 1 << 32, 1<<32 + 1, 1<<32 + 9, 1<<32 + 16, 1 << 40, 1 << 56, 1<<56 + 1, 1 << 62, math.MaxInt - 1, math.MaxInt,
	}
}

// sizes are how many Bytes a request may have, and some more.
func sizes() []int {
	return []int{0, 1, 2, 3, 254, 255, 256, 257, 511, 512, 767, 768, 998, 999, 1000, 1001, 1002, 1023, 1024, 1256, 2000, 65535, 65536, 65537, 65536 + 1000, 1 << 17}
}

func between(n, least, most int) bool { return least <= n && n <= most }

// written is a second reading of Bytes.
func written(q api.Req) []byte {
	if q.Kind <= 0 || q.Kind >= 10 || q.N < 0 || q.N > top || len(q.Bytes) > 1000 {
		return nil
	}
	out := binary.BigEndian.AppendUint32([]byte{byte(q.Kind)}, uint32(q.N))
	out = binary.BigEndian.AppendUint16(out, uint16(len(q.Bytes)))
	return append(out, q.Bytes...)
}

// stands is a second reading of Read.
func stands(b []byte) (api.Req, api.Errno) {
	if len(b) < 7 || b[0] == 0 || b[0] > 9 || b[1] > 127 {
		return api.Req{}, api.ErrBytes
	}
	if n := int(b[5])*256 + int(b[6]); n > 1000 || n != len(b)-7 {
		return api.Req{}, api.ErrBytes
	}
	return api.Req{Kind: int(b[0]), N: int(binary.BigEndian.Uint32(b[1:])), Bytes: slices.Clone(b[7:])}, api.OK
}

// answered is a second reading of Answer.
func answered(r api.Resp) []byte {
	if r.Err < 0 || r.Err > 16 || r.N < 0 || r.N > top || r.Got < 0 || r.Got > top {
		return nil
	}
	out := binary.BigEndian.AppendUint32([]byte{byte(r.Err)}, uint32(r.N))
	return binary.BigEndian.AppendUint32(out, uint32(r.Got))
}

// heard is a second reading of ReadAnswer.
func heard(b []byte) (api.Resp, api.Errno) {
	if len(b) != 9 || b[0] > 16 || b[1] > 127 || b[5] > 127 {
		return api.Resp{}, api.ErrBytes
	}
	return api.Resp{Err: api.Errno(b[0]), N: int(binary.BigEndian.Uint32(b[1:])), Got: int(binary.BigEndian.Uint32(b[5:]))}, api.OK
}

func sameReq(a, b api.Req) bool {
	return a.Kind == b.Kind && a.N == b.N && bytes.Equal(a.Bytes, b.Bytes)
}

// show is a request without most of its Bytes.
func show(q api.Req) string {
	return fmt.Sprintf("{Kind %d, N %d, %d Bytes %x..}", q.Kind, q.N, len(q.Bytes), q.Bytes[:min(8, len(q.Bytes))])
}

// bytesIs fails unless q is written as want, and read back of it.
func bytesIs(t *testing.T, promise string, q api.Req, want []byte) {
	t.Helper()
	if got := Bytes(q); !bytes.Equal(got, want) {
		t.Fatalf("%s: Bytes of %s: %d bytes %x.., not %d %x..", promise, show(q), len(got), got[:min(12, len(got))], len(want), want[:min(12, len(want))])
	}
	if len(want) > 0 {
		readIs(t, promise, want, q, api.OK)
	}
}

// readIs fails unless b is read as q, or refused with nothing beside it.
func readIs(t *testing.T, promise string, b []byte, q api.Req, e api.Errno) {
	t.Helper()
	if got, err := Read(b); err != e || !sameReq(got, q) {
		t.Fatalf("%s: Read of %d bytes %x..: %s, error %d, not %s, error %d", promise, len(b), b[:min(12, len(b))], show(got), err, show(q), e)
	}
}

func refused(t *testing.T, b []byte) {
	t.Helper()
	readIs(t, "P1801", b, api.Req{}, api.ErrBytes)
}

// answerIs fails unless r is written as want, and read back of it.
func answerIs(t *testing.T, promise string, r api.Resp, want []byte) {
	t.Helper()
	if got := Answer(r); !bytes.Equal(got, want) {
		t.Fatalf("%s: Answer of %+v: %x, not %x", promise, r, got, want)
	}
	if len(want) > 0 {
		heardIs(t, promise, want, r, api.OK)
	}
}

// heardIs fails unless b is read as r, or refused with nothing beside it.
func heardIs(t *testing.T, promise string, b []byte, r api.Resp, e api.Errno) {
	t.Helper()
	if got, err := ReadAnswer(b); err != e || got != r {
		t.Fatalf("%s: ReadAnswer of %d bytes %x..: %+v, error %d, not %+v, error %d", promise, len(b), b[:min(12, len(b))], got, err, r, e)
	}
}

func answerRefused(t *testing.T, b []byte) {
	t.Helper()
	heardIs(t, "P1801", b, api.Resp{}, api.ErrBytes)
}

func TestLimits(t *testing.T) {
	if api.QBegin != 1 || api.QStatus != 9 || api.OK != 0 || api.ErrNone != 16 || api.ErrBytes != 6 {
		t.Fatal("the numbers are others")
	}
}

func TestExample(t *testing.T) {
	for _, b := range [][]byte{nil, {}, make([]byte, 0, 20)} {
		if q, e := Read(b); e != 6 || q.Kind != 0 || q.N != 0 || len(q.Bytes) != 0 {
			t.Fatalf("P1801: Read of nothing: %s, error %d", show(q), e)
		}
	}
}

func TestBytesByteByByte(t *testing.T) {
	for _, x := range []struct {
		q    api.Req
		want string
	}{
		{api.Req{Kind: 1}, "\x01\x00\x00\x00\x00\x00\x00"},
		{api.Req{Kind: 1, Bytes: []byte("manifest")}, "\x01\x00\x00\x00\x00\x00\x08manifest"},
		{api.Req{Kind: 2, N: 5, Bytes: []byte{0, 255, 0}}, "\x02\x00\x00\x00\x05\x00\x03\x00\xff\x00"},
		{api.Req{Kind: 3}, "\x03\x00\x00\x00\x00\x00\x00"},
		{api.Req{Kind: 4, N: 1}, "\x04\x00\x00\x00\x01\x00\x00"},
		{api.Req{Kind: 5, N: 255, Bytes: []byte{}}, "\x05\x00\x00\x00\xff\x00\x00"},
		{api.Req{Kind: 6, N: 256}, "\x06\x00\x00\x01\x00\x00\x00"},
		{api.Req{Kind: 7, N: 65536, Bytes: []byte{7}}, "\x07\x00\x01\x00\x00\x00\x01\x07"},
		{api.Req{Kind: 8, N: 0x01020304}, "\x08\x01\x02\x03\x04\x00\x00"},
		{api.Req{Kind: 9, N: 2147483647, Bytes: []byte("ab")}, "\x09\x7f\xff\xff\xff\x00\x02ab"},
		{api.Req{Kind: 9, N: 2147483646}, "\x09\x7f\xff\xff\xfe\x00\x00"},
	} {
		bytesIs(t, "P1801", x.q, []byte(x.want))
	}
}

func TestBytesOfEachLength(t *testing.T) {
	c := chance(1)
	for kind := 1; kind <= 9; kind++ {
		for _, size := range []int{0, 1, 255, 256, 999, 1000} {
			row := c.row(size)
			ahead := []byte{byte(kind), 0, 0, 1, 2, byte(size / 256), byte(size % 256)}
			bytesIs(t, "P1801", api.Req{Kind: kind, N: 258, Bytes: row}, append(ahead, row...))
		}
	}
	for size := range 1100 {
		q := api.Req{Kind: 1 + size%9, N: size, Bytes: c.row(size)}
		bytesIs(t, "P1801", q, written(q))
		if got := len(Bytes(q)); got != 7+size && got != 0 || (got == 0) != (size > 1000) {
			t.Fatalf("P1801: Bytes of %s: %d bytes", show(q), got)
		}
	}
}

func TestBytesOfNone(t *testing.T) {
	for _, q := range []api.Req{
		{}, {Kind: 0, N: 1, Bytes: []byte("a")}, {Kind: 10}, {Kind: 11}, {Kind: 16}, {Kind: 255}, {Kind: 256}, {Kind: 257}, {Kind: 265}, {Kind: -1}, {Kind: -9}, {Kind: -255}, {Kind: 1<<32 + 1}, {Kind: -1<<32 + 1}, {Kind: math.MinInt}, {Kind: math.MinInt + 1}, {Kind: math.MaxInt},
		{Kind: 1, N: -1}, {Kind: 1, N: 1 << 31}, {Kind: 2, N: 1<<31 + 1}, {Kind: 3, N: 1 << 32}, {Kind: 4, N: 1<<32 + 5}, {Kind: 5, N: -1 << 32}, {Kind: 6, N: math.MinInt32}, {Kind: 7, N: math.MinInt}, {Kind: 8, N: math.MinInt + 1}, {Kind: 9, N: math.MaxInt},
		{Kind: 1, Bytes: make([]byte, 1001)}, {Kind: 2, Bytes: make([]byte, 1256)}, {Kind: 9, Bytes: make([]byte, 65536)}, {Kind: 9, Bytes: make([]byte, 65537)},
		{Kind: 10, N: -1}, {Kind: 10, Bytes: make([]byte, 1001)}, {Kind: 1, N: -1, Bytes: make([]byte, 1001)}, {Kind: 0, N: 1 << 31, Bytes: make([]byte, 1001)}, {Kind: -1, N: -1},
	} {
		if got := Bytes(q); len(got) != 0 {
			t.Fatalf("P1801: Bytes of %s: %x", show(q), got)
		}
	}
}

func TestBytesAtEachEdge(t *testing.T) {
	rows := [][]byte{nil, {}, make([]byte, 3, 10), bytes.Repeat([]byte{0xff}, 1000), make([]byte, 1001)}
	for _, kind := range edges() {
		for _, n := range edges() {
			for _, row := range rows {
				q := api.Req{Kind: kind, N: n, Bytes: row}
				bytesIs(t, "P1801", q, written(q))
			}
		}
	}
	for kind := range 12 {
		for _, size := range sizes() {
			for _, n := range []int{-1, 0, top, top + 1} {
				q := api.Req{Kind: kind, N: n, Bytes: make([]byte, size)}
				bytesIs(t, "P1801", q, written(q))
			}
		}
	}
}

func TestReadOfNone(t *testing.T) {
	for _, b := range []string{
		"\x00\x00\x00\x00\x00\x00\x00", "\x0a\x00\x00\x00\x00\x00\x00", "\x10\x00\x00\x00\x00\x00\x00", "\x7f\x00\x00\x00\x00\x00\x00", "\x80\x00\x00\x00\x00\x00\x00", "\x81\x00\x00\x00\x00\x00\x00", "\xff\x00\x00\x00\x00\x00\x00",
		"\x01\x80\x00\x00\x00\x00\x00", "\x01\x80\x00\x00\x01\x00\x00", "\x01\xff\xff\xff\xff\x00\x00", "\x09\xc0\x00\x00\x00\x00\x01a",
		"\x01\x00\x00\x00\x00\x00\x01", "\x01\x00\x00\x00\x00\x01\x00", "\x01\x00\x00\x00\x00\xff\xff", "\x01\x00\x00\x00\x00\x00\x03ab", "\x01\x00\x00\x00\x00\x00\x01ab", "\x01\x00\x00\x00\x00\x00\x00a", "\x01\x00\x00\x00\x00\x00\x00\x00", "\x01\x00\x00\x00\x00\x01\x00a",
		"\x00\x80\x00\x00\x00\x00\x00", "\x0a\x00\x00\x00\x00\x00\x01", "\x0a\x80\x00\x00\x00\x00\x01",
	} {
		refused(t, []byte(b))
	}
}

func TestReadOfBeginnings(t *testing.T) {
	c := chance(2)
	for _, q := range []api.Req{{Kind: 1}, {Kind: 9, N: top, Bytes: []byte{1}}, {Kind: 2, N: 258, Bytes: c.row(255)}, {Kind: 3, Bytes: c.row(256)}, {Kind: 4, Bytes: make([]byte, 300)}, {Kind: 5, N: 7, Bytes: c.row(1000)}} {
		b := Bytes(q)
		for k := range len(b) {
			refused(t, b[:k])
			refused(t, slices.Clone(b[:k]))
		}
		readIs(t, "P1801", b, q, api.OK)
	}
}

func TestReadOfMore(t *testing.T) {
	c := chance(3)
	for _, size := range []int{0, 1, 255, 256, 999, 1000} {
		q := api.Req{Kind: 1 + size%9, N: size, Bytes: c.row(size)}
		b := Bytes(q)
		for _, behind := range [][]byte{{0}, {1}, {255}, {0, 0}, b, make([]byte, 256), make([]byte, 320), make([]byte, 65536)} {
			refused(t, slices.Concat(b, behind))
			refused(t, slices.Concat(behind[:1], b))
		}
		refused(t, b[1:])
	}
}

// TestReadOfEachLength: a length that is not that of the bytes behind is refused, also where its lowest bits are right.
func TestReadOfEachLength(t *testing.T) {
	for _, size := range []int{0, 1, 2, 254, 255, 256, 257, 744, 999, 1000, 1001, 1002, 1024, 1255, 1256, 65535} {
		b := append([]byte{1, 0, 0, 0, 0, 0, 0}, make([]byte, size)...)
		for length := range 1 << 16 {
			if size > 2 && length > 1300 && length%256 != size%256 && length < 65000 {
				continue
			}
			b[5], b[6] = byte(length>>8), byte(length)
			if length == size && size <= 1000 {
				readIs(t, "P1801", b, api.Req{Kind: 1, Bytes: b[7:]}, api.OK)
				continue
			}
			refused(t, b)
		}
	}
}

func TestReadOfEachNumber(t *testing.T) {
	for kind := range 256 {
		for _, n := range []uint32{0, 1, 255, 256, 1 << 24, top - 1, top, top + 1, top + 2, 1<<32 - 1} {
			for _, behind := range []string{"\x00\x00", "\x00\x02ab", "\x00\x02a", "\x00"} {
				b := append(binary.BigEndian.AppendUint32([]byte{byte(kind)}, n), behind...)
				q, e := stands(b)
				readIs(t, "P1801", b, q, e)
				if right := between(kind, 1, 9) && n <= top && len(behind)%2 == 0; right != (e == api.OK) {
					t.Fatalf("the second reading of %x: error %d", b, e)
				}
			}
		}
	}
}

func TestAnswerByteByByte(t *testing.T) {
	for _, x := range []struct {
		r    api.Resp
		want string
	}{
		{api.Resp{}, "\x00\x00\x00\x00\x00\x00\x00\x00\x00"},
		{api.Resp{Err: 1}, "\x01\x00\x00\x00\x00\x00\x00\x00\x00"},
		{api.Resp{Err: 16}, "\x10\x00\x00\x00\x00\x00\x00\x00\x00"},
		{api.Resp{N: 1}, "\x00\x00\x00\x00\x01\x00\x00\x00\x00"},
		{api.Resp{Got: 1}, "\x00\x00\x00\x00\x00\x00\x00\x00\x01"},
		{api.Resp{N: 3, Got: 6}, "\x00\x00\x00\x00\x03\x00\x00\x00\x06"},
		{api.Resp{Err: 10, N: 0x01020304, Got: 0x05060708}, "\x0a\x01\x02\x03\x04\x05\x06\x07\x08"},
		{api.Resp{Err: 16, N: 2147483647, Got: 2147483646}, "\x10\x7f\xff\xff\xff\x7f\xff\xff\xfe"},
		{api.Resp{Err: 15, N: 2147483646, Got: 2147483647}, "\x0f\x7f\xff\xff\xfe\x7f\xff\xff\xff"},
	} {
		answerIs(t, "P1801", x.r, []byte(x.want))
	}
}

func TestAnswerOfNone(t *testing.T) {
	for _, r := range []api.Resp{
		{Err: 17}, {Err: 18}, {Err: 255}, {Err: 256}, {Err: 257}, {Err: -1}, {Err: -16}, {Err: -255}, {Err: 1 << 32}, {Err: math.MinInt}, {Err: math.MaxInt},
		{N: -1}, {N: 1 << 31}, {N: 1<<31 + 1}, {N: 1 << 32}, {N: 1<<32 + 1}, {N: -1 << 32}, {N: math.MinInt}, {N: math.MaxInt},
		{Got: -1}, {Got: 1 << 31}, {Got: 1<<31 + 1}, {Got: 1 << 32}, {Got: 1<<32 + 1}, {Got: -1 << 32}, {Got: math.MinInt}, {Got: math.MaxInt},
		{Err: 17, N: -1}, {Err: -1, Got: -1}, {N: 1 << 31, Got: -1}, {Err: 17, N: 1 << 31, Got: 1 << 31}, {Err: -1, N: -1, Got: -1},
	} {
		if got := Answer(r); len(got) != 0 {
			t.Fatalf("P1801: Answer of %+v: %x", r, got)
		}
	}
}

func TestAnswerAtEachEdge(t *testing.T) {
	for _, e := range edges() {
		for _, n := range edges() {
			for _, got := range edges() {
				r := api.Resp{Err: api.Errno(e), N: n, Got: got}
				answerIs(t, "P1801", r, answered(r))
			}
		}
	}
}

func TestReadAnswerOfNone(t *testing.T) {
	for _, b := range []string{
		"", "\x00", "\x11\x00\x00\x00\x00\x00\x00\x00\x00", "\x12\x00\x00\x00\x00\x00\x00\x00\x00", "\x80\x00\x00\x00\x00\x00\x00\x00\x00", "\xff\x00\x00\x00\x00\x00\x00\x00\x00",
		"\x00\x80\x00\x00\x00\x00\x00\x00\x00", "\x00\x80\x00\x00\x01\x00\x00\x00\x00", "\x00\xff\xff\xff\xff\x00\x00\x00\x00",
		"\x00\x00\x00\x00\x00\x80\x00\x00\x00", "\x00\x00\x00\x00\x00\x80\x00\x00\x01", "\x00\x00\x00\x00\x00\xff\xff\xff\xff",
		"\x11\x80\x00\x00\x00\x80\x00\x00\x00", "\xff\xff\xff\xff\xff\xff\xff\xff\xff",
	} {
		answerRefused(t, []byte(b))
	}
	answerRefused(t, nil)
}

func TestReadAnswerOfEachLength(t *testing.T) {
	for _, r := range []api.Resp{{}, {Err: 1}, {Err: 16, N: top, Got: top}, {Err: 3, N: 1, Got: 256}} {
		b := Answer(r)
		for k := range len(b) {
			answerRefused(t, b[:k])
			answerRefused(t, b[k+1:])
		}
		for _, behind := range [][]byte{{0}, {1}, {255}, {0, 0}, b, make([]byte, 256), make([]byte, 65536)} {
			answerRefused(t, slices.Concat(b, behind))
			answerRefused(t, slices.Concat(behind[:1], b))
		}
		heardIs(t, "P1801", b, r, api.OK)
	}
}

func TestReadAnswerOfEachNumber(t *testing.T) {
	nums := []uint32{0, 1, 255, 256, 1 << 24, top - 1, top, top + 1, top + 2, 1<<32 - 1}
	for e := range 256 {
		for _, n := range nums {
			for _, got := range nums {
				b := binary.BigEndian.AppendUint32([]byte{byte(e)}, n)
				b = binary.BigEndian.AppendUint32(b, got)
				r, err := heard(b)
				heardIs(t, "P1801", b, r, err)
				if right := e <= 16 && n <= top && got <= top; right != (err == api.OK) {
					t.Fatalf("the second reading of %x: error %d", b, err)
				}
			}
		}
	}
}

// TestApart: what one kind of message is written as isn't read as the other by its length alone.
func TestApart(t *testing.T) {
	for n := range 3 {
		q := api.Req{Kind: 1, N: 1, Bytes: make([]byte, n)}
		b := Bytes(q)
		r, e := heard(b)
		heardIs(t, "P1801", b, r, e)
		readIs(t, "P1801", b, q, api.OK)
	}
	answerRefused(t, Bytes(api.Req{Kind: 9}))
	refused(t, Answer(api.Resp{Err: 9, N: 1, Got: 1}))
	both := []byte{2, 0, 0, 0, 1, 0, 2, 0, 5}
	readIs(t, "P1801", both, api.Req{Kind: 2, N: 1, Bytes: []byte{0, 5}}, api.OK)
	heardIs(t, "P1801", both, api.Resp{Err: 2, N: 1, Got: 1<<17 + 5}, api.OK)
}

func TestReadOfBytes(t *testing.T) {
	c := chance(4)
	for range 20000 {
		size := c.below(40)
		if c.below(20) == 0 {
			size = c.below(1001)
		}
		q := api.Req{Kind: 1 + c.below(9), N: c.num(), Bytes: c.row(size)}
		b := Bytes(q)
		readIs(t, "P1802", b, q, api.OK)
		if got, _ := Read(b); !bytes.Equal(Bytes(got), b) {
			t.Fatalf("P1802: %s is written as other bytes once it was read", show(q))
		}
		r := api.Resp{Err: api.Errno(c.below(17)), N: c.num(), Got: c.num()}
		heardIs(t, "P1802", Answer(r), r, api.OK)
	}
}

// nearly makes bytes that are a request's, or would be but for little.
func (c *chance) nearly() []byte {
	b := written(api.Req{Kind: 1 + c.below(9), N: c.num(), Bytes: c.row(c.one([]int{0, 1, 2, 3, 20, 255, 256, 257, 1000}))})
	for range c.below(3) {
		switch at := c.below(min(9, len(b))); c.below(6) {
		case 0:
			b[at] = byte(c.below(256))
		case 1:
			b[at] ^= 1 << c.below(8)
		case 2:
			b = b[:max(1, len(b)-1-c.below(3))]
		case 3:
			b = append(b, c.row(1+c.below(3))...)
		case 4:
			b[at]++
		case 5:
			b[at]--
		}
	}
	return b
}

// TestWrittenAgain: what is read without an error is written as the same bytes, so that there is one row of bytes for each request.
func TestWrittenAgain(t *testing.T) {
	c := chance(5)
	taken, left := 0, 0
	for range 60000 {
		b := c.nearly()
		q, e := stands(b)
		readIs(t, "P1801", b, q, e)
		if got, e := Read(b); e != api.OK {
			left++
		} else if taken++; !bytes.Equal(Bytes(got), b) {
			t.Fatalf("P1802: %x.. is read as %s, and written as others", b[:min(12, len(b))], show(got))
		}
	}
	if taken < 10000 || left < 10000 {
		t.Fatalf("%d were read, %d refused", taken, left)
	}
}

func TestAnswerWrittenAgain(t *testing.T) {
	c := chance(6)
	taken, left := 0, 0
	for range 60000 {
		b := c.row(c.one([]int{8, 9, 9, 9, 9, 10}))
		b[0] = byte(c.below(20))
		b[1] >>= c.below(8)
		b[5] >>= c.below(8)
		r, e := heard(b)
		heardIs(t, "P1801", b, r, e)
		if got, e := ReadAnswer(b); e != api.OK {
			left++
		} else if taken++; !bytes.Equal(Answer(got), b) {
			t.Fatalf("P1802: %x is read as %+v, and written as %x", b, got, Answer(got))
		}
	}
	if taken < 10000 || left < 10000 {
		t.Fatalf("%d were read, %d refused", taken, left)
	}
}

// inRow is b within a longer row, with bytes of 0xa5 ahead of it and in its spare room.
func inRow(b []byte) (row, part []byte) {
	row = bytes.Repeat([]byte{0xa5}, len(b)+64)
	copy(row[32:], b)
	return row, row[32 : 32+len(b)]
}

func TestHandedInStays(t *testing.T) {
	c := chance(7)
	for i := range 3000 {
		b := c.nearly()
		row, part := inRow(b)
		was := bytes.Clone(row)
		Read(part)
		ReadAnswer(part)
		ReadAnswer(part[:min(9, len(part))])
		Bytes(api.Req{Kind: i % 11, N: i - 10, Bytes: part})
		if !bytes.Equal(row, was) {
			t.Fatalf("P1802: what was handed in turned: %x, not %x", row, was)
		}
	}
}

// flip turns each byte of b, its spare room's too.
func flip(b []byte) {
	b = b[:cap(b)]
	for i := range b {
		b[i] ^= 0xff
	}
}

// TestNewMemory: whoever turns what was answered, or what was handed in behind the call, turns nothing else.
func TestNewMemory(t *testing.T) {
	c := chance(8)
	for _, size := range []int{0, 1, 2, 8, 255, 256, 1000} {
		q := api.Req{Kind: 1 + c.below(9), N: c.num(), Bytes: c.row(size)}
		want := written(q)
		row, part := inRow(q.Bytes)
		asked := api.Req{Kind: q.Kind, N: q.N, Bytes: part}
		first, second := Bytes(asked), Bytes(asked)
		was := bytes.Clone(row)
		flip(first)
		if !bytes.Equal(row, was) || !bytes.Equal(second, want) || !bytes.Equal(Bytes(asked), want) {
			t.Fatalf("P1802: Bytes of %d share memory", size)
		}
		flip(row)
		if !bytes.Equal(second, want) {
			t.Fatalf("P1802: Bytes of %d are kept", size)
		}
		readApart(t, q, want)
	}
	r := api.Resp{Err: 2, N: 3, Got: 4}
	first, second := Answer(r), Answer(r)
	flip(first)
	if !bytes.Equal(second, answered(r)) || !bytes.Equal(Answer(r), answered(r)) {
		t.Fatal("P1802: Answer shares memory")
	}
}

// readApart fails unless what is read of want, which is q's bytes, is memory of its own.
func readApart(t *testing.T, q api.Req, want []byte) {
	t.Helper()
	row, part := inRow(want)
	was := bytes.Clone(row)
	first, _ := Read(part)
	second, _ := Read(part)
	flip(first.Bytes)
	if !bytes.Equal(row, was) || !sameReq(second, q) {
		t.Fatalf("P1802: Read of %d shares memory", len(want))
	}
	readIs(t, "P1802", part, q, api.OK)
	flip(row)
	if !sameReq(second, q) {
		t.Fatalf("P1802: Read of %d is kept", len(want))
	}
}

// call is one call of the package with some arguments, told as text.
func call(i int) string {
	c := chance(i)
	switch i % 4 {
	case 0:
		return fmt.Sprintf("%x", Bytes(api.Req{Kind: c.below(11), N: c.one(edges()), Bytes: c.row(c.below(20))}))
	case 1:
		q, e := Read(c.nearly())
		return fmt.Sprint(show(q), e)
	case 2:
		return fmt.Sprintf("%x", Answer(api.Resp{Err: api.Errno(c.below(18)), N: c.num(), Got: c.num()}))
	}
	r, e := ReadAnswer(answered(api.Resp{Err: api.Errno(c.below(17)), N: c.num(), Got: c.num()}))
	return fmt.Sprint(r, e)
}

// TestNothingIsKept: what a call answers is the same behind each other call.
func TestNothingIsKept(t *testing.T) {
	const calls = 80
	var want []string
	for i := range calls {
		want = append(want, call(i))
	}
	for i := range calls {
		for j := range calls {
			if got := call(j) + call(i); got != want[j]+want[i] {
				t.Fatalf("P1802: call %d behind call %d: %s, not %s", i, j, got, want[j]+want[i])
			}
		}
	}
}

func TestAtOnce(t *testing.T) {
	const calls = 200
	var want [calls]string
	for i := range want {
		want[i] = call(i)
	}
	var all sync.WaitGroup
	for from := range 8 {
		all.Go(func() {
			for i := range calls {
				if at := (i*7 + from*11) % calls; call(at) != want[at] {
					t.Errorf("P1802: call %d has another answer beside others", at)
				}
			}
		})
	}
	all.Wait()
}
