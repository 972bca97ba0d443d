package load

import (
	"bytes"
	"encoding/binary"
	"slices"
	"testing"
)

// mixed has bytes that are all unlike, high bits set and not, and ends that fill no word.
var mixed = []byte{
	0xf0, 0xe1, 0xd2, 0xc3, 0xb4, 0xa5, 0x96, 0x87, 0x78, 0x69, 0x5a, 0x4b, 0x3c, 0x2d, 0x1e, 0x0f,
	0xfe, 0x80, 0x01, 0x7f, 0x00, 0xff,
}

// run tells n bytes that repeat at no word's size.
func run(n int) []byte {
	b := make([]byte, n)
	for at := range b {
		b[at] = byte(at*167 + at/251 + 13)
	}
	return b
}

func TestWordsTold(t *testing.T) { // P3.1
	for _, c := range []struct {
		n        int
		big32    []uint32
		big64    []uint64
		little64 []uint64
	}{
		{0, nil, nil, nil},
		{1, nil, nil, nil},
		{3, nil, nil, nil},
		{4, []uint32{0xf0e1d2c3}, nil, nil},
		{5, []uint32{0xf0e1d2c3}, nil, nil},
		{7, []uint32{0xf0e1d2c3}, nil, nil},
		{8, []uint32{0xf0e1d2c3, 0xb4a59687}, []uint64{0xf0e1d2c3b4a59687}, []uint64{0x8796a5b4c3d2e1f0}},
		{9, []uint32{0xf0e1d2c3, 0xb4a59687}, []uint64{0xf0e1d2c3b4a59687}, []uint64{0x8796a5b4c3d2e1f0}},
		{12, []uint32{0xf0e1d2c3, 0xb4a59687, 0x78695a4b}, []uint64{0xf0e1d2c3b4a59687}, []uint64{0x8796a5b4c3d2e1f0}},
		{15, []uint32{0xf0e1d2c3, 0xb4a59687, 0x78695a4b}, []uint64{0xf0e1d2c3b4a59687}, []uint64{0x8796a5b4c3d2e1f0}},
		{16, []uint32{0xf0e1d2c3, 0xb4a59687, 0x78695a4b, 0x3c2d1e0f}, []uint64{0xf0e1d2c3b4a59687, 0x78695a4b3c2d1e0f}, []uint64{0x8796a5b4c3d2e1f0, 0x0f1e2d3c4b5a6978}},
		{17, []uint32{0xf0e1d2c3, 0xb4a59687, 0x78695a4b, 0x3c2d1e0f}, []uint64{0xf0e1d2c3b4a59687, 0x78695a4b3c2d1e0f}, []uint64{0x8796a5b4c3d2e1f0, 0x0f1e2d3c4b5a6978}},
		{22, []uint32{0xf0e1d2c3, 0xb4a59687, 0x78695a4b, 0x3c2d1e0f, 0xfe80017f}, []uint64{0xf0e1d2c3b4a59687, 0x78695a4b3c2d1e0f}, []uint64{0x8796a5b4c3d2e1f0, 0x0f1e2d3c4b5a6978}},
	} {
		b := mixed[:c.n:c.n]
		if got := Big32(b); !slices.Equal(got, c.big32) {
			t.Errorf("Big32(%x) = %08x, want %08x", b, got, c.big32)
		}
		if got := Big64(b); !slices.Equal(got, c.big64) {
			t.Errorf("Big64(%x) = %016x, want %016x", b, got, c.big64)
		}
		if got := Little64(b); !slices.Equal(got, c.little64) {
			t.Errorf("Little64(%x) = %016x, want %016x", b, got, c.little64)
		}
	}
}

func TestExamples(t *testing.T) { // P3.1, P3.2: the chapter's examples
	if got := Big32([]byte{1, 2, 3, 4, 5}); !slices.Equal(got, []uint32{0x01020304}) {
		t.Errorf("Big32(0102030405) = %08x", got)
	}
	if got := PutLittle64(1); !bytes.Equal(got, []byte{1, 0, 0, 0, 0, 0, 0, 0}) {
		t.Errorf("PutLittle64(1) = %x", got)
	}
}

func TestWordsOfEachLength(t *testing.T) { // P3.1: whatever is left behind the last full word is left out
	for n := range 300 {
		b := run(n)
		var big32 []uint32
		var big64, little64 []uint64
		for at := 0; at+4 <= n; at += 4 {
			big32 = append(big32, binary.BigEndian.Uint32(b[at:]))
		}
		for at := 0; at+8 <= n; at += 8 {
			big64 = append(big64, binary.BigEndian.Uint64(b[at:]))
			little64 = append(little64, binary.LittleEndian.Uint64(b[at:]))
		}
		if got := Big32(b); !slices.Equal(got, big32) {
			t.Fatalf("Big32 of %d bytes = %08x, want %08x", n, got, big32)
		}
		if got := Big64(b); !slices.Equal(got, big64) {
			t.Fatalf("Big64 of %d bytes = %016x, want %016x", n, got, big64)
		}
		if got := Little64(b); !slices.Equal(got, little64) {
			t.Fatalf("Little64 of %d bytes = %016x, want %016x", n, got, little64)
		}
	}
}

func TestNoBytesAndNoWords(t *testing.T) { // P3.1, P3.2
	for _, b := range [][]byte{nil, {}, mixed[:0]} {
		if l := Big32(b); len(l) != 0 {
			t.Errorf("Big32 of nothing = %x", l)
		}
		if l := Big64(b); len(l) != 0 {
			t.Errorf("Big64 of nothing = %x", l)
		}
		if l := Little64(b); len(l) != 0 {
			t.Errorf("Little64 of nothing = %x", l)
		}
	}
	for _, got := range [][]byte{
		PutBig32(), PutBig32(nil...), PutBig32([]uint32{}...),
		PutBig64(), PutBig64(nil...), PutBig64([]uint64{}...),
		PutLittle64(), PutLittle64(nil...), PutLittle64([]uint64{}...),
		Xor(nil, nil), Xor([]byte{}, nil), Xor(nil, mixed), Xor(mixed, nil), Xor(mixed, []byte{}),
	} {
		if len(got) != 0 {
			t.Errorf("of nothing: %x", got)
		}
	}
}

func TestPutTold(t *testing.T) { // P3.2
	for _, c := range []struct {
		name      string
		got, want []byte
	}{
		{"PutBig32", PutBig32(0x01020304), []byte{1, 2, 3, 4}},
		{"PutBig32", PutBig32(0xfffefdfc, 0, 1, 0x80000000), []byte{0xff, 0xfe, 0xfd, 0xfc, 0, 0, 0, 0, 0, 0, 0, 1, 0x80, 0, 0, 0}},
		{"PutBig64", PutBig64(0x0102030405060708), []byte{1, 2, 3, 4, 5, 6, 7, 8}},
		{"PutBig64", PutBig64(1<<63, 0xfffefdfcfbfaf9f8, 1), []byte{
			0x80, 0, 0, 0, 0, 0, 0, 0, 0xff, 0xfe, 0xfd, 0xfc, 0xfb, 0xfa, 0xf9, 0xf8, 0, 0, 0, 0, 0, 0, 0, 1}},
		{"PutLittle64", PutLittle64(0x0102030405060708), []byte{8, 7, 6, 5, 4, 3, 2, 1}},
		{"PutLittle64", PutLittle64(1<<63, 0xfffefdfcfbfaf9f8, 1), []byte{
			0, 0, 0, 0, 0, 0, 0, 0x80, 0xf8, 0xf9, 0xfa, 0xfb, 0xfc, 0xfd, 0xfe, 0xff, 1, 0, 0, 0, 0, 0, 0, 0}},
	} {
		if !bytes.Equal(c.got, c.want) {
			t.Errorf("%s = %x, want %x", c.name, c.got, c.want)
		}
	}
}

func TestPutBringsBack(t *testing.T) { // P3.1, P3.2: the bytes of the words of full bytes are these bytes
	for n := 0; n <= 400; n += 8 {
		b := run(n)
		if got := PutBig32(Big32(b)...); !bytes.Equal(got, b) {
			t.Errorf("PutBig32 of %d bytes' words = %x, want %x", n, got, b)
		}
		if got := PutBig64(Big64(b)...); !bytes.Equal(got, b) {
			t.Errorf("PutBig64 of %d bytes' words = %x, want %x", n, got, b)
		}
		if got := PutLittle64(Little64(b)...); !bytes.Equal(got, b) {
			t.Errorf("PutLittle64 of %d bytes' words = %x, want %x", n, got, b)
		}
	}
}

func TestPutOfMany(t *testing.T) { // P3.2
	const n = 20000
	words32, words64 := make([]uint32, n), make([]uint64, n)
	var big32, big64, little64 []byte
	for at := range n {
		words64[at] = uint64(at+1) * 0x9e3779b97f4a7c15
		words32[at] = uint32(words64[at] % (1 << 32))
		big32 = binary.BigEndian.AppendUint32(big32, words32[at])
		big64 = binary.BigEndian.AppendUint64(big64, words64[at])
		little64 = binary.LittleEndian.AppendUint64(little64, words64[at])
	}
	if !bytes.Equal(PutBig32(words32...), big32) {
		t.Error("PutBig32 of many words")
	}
	if !bytes.Equal(PutBig64(words64...), big64) {
		t.Error("PutBig64 of many words")
	}
	if !bytes.Equal(PutLittle64(words64...), little64) {
		t.Error("PutLittle64 of many words")
	}
}

func TestXorTold(t *testing.T) { // P3.2
	for _, c := range []struct{ a, b, want []byte }{
		{[]byte{1, 2, 3}, []byte{3, 2, 1}, []byte{2, 0, 2}},
		{[]byte{0xff, 0x0f, 0xaa}, []byte{0xf0, 0x0f, 0x55}, []byte{0x0f, 0, 0xff}},
		{[]byte{1, 2, 3}, []byte{3, 2}, []byte{2, 0}},
		{[]byte{3}, []byte{1, 2, 3}, []byte{2}},
		{mixed, mixed, make([]byte, len(mixed))},
		{mixed, make([]byte, 100), mixed},
		{make([]byte, 100), mixed, mixed},
	} {
		if got := Xor(c.a, c.b); !bytes.Equal(got, c.want) {
			t.Errorf("Xor(%x, %x) = %x, want %x", c.a, c.b, got, c.want)
		}
	}
}

func TestXorOfEachByte(t *testing.T) { // P3.2
	var a, b, want []byte
	for x := range 256 {
		for y := range 256 {
			a, b = append(a, byte(x)), append(b, byte(y))
			want = append(want, byte(x^y))
		}
	}
	if got := Xor(a, b); !bytes.Equal(got, want) {
		t.Error("Xor of all pairs of bytes")
	}
}

func TestXorOfUnlikeLengths(t *testing.T) { // P3.2
	for n := range 40 {
		for m := range 40 {
			a, b := run(n), run(m + 1)[1:]
			got := Xor(a, b)
			if len(got) != min(n, m) {
				t.Fatalf("Xor of %d and %d bytes has %d", n, m, len(got))
			}
			for at, x := range got {
				if x != a[at]^b[at] {
					t.Fatalf("Xor of %d and %d bytes at %d = %02x", n, m, at, x)
				}
			}
		}
	}
}

func TestArgumentsStay(t *testing.T) { // rule R4: neither bytes nor words, nor the room behind them, are changed
	b, c := run(64), run(64)
	Big32(b[:21])
	Big64(b[:21])
	Little64(b[:21])
	Xor(b[:21], c[:10])
	Xor(b[:10], c[:21])
	if !bytes.Equal(b, run(64)) || !bytes.Equal(c, run(64)) {
		t.Errorf("bytes were changed: %x, %x", b, c)
	}
	words32, words64 := []uint32{0x01020304, 2, 3, 4}, []uint64{0x0102030405060708, 2, 3, 4}
	PutBig32(words32[:2]...)
	PutBig64(words64[:2]...)
	PutLittle64(words64[:2]...)
	if !slices.Equal(words32, []uint32{0x01020304, 2, 3, 4}) || !slices.Equal(words64, []uint64{0x0102030405060708, 2, 3, 4}) {
		t.Errorf("words were changed: %x, %x", words32, words64)
	}
}

// spoilt fills all of b's room, so that whoever shares it is found out.
func spoilt(b []byte) {
	b = b[:cap(b)]
	for at := range b {
		b[at] = 0x55
	}
}

func TestAnswersAreNew(t *testing.T) { // rules R4 and R5: an answer shares no memory with an argument or an earlier answer
	a, b := run(32), run(33)[1:]
	first := Xor(a, b)
	kept := bytes.Clone(first)
	spoilt(Xor(a, b))
	if !bytes.Equal(a, run(32)) || !bytes.Equal(b, run(33)[1:]) || !bytes.Equal(first, kept) {
		t.Error("Xor's answer shares memory")
	}
	for _, put := range []func() []byte{
		func() []byte { return PutBig32(1, 2) },
		func() []byte { return PutBig64(1, 2) },
		func() []byte { return PutLittle64(1, 2) },
	} {
		first := put()
		kept := bytes.Clone(first)
		spoilt(put())
		if !bytes.Equal(first, kept) || !bytes.Equal(put(), kept) {
			t.Errorf("bytes told before = %x, then %x, want %x", first, put(), kept)
		}
	}
	words32, words64, little64 := Big32(a), Big64(a), Little64(a)
	again32, again64, againLittle64 := Big32(a), Big64(a), Little64(a)
	clear(again32[:cap(again32)])
	clear(again64[:cap(again64)])
	clear(againLittle64[:cap(againLittle64)])
	spoilt(a)
	b = run(32)
	if !slices.Equal(words32, Big32(b)) || !slices.Equal(words64, Big64(b)) || !slices.Equal(little64, Little64(b)) {
		t.Error("words told share memory")
	}
}
