package first

import (
	"bytes"
	"crypto/sha256"
	"crypto/sha512"
	"encoding"
	"encoding/binary"
	"hash"
	"math"
	"testing"

	"cribble/api"
	"cribble/short"
	"cribble/wide"
)

// values has the first values as FIPS 180-4, 5.3.2 to 5.3.6, writes them.
var values = map[int][8]uint64{
	api.SHA224: {0xc1059ed8, 0x367cd507, 0x3070dd17, 0xf70e5939, 0xffc00b31, 0x68581511, 0x64f98fa7, 0xbefa4fa4},
	api.SHA256: {0x6a09e667, 0xbb67ae85, 0x3c6ef372, 0xa54ff53a, 0x510e527f, 0x9b05688c, 0x1f83d9ab, 0x5be0cd19},
	api.SHA384: {
		0xcbbb9d5dc1059ed8, 0x629a292a367cd507, 0x9159015a3070dd17, 0x152fecd8f70e5939,
		0x67332667ffc00b31, 0x8eb44a8768581511, 0xdb0c2e0d64f98fa7, 0x47b5481dbefa4fa4,
	},
	api.SHA512: {
		0x6a09e667f3bcc908, 0xbb67ae8584caa73b, 0x3c6ef372fe94f82b, 0xa54ff53a5f1d36f1,
		0x510e527fade682d1, 0x9b05688c2b3e6c1f, 0x1f83d9abfb41bd6b, 0x5be0cd19137e2179,
	},
	api.SHA512x224: {
		0x8c3d37c819544da2, 0x73e1996689dcd4d6, 0x1dfab7ae32ff9c82, 0x679dd514582f9fcf,
		0x0f6d2b697bd44da8, 0x77e36f7304c48942, 0x3f9d85a86a1d36c8, 0x1112e6ad91d692a1,
	},
	api.SHA512x256: {
		0x22312194fc2bf72c, 0x9f555fa3c84c64c2, 0x2393b86b6f53b151, 0x963877195940eabd,
		0x96283ee2a88effe3, 0xbe5e1e2553863992, 0x2b0199fc2c85b8aa, 0x0eb72ddc81c52ca2,
	},
}

// cuts has the shortened hashes, by t.
var cuts = map[int]int{224: api.SHA512x224, 256: api.SHA512x256}

// edges has numbers far from what is asked for, and those that only their lower bits make one of it.
func edges() []int {
	l := []int{math.MinInt, math.MinInt + 1, math.MinInt32, math.MaxInt32, math.MaxInt - 1, math.MaxInt}
	for _, x := range []int{1, 2, 3, 4, 5, 6, 224, 256, 384, 512} {
		l = append(l, -x, 1<<8+x, 1<<16+x, 1<<32+x, math.MinInt+x, -1<<32+x)
	}
	return l
}

// others has the numbers that aren't among the keys, from -1100 to 1100 and at the edges.
func others[V any](keys map[int]V) []int {
	l := edges()
	for n := -1100; n <= 1100; n++ {
		l = append(l, n)
	}
	var left []int
	for _, n := range l {
		if _, one := keys[n]; !one {
			left = append(left, n)
		}
	}
	return left
}

// turned has SHA-512 begin with its first values' words each exclusive-or A5A5A5A5A5A5A5A5, by the library alone.
func turned(t *testing.T) hash.Hash {
	t.Helper()
	state := []byte("sha\x07")
	for _, x := range values[api.SHA512] {
		state = binary.BigEndian.AppendUint64(state, x^0xa5a5a5a5a5a5a5a5)
	}
	h := sha512.New()
	// Behind the value stand a block that isn't full, here of nothing, and how many bytes were written.
	if err := h.(encoding.BinaryUnmarshaler).UnmarshalBinary(append(state, make([]byte, 128+8)...)); err != nil {
		t.Fatal(err)
	}
	return h
}

// written tells a value's words as bytes, each of so many.
func written(v [8]uint64, size int) []byte {
	var b []byte
	for _, x := range v {
		b = append(b, binary.BigEndian.AppendUint64(nil, x)[8-size:]...)
	}
	return b
}

// blockOf is the one block that the first value of SHA-512/t comes of, written out; digits are t's.
func blockOf(digits string) []byte {
	b := append([]byte("SHA-512/"+digits), 0x80)
	b = append(b, make([]byte, 128-len(b))...)
	b[127] = 88 // eleven bytes
	return b
}

func TestTruncatedTold(t *testing.T) { // P9.1: each word as the standard writes it, the chapter's example among them
	for cut, alg := range cuts {
		if got, ok := Truncated(cut); !ok || got != values[alg] {
			t.Errorf("Truncated(%d) = %016x, %t, want %016x", cut, got, ok, values[alg])
		}
	}
	if got, ok := Truncated(256); !ok || got[0] != 0x22312194fc2bf72c {
		t.Errorf("Truncated(256) begins with %016x, %t", got[0], ok)
	}
}

func TestTruncatedOfItsBlock(t *testing.T) { // P9.1: what comes of the block, and what the library makes of the text alone
	for cut, digits := range map[int]string{224: "224", 256: "256"} {
		got, ok := Truncated(cut)
		if !ok {
			t.Errorf("Truncated(%d) is nothing", cut)
		}
		h := turned(t)
		h.Write([]byte("SHA-512/" + digits))
		if want := h.Sum(nil); !bytes.Equal(written(got, 8), want) {
			t.Errorf("Truncated(%d) = %016x, want the digest %x", cut, got, want)
		}
		begin := values[api.SHA512]
		for at := range begin {
			begin[at] ^= 0xa5a5a5a5a5a5a5a5
		}
		if want := wide.Blocks(begin, blockOf(digits)); got != want {
			t.Errorf("Truncated(%d) = %016x, want %016x of its block", cut, got, want)
		}
	}
}

func TestTruncatedOfOthers(t *testing.T) { // P9.1: noughts and false of 0, below 0, 255, 384, 512 and any other
	for _, n := range append(others(cuts), 0, -1, -224, -256, 1, 223, 225, 255, 257, 384, 512) {
		if got, ok := Truncated(n); ok || got != [8]uint64{} {
			t.Errorf("Truncated(%d) = %016x, %t", n, got, ok)
		}
	}
}

func TestValueTold(t *testing.T) { // P9.2: each algorithm's words as the standard writes them
	if len(values) != 6 {
		t.Fatal("not all of the six algorithms are asked for")
	}
	for alg := 1; alg <= 6; alg++ {
		if got, ok := Value(alg); !ok || got != values[alg] {
			t.Errorf("Value(%d) = %016x, %t, want %016x", alg, got, ok, values[alg])
		}
	}
}

func TestValueOfLibrary(t *testing.T) { // P9.2: what each of the library's hashes begins with
	for _, c := range []struct {
		alg, size int
		h         hash.Hash
	}{
		{api.SHA224, 4, sha256.New224()}, {api.SHA256, 4, sha256.New()},
		{api.SHA384, 8, sha512.New384()}, {api.SHA512, 8, sha512.New()},
		{api.SHA512x224, 8, sha512.New512_224()}, {api.SHA512x256, 8, sha512.New512_256()},
	} {
		state, err := c.h.(encoding.BinaryMarshaler).MarshalBinary()
		if err != nil {
			t.Fatal(err)
		}
		want := state[4 : 4+8*c.size] // the value stands behind four bytes that say which hash it is
		if got, ok := Value(c.alg); !ok || !bytes.Equal(written(got, c.size), want) {
			t.Errorf("Value(%d) = %016x, %t, want %x", c.alg, got, ok, want)
		}
	}
}

func TestValueOfCutAsTruncated(t *testing.T) { // P9.2: Truncated of 224 and of 256
	for cut, alg := range cuts {
		want, _ := Truncated(cut)
		if got, ok := Value(alg); !ok || got != want {
			t.Errorf("Value(%d) = %016x, %t, Truncated(%d) = %016x", alg, got, ok, cut, want)
		}
	}
}

func TestValueOfShortWords(t *testing.T) { // P9.2: words of 32 bits stand in the lower halves
	for _, alg := range []int{api.SHA224, api.SHA256} {
		got, _ := Value(alg)
		for at, x := range got {
			if x>>32 != 0 || x == 0 {
				t.Errorf("Value(%d)[%d] = %016x", alg, at, x)
			}
		}
	}
}

func TestValueOfOthers(t *testing.T) { // P9.2: noughts and false of 0, below 0, 7 and more, the sponges' algorithms among them
	for _, alg := range append(others(values), 0, -1, -6, 7, 8, 13, 14, 15, 224, 256, 384, 512) {
		if got, ok := Value(alg); ok || got != [8]uint64{} {
			t.Errorf("Value(%d) = %016x, %t", alg, got, ok)
		}
	}
}

func TestDigestsOfValues(t *testing.T) { // P9.2: from its first value on, each algorithm comes to the digest of abc
	long := make([]byte, 128)
	copy(long, "abc\x80")
	long[127] = 24
	brief := make([]byte, 64)
	copy(brief, "abc\x80")
	brief[63] = 24
	abc := []byte("abc")
	sum224, sum256, sum384, sum512 := sha256.Sum224(abc), sha256.Sum256(abc), sha512.Sum384(abc), sha512.Sum512(abc)
	cut224, cut256 := sha512.Sum512_224(abc), sha512.Sum512_256(abc)
	for alg, want := range map[int][]byte{
		api.SHA224: sum224[:], api.SHA256: sum256[:], api.SHA384: sum384[:], api.SHA512: sum512[:],
		api.SHA512x224: cut224[:], api.SHA512x256: cut256[:],
	} {
		v, _ := Value(alg)
		var got []byte
		if alg <= api.SHA256 {
			var halves [8]uint32
			for at, x := range v {
				halves[at] = uint32(x)
			}
			for _, x := range short.Blocks(halves, brief) {
				got = binary.BigEndian.AppendUint32(got, x)
			}
		} else {
			got = written(wide.Blocks(v, long), 8)
		}
		if !bytes.Equal(got[:len(want)], want) {
			t.Errorf("algorithm %d: the digest of abc is %x, want %x", alg, got[:len(want)], want)
		}
	}
}

func TestAnswersStandAlone(t *testing.T) { // rules R4 and R5: writing into an answer, and other calls, make no difference to a later one
	for range 2 {
		for alg, want := range values {
			got, ok := Value(alg)
			if !ok || got != want {
				t.Errorf("Value(%d) = %016x, %t, want %016x", alg, got, ok, want)
			}
			for at := range got {
				got[at] ^= 0xffffffffffffffff
			}
			if again, ok := Value(alg); !ok || again != want {
				t.Errorf("Value(%d), asked for again = %016x, %t, want %016x", alg, again, ok, want)
			}
		}
		for cut, alg := range cuts {
			got, _ := Truncated(cut)
			clear(got[:])
			if again, ok := Truncated(cut); !ok || again != values[alg] {
				t.Errorf("Truncated(%d), asked for again = %016x, %t", cut, again, ok)
			}
		}
		for _, n := range edges() {
			none, _ := Truncated(n)
			none[0] = 1
			none, _ = Value(n)
			none[0] = 1
		}
	}
	if got, ok := Value(0); ok || got != [8]uint64{} {
		t.Errorf("Value(0), asked for again = %016x, %t", got, ok)
	}
}

func TestManyAtOnce(t *testing.T) { // rule R1: functions that have no object may be called by several goroutines at once
	right := make(chan bool)
	const callers = 8
	for range callers {
		go func() {
			same := true
			for range 20 {
				for alg, want := range values {
					got, ok := Value(alg)
					same = same && ok && got == want
				}
				for cut, alg := range cuts {
					got, ok := Truncated(cut)
					same = same && ok && got == values[alg]
				}
			}
			right <- same
		}()
	}
	for range callers {
		if !<-right {
			t.Error("several goroutines at once were told otherwise than one")
		}
	}
}
