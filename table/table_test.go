package table

import (
	"math"
	"math/big"
	"testing"
)

// firsts has the first values as FIPS 180-4, 5.3.2 to 5.3.5, writes them.
var firsts = map[int][8]uint64{
	224: {0xc1059ed8, 0x367cd507, 0x3070dd17, 0xf70e5939, 0xffc00b31, 0x68581511, 0x64f98fa7, 0xbefa4fa4},
	256: {0x6a09e667, 0xbb67ae85, 0x3c6ef372, 0xa54ff53a, 0x510e527f, 0x9b05688c, 0x1f83d9ab, 0x5be0cd19},
	384: {
		0xcbbb9d5dc1059ed8, 0x629a292a367cd507, 0x9159015a3070dd17, 0x152fecd8f70e5939,
		0x67332667ffc00b31, 0x8eb44a8768581511, 0xdb0c2e0d64f98fa7, 0x47b5481dbefa4fa4,
	},
	512: {
		0x6a09e667f3bcc908, 0xbb67ae8584caa73b, 0x3c6ef372fe94f82b, 0xa54ff53a5f1d36f1,
		0x510e527fade682d1, 0x9b05688c2b3e6c1f, 0x1f83d9abfb41bd6b, 0x5be0cd19137e2179,
	},
}

// k32 has the words of K as FIPS 180-4, 4.2.2, writes them.
var k32 = [64]uint32{
	0x428a2f98, 0x71374491, 0xb5c0fbcf, 0xe9b5dba5, 0x3956c25b, 0x59f111f1, 0x923f82a4, 0xab1c5ed5,
	0xd807aa98, 0x12835b01, 0x243185be, 0x550c7dc3, 0x72be5d74, 0x80deb1fe, 0x9bdc06a7, 0xc19bf174,
	0xe49b69c1, 0xefbe4786, 0x0fc19dc6, 0x240ca1cc, 0x2de92c6f, 0x4a7484aa, 0x5cb0a9dc, 0x76f988da,
	0x983e5152, 0xa831c66d, 0xb00327c8, 0xbf597fc7, 0xc6e00bf3, 0xd5a79147, 0x06ca6351, 0x14292967,
	0x27b70a85, 0x2e1b2138, 0x4d2c6dfc, 0x53380d13, 0x650a7354, 0x766a0abb, 0x81c2c92e, 0x92722c85,
	0xa2bfe8a1, 0xa81a664b, 0xc24b8b70, 0xc76c51a3, 0xd192e819, 0xd6990624, 0xf40e3585, 0x106aa070,
	0x19a4c116, 0x1e376c08, 0x2748774c, 0x34b0bcb5, 0x391c0cb3, 0x4ed8aa4a, 0x5b9cca4f, 0x682e6ff3,
	0x748f82ee, 0x78a5636f, 0x84c87814, 0x8cc70208, 0x90befffa, 0xa4506ceb, 0xbef9a3f7, 0xc67178f2,
}

// primes tells the first n primes by the library's own search, so that the tests lean on no lower layer.
func primes(n int) []int64 {
	var l []int64
	for p := int64(2); len(l) < n; p++ {
		if big.NewInt(p).ProbablyPrime(20) {
			l = append(l, p)
		}
	}
	return l
}

// isPart tells whether part is the first so many bits behind the point of p's root:
// with a whole part ahead of it, its power isn't more than p, and the next one's is.
func isPart(p int64, degree int64, part uint64, size uint) bool {
	for whole := int64(0); whole*whole <= p; whole++ {
		cut := new(big.Int).Lsh(big.NewInt(whole), size)
		cut.Add(cut, new(big.Int).SetUint64(part))
		next := new(big.Int).Add(cut, big.NewInt(1))
		by := big.NewInt(degree)
		of := new(big.Int).Lsh(big.NewInt(p), size*uint(degree))
		if cut.Exp(cut, by, nil).Cmp(of) <= 0 && next.Exp(next, by, nil).Cmp(of) > 0 {
			return part>>(size-1) <= 1
		}
	}
	return false
}

// others has numbers of bits that are no kind: edges, neighbours, other hashes' lengths, and those that only their lower bits make one.
func others() []int {
	l := []int{
		math.MinInt, math.MinInt + 256, math.MinInt32, math.MaxInt32, math.MaxInt, math.MaxInt - 255,
		1<<32 + 224, 1<<32 + 256, 1<<32 + 384, 1<<32 + 512, 1<<16 + 256, -1<<32 + 256,
	}
	for bits := -1100; bits <= 1100; bits++ {
		if _, one := firsts[bits]; !one {
			l = append(l, bits)
		}
	}
	return l
}

func TestK32Told(t *testing.T) { // P6.1
	got := K32()
	for at, want := range k32 {
		if got[at] != want {
			t.Errorf("K32()[%d] = %08x, want %08x", at, got[at], want)
		}
	}
}

func TestK64Told(t *testing.T) { // P6.1: the ends, the chapter's example among them, and words between
	got := K64()
	for at, want := range map[int]uint64{
		0: 0x428a2f98d728ae22, 1: 0x7137449123ef65cd, 2: 0xb5c0fbcfec4d3b2f, 3: 0xe9b5dba58189dbbc,
		16: 0xe49b69c19ef14ad2, 31: 0x142929670a0e6e70, 47: 0x106aa07032bbd1b8, 63: 0xc67178f2e372532b,
		64: 0xca273eceea26619c, 65: 0xd186b8c721c0c207, 78: 0x5fcb6fab3ad6faec, 79: 0x6c44198c4a475817,
	} {
		if got[at] != want {
			t.Errorf("K64()[%d] = %016x, want %016x", at, got[at], want)
		}
	}
}

func TestKOfCubeRoots(t *testing.T) { // P6.1: each word, by what a cut root is
	short, long := K32(), K64()
	for at, p := range primes(len(long)) {
		if !isPart(p, 3, long[at], 64) {
			t.Errorf("K64()[%d] = %016x isn't of the cube root of %d", at, long[at], p)
		}
		if at < len(short) && !isPart(p, 3, uint64(short[at]), 32) {
			t.Errorf("K32()[%d] = %08x isn't of the cube root of %d", at, short[at], p)
		}
	}
}

func TestFirstTold(t *testing.T) { // P6.1
	for bits, want := range firsts {
		if got := First(bits); got != want {
			t.Errorf("First(%d) = %x, want %x", bits, got, want)
		}
	}
}

func TestFirstOfSquareRoots(t *testing.T) { // P6.1: each word, by what a cut root is; the ninth prime begins SHA-384's
	l := primes(16)
	for at := range 8 {
		if x := First(256)[at]; !isPart(l[at], 2, x, 32) {
			t.Errorf("First(256)[%d] = %x isn't of the square root of %d", at, x, l[at])
		}
		if x := First(512)[at]; !isPart(l[at], 2, x, 64) {
			t.Errorf("First(512)[%d] = %x isn't of the square root of %d", at, x, l[at])
		}
		x := First(384)[at]
		if !isPart(l[8+at], 2, x, 64) {
			t.Errorf("First(384)[%d] = %x isn't of the square root of %d", at, x, l[8+at])
		}
		if got, want := First(224)[at], x%(1<<32); got != want {
			t.Errorf("First(224)[%d] = %x, want the lower half of %x", at, got, x)
		}
	}
}

func TestHas(t *testing.T) { // P6.1
	for bits := range firsts {
		if !Has(bits) {
			t.Errorf("Has(%d) = false", bits)
		}
	}
}

func TestOtherBits(t *testing.T) { // P6.1: noughts of any other bits, and they aren't one of the four
	for _, bits := range others() {
		if got := First(bits); got != [8]uint64{} {
			t.Errorf("First(%d) = %x, want noughts", bits, got)
		}
		if Has(bits) {
			t.Errorf("Has(%d) = true", bits)
		}
	}
}

func TestAnswersStandAlone(t *testing.T) { // rules R4 and R5: writing into an answer, and other calls, make no difference to a later one
	short, long, first := K32(), K64(), First(512)
	clear(short[:])
	clear(long[:])
	clear(first[:])
	for _, bits := range others() {
		First(bits)
		Has(bits)
	}
	if K32() != k32 || K64()[0] != 0x428a2f98d728ae22 || K64()[79] != 0x6c44198c4a475817 || First(512) != firsts[512] {
		t.Error("the tables hang on what was done with an earlier answer")
	}
}

func TestManyAtOnce(t *testing.T) { // rule R1: functions that have no object may be called by several goroutines at once
	long := K64()
	right := make(chan bool)
	const callers = 8
	for range callers {
		go func() {
			same := true
			for bits, want := range firsts {
				same = same && First(bits) == want && Has(bits) && K32() == k32 && K64() == long
			}
			right <- same
		}()
	}
	for range callers {
		if !<-right {
			t.Error("several goroutines at once were told otherwise than one")
		}
	}
}
