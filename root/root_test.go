package root

import (
	"math"
	"math/big"
	"slices"
	"testing"
)

const (
	most            = 1 << 20
	thousandth      = 7919 // the 1000th prime
	mostWholeCube   = 101
	mostWholeSquare = 1024
)

// sieved tells the primes up to the greatest one by striking out, so that the tests lean on no division.
func sieved(greatest int) []uint64 {
	struck := make([]bool, greatest+1)
	var l []uint64
	for n := 2; n <= greatest; n++ {
		if struck[n] {
			continue
		}
		l = append(l, uint64(n))
		for m := n; m <= greatest; m += n {
			struck[m] = true
		}
	}
	return l
}

// arguments has the small numbers, all squares and cubes up to 2^20 and those next to them, and others between.
func arguments() []uint64 {
	var l []uint64
	near := func(p uint64) {
		for _, x := range []uint64{p - 1, p, p + 1} {
			if x <= most {
				l = append(l, x)
			}
		}
	}
	for p := range uint64(3000) {
		l = append(l, p)
	}
	for p := uint64(3001); p <= most; p += 997 {
		l = append(l, p)
	}
	for k := range uint64(mostWholeSquare + 1) {
		near(k * k)
	}
	for k := range uint64(mostWholeCube + 1) {
		near(k * k * k)
	}
	for power := uint64(1); power <= most; power *= 2 {
		near(power)
	}
	slices.Sort(l)
	return slices.Compact(l)
}

// isRoot holds whole and part, 64 bits of it behind the point, against what a cut root is: its power isn't more than p, and the next one's is.
func isRoot(p, whole, part uint64, degree int64) bool {
	unit := new(big.Int).Lsh(big.NewInt(1), 64)
	cut := new(big.Int).Mul(new(big.Int).SetUint64(whole), unit)
	cut.Add(cut, new(big.Int).SetUint64(part))
	next := new(big.Int).Add(cut, big.NewInt(1))
	by := big.NewInt(degree)
	of := new(big.Int).Exp(unit, by, nil)
	of.Mul(of, new(big.Int).SetUint64(p))
	return cut.Exp(cut, by, nil).Cmp(of) <= 0 && next.Exp(next, by, nil).Cmp(of) > 0
}

func TestPrimesTold(t *testing.T) { // P5.1
	for _, c := range []struct {
		n    int
		want []uint64
	}{
		{0, nil},
		{1, []uint64{2}},
		{2, []uint64{2, 3}},
		{3, []uint64{2, 3, 5}},
		{4, []uint64{2, 3, 5, 7}},
		{5, []uint64{2, 3, 5, 7, 11}},
		{16, []uint64{2, 3, 5, 7, 11, 13, 17, 19, 23, 29, 31, 37, 41, 43, 47, 53}},
	} {
		if got := Primes(c.n); !slices.Equal(got, c.want) {
			t.Errorf("Primes(%d) = %d, want %d", c.n, got, c.want)
		}
	}
}

func TestPrimesOfEachLength(t *testing.T) { // P5.1: whatever n, the first n of them
	all := sieved(thousandth)
	if len(all) != 1000 {
		t.Fatalf("%d primes up to %d", len(all), thousandth)
	}
	for n := range 1001 {
		if got := Primes(n); !slices.Equal(got, all[:n]) {
			t.Fatalf("Primes(%d) has %d, isn't the beginning of the primes", n, len(got))
		}
	}
}

func TestPrimesAreHeld(t *testing.T) { // P5.1: n below 0 and above 1000
	for _, n := range []int{-1, -2, -1000, -1001, math.MinInt32, math.MinInt} {
		if got := Primes(n); len(got) != 0 {
			t.Errorf("Primes(%d) = %d, want none", n, got)
		}
	}
	all := sieved(thousandth)
	for _, n := range []int{1001, 1002, 5000, math.MaxInt32, 1 << 32, 1<<32 + 1, math.MaxInt} {
		if got := Primes(n); !slices.Equal(got, all) {
			t.Errorf("Primes(%d) has %d, want the first 1000", n, len(got))
		}
	}
}

func TestPrimesAreNew(t *testing.T) { // rules R4 and R5: no two answers share memory, spare room included
	first := Primes(100)
	second := Primes(100)
	clear(second[:cap(second)])
	if want := sieved(541); !slices.Equal(first, want) || !slices.Equal(Primes(100), want) {
		t.Error("Primes' answers share memory")
	}
}

func TestRootsTold(t *testing.T) { // P5.1
	for _, c := range []struct {
		name string
		tell func(uint64) uint64
		p    uint64
		want uint64
	}{
		{"Square", Square, 2, 0x6a09e667f3bcc908}, // the chapter's examples
		{"Cube", Cube, 2, 0x428a2f98d728ae22},
		{"Square", Square, 4, 0},
		{"Cube", Cube, 8, 0},
		{"Square", Square, 0, 0},
		{"Square", Square, 1, 0},
		{"Square", Square, 3, 0xbb67ae8584caa73b},
		{"Square", Square, 5, 0x3c6ef372fe94f82b},
		{"Square", Square, 8, 0xd413cccfe7799211},
		{"Square", Square, 53, 0x47b5481dbefa4fa4},
		{"Square", Square, most, 0},
		{"Square", Square, most - 1, 0xffdfffff7ffffbff},
		{"Cube", Cube, 0, 0},
		{"Cube", Cube, 1, 0},
		{"Cube", Cube, 3, 0x7137449123ef65cd},
		{"Cube", Cube, 4, 0x965fea53d6e3c82b},
		{"Cube", Cube, 409, 0x6c44198c4a475817},
		{"Cube", Cube, 1000000, 0},
	} {
		if got := c.tell(c.p); got != c.want {
			t.Errorf("%s(%d) = %016x, want %016x", c.name, c.p, got, c.want)
		}
	}
}

func TestRootsOfPrimes(t *testing.T) { // P5.1: the words at the ends of the tables of FIPS 180-4
	primes := Primes(80)
	for _, c := range []struct {
		name      string
		got, want uint64
	}{
		{"SHA-512's first value", Square(primes[0]), 0x6a09e667f3bcc908},
		{"SHA-512's last value", Square(primes[7]), 0x5be0cd19137e2179},
		{"SHA-384's first value", Square(primes[8]), 0xcbbb9d5dc1059ed8},
		{"SHA-384's last value", Square(primes[15]), 0x47b5481dbefa4fa4},
		{"SHA-256's last word of K", Cube(primes[63]) >> 32, 0xc67178f2},
		{"SHA-512's last word of K", Cube(primes[79]), 0x6c44198c4a475817},
	} {
		if c.got != c.want {
			t.Errorf("%s = %016x, want %016x", c.name, c.got, c.want)
		}
	}
}

func TestWholeTold(t *testing.T) { // P5.1
	for _, c := range []struct{ p, square, cube uint64 }{
		{0, 0, 0}, {1, 1, 1}, {2, 1, 1}, {3, 1, 1}, {4, 2, 1}, {5, 2, 1},
		{7, 2, 1}, {8, 2, 2}, {9, 3, 2}, {10, 3, 2},
		{26, 5, 2}, {27, 5, 3}, {28, 5, 3}, {63, 7, 3}, {64, 8, 4}, {65, 8, 4},
		{999999, 999, 99}, {1000000, 1000, 100}, {1000001, 1000, 100},
		{1030300, 1015, 100}, {1030301, 1015, 101}, {1030302, 1015, 101},
		{1046528, 1022, 101}, {1046529, 1023, 101}, {1046530, 1023, 101},
		{most - 1, 1023, 101}, {most, 1024, 101},
	} {
		if square, cube := Whole(c.p); square != c.square || cube != c.cube {
			t.Errorf("Whole(%d) = %d, %d, want %d, %d", c.p, square, cube, c.square, c.cube)
		}
	}
}

func TestRootsOfAll(t *testing.T) { // P5.1: whole root or not, and next to those whose root is whole
	for _, p := range arguments() {
		square, cube := Whole(p)
		if part := Square(p); !isRoot(p, square, part, 2) {
			t.Fatalf("of %d: Whole %d, Square %016x, not the square root", p, square, part)
		}
		if part := Cube(p); !isRoot(p, cube, part, 3) {
			t.Fatalf("of %d: Whole %d, Cube %016x, not the cube root", p, cube, part)
		}
	}
}

func TestPartsNextToWholeRoots(t *testing.T) { // P5.1: nought at a whole root, small behind it, near 2^64 ahead of it
	isEdge := func(name string, tell func(uint64) uint64, p, least uint64) {
		if got := tell(p); got != 0 {
			t.Errorf("%s(%d) = %016x, want 0", name, p, got)
		}
		if got := tell(p - 1); got < -least {
			t.Errorf("%s(%d) = %016x, want near 2^64", name, p-1, got)
		}
		if p == most {
			return
		}
		if got := tell(p + 1); got == 0 || got > least {
			t.Errorf("%s(%d) = %016x, want small", name, p+1, got)
		}
	}
	for k := uint64(16); k <= mostWholeSquare; k++ {
		isEdge("Square", Square, k*k, 1<<63/(k-1))
	}
	for k := uint64(16); k <= mostWholeCube; k++ {
		isEdge("Cube", Cube, k*k*k, 1<<63/((k-1)*(k-1)))
	}
}

func TestCallsRememberNothing(t *testing.T) { // rule R5: the same call tells the same, whatever was called between
	tell := func() [4]uint64 {
		square, cube := Whole(1000003)
		return [4]uint64{Square(1000003), Cube(1000003), square, cube}
	}
	first := tell()
	for p := range uint64(100) {
		Square(p)
		Cube(most - p)
		Whole(p * p)
		Primes(int(p))
	}
	if again := tell(); first != again {
		t.Errorf("first %x, again %x", first, again)
	}
}
