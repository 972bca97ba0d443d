// Package word is layer 1: the operations on 32-bit words that SHA-224 and SHA-256 are made of.
package word

const size = 32

// By how far Big and Small turn, a row for each which (FIPS 180-4, 4.1.2).
var (
	bigTurns   = [2][3]int{{2, 13, 22}, {6, 11, 25}}
	smallTurns = [2][2]int{{7, 18}, {17, 19}}
)

// The standard shifts Small's last part where Big turns all three, so its distances stand apart.
var smallShifts = [2]int{3, 10}

// Turn tells x turned to the right by n, modulo 32.
func Turn(x uint32, n int) uint32 {
	// The lower bits of a number below 0 are those of what it leaves over from 0 on.
	k := uint(n) % size
	return x>>k | x<<(size-k)
}

// Shift tells x shifted to the right by n; n below 0 counts as 0.
func Shift(x uint32, n int) uint32 {
	return x >> uint(max(n, 0))
}

// Ch tells y's bits where x has 1, else z's.
func Ch(x, y, z uint32) uint32 {
	return x&y | ^x&z
}

// Maj tells bit by bit what two of the three at least have.
func Maj(x, y, z uint32) uint32 {
	return x&y | x&z | y&z
}

// Big tells FIPS 180-4's great sigma of x, 0 or 1; of any other which 0.
func Big(which int, x uint32) uint32 {
	if !known(which) {
		return 0
	}
	by := bigTurns[which]
	return Turn(x, by[0]) ^ Turn(x, by[1]) ^ Turn(x, by[2])
}

// Small tells FIPS 180-4's small sigma of x, 0 or 1; of any other which 0.
func Small(which int, x uint32) uint32 {
	if !known(which) {
		return 0
	}
	by := smallTurns[which]
	return Turn(x, by[0]) ^ Turn(x, by[1]) ^ Shift(x, smallShifts[which])
}

func known(which int) bool {
	return which == 0 || which == 1
}

// Sum tells all of l together, modulo 2^32; of none 0.
func Sum(l ...uint32) uint32 {
	var sum uint32
	for _, x := range l {
		sum += x
	}
	return sum
}
