// Package word is layer 1: the operations on 32-bit words that SHA-224 and SHA-256 are made of.
package word

const size = 32

// By how far Big and Small turn, a row for each which (FIPS 180-4, 4.1.2).
var (
	bigTurns   = [2][3]int{{2, 13, 22}, {6, 11, 25}}
	smallTurns = [2][2]int{{7, 18}, {17, 19}}
)

// The standard shifts Small's last part where Big turns all three, so its distances stand apart.
var smallShifts = [2]int{3, 10}

func Turn(x uint32, n int) uint32 {
	// A uint goes round at a multiple of 32, so an n below 0 keeps the remainder that is wanted.
	k := uint(n) % size
	return x>>k | x<<(size-k)
}

func Shift(x uint32, n int) uint32 {
	// Go panics at a shift by less than 0; one by 32 or more is 0 of itself.
	return x >> uint(max(n, 0))
}

func Ch(x, y, z uint32) uint32 {
	return x&y | ^x&z
}

func Maj(x, y, z uint32) uint32 {
	return x&y | x&z | y&z
}

// Big is the standard's great sigma, which rounds mix a value by.
func Big(which int, x uint32) uint32 {
	if !known(which) {
		return 0
	}
	by := bigTurns[which]
	return Turn(x, by[0]) ^ Turn(x, by[1]) ^ Turn(x, by[2])
}

// Small is the standard's small sigma, which schedules are made by.
func Small(which int, x uint32) uint32 {
	if !known(which) {
		return 0
	}
	by := smallTurns[which]
	return Turn(x, by[0]) ^ Turn(x, by[1]) ^ Shift(x, smallShifts[which])
}

func known(which int) bool {
	return which == 0 || which == 1
}

func Sum(l ...uint32) uint32 {
	var sum uint32
	for _, x := range l {
		sum += x
	}
	return sum
}
