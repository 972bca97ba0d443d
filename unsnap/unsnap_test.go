package unsnap

import (
	"bytes"
	"encoding/binary"
	"encoding/hex"
	"math"
	"slices"
	"sync"
	"testing"

	"cribble/api"
	"cribble/custom"
	"cribble/merkle"
	"cribble/snap"
)

// blocks is a hash of blocks, by chapter 11's words.
type blocks struct{ alg, block, word int }

var allBlocks = []blocks{
	{api.SHA224, 64, 4}, {api.SHA256, 64, 4}, {api.SHA384, 128, 8}, {api.SHA512, 128, 8}, {api.SHA512x224, 128, 8}, {api.SHA512x256, 128, 8},
}

// sponges is an algorithm of a sponge, by chapter 18's table.
type sponges struct {
	alg, block   int
	reads, named bool
}

var allSponges = []sponges{
	{api.SHA3x224, 144, false, false}, {api.SHA3x256, 136, false, false}, {api.SHA3x384, 104, false, false}, {api.SHA3x512, 72, false, false},
	{api.SHAKE128, 168, true, false}, {api.SHAKE256, 136, true, false}, {api.CSHAKE128, 168, true, true}, {api.CSHAKE256, 136, true, true},
}

// run tells n bytes that repeat at no block's size.
func run(n int) []byte {
	b := make([]byte, n)
	for at := range b {
		b[at] = byte(at*167 + at/251 + 13)
	}
	return b
}

func named(n, s string) api.Name {
	return api.Name{N: []byte(n), S: []byte(s)}
}

// names are right; the first one is empty.
func names() []api.Name {
	return []api.Name{
		{}, named("", "Email Signature"), named("KMAC", ""), named("N", "S"), named("\x00", ""), named("", "\x00"), named("\x01\x00", "\x01\x00"),
		{N: run(31)}, {N: run(32)}, {S: run(31), N: run(32)}, {N: run(1000)}, {S: run(1000)}, {N: run(1000), S: run(1000)}, {N: run(999), S: run(1)},
	}
}

// names are those that its states may have.
func (k sponges) names() []api.Name {
	if k.named {
		return names()
	}
	return names()[:1]
}

// value has words that differ in each byte; those of 32 bits have nothing above.
func (k blocks) value() [8]uint64 {
	var v [8]uint64
	for at := range v {
		v[at] = (0x8192a3b4c5d6e7f8 + 0x0101010101010101*uint64(at)) & k.mostWord()
	}
	return v
}

func (k blocks) mostWord() uint64 {
	return math.MaxUint64 >> (64 - 8*k.word)
}

// state has as many whole blocks, and so many bytes of rest.
func (k blocks) state(whole uint64, rest int) api.Block {
	return api.Block{Alg: k.alg, H: k.value(), Count: api.Count{Lo: whole*uint64(k.block) + uint64(rest)}, Rest: run(rest)}
}

// size is how many bytes a snapshot has.
func (k blocks) size() int {
	return 22 + 8*k.word + k.block
}

// most is the greatest count that may be, which leaves over all of a block but one byte.
func (k blocks) most() api.Count {
	if k.word == 4 {
		return api.Count{Lo: 1<<61 - 1}
	}
	return api.Count{Hi: 1<<61 - 1, Lo: math.MaxUint64}
}

// past are counts of whole blocks that may not be.
func (k blocks) past() []api.Count {
	l := []api.Count{{Hi: 1 << 61}, {Hi: 1 << 62}, {Hi: 1 << 63}, {Hi: math.MaxUint64}, {Hi: math.MaxUint64, Lo: math.MaxUint64 - 127}}
	if k.word == 4 {
		return append(l, api.Count{Lo: 1 << 61}, api.Count{Lo: 1 << 62}, api.Count{Lo: 1 << 63}, api.Count{Hi: 1}, api.Count{Hi: 1, Lo: 64}, api.Count{Hi: 1<<61 - 1})
	}
	return l
}

// lanes differ in each byte of each word.
func lanes() api.Lanes {
	var a api.Lanes
	for at := range a {
		a[at] = 0xf1e2d3c4b5a69788 - 0x0807060504030201*uint64(at)
	}
	return a
}

// state is at the place, with that name.
func (k sponges) state(at int, reading bool, n api.Name) api.Sponge {
	return api.Sponge{Alg: k.alg, A: lanes(), At: at, Reading: reading, Name: n}
}

// ofBlock is the snapshot as chapter 20's words define it.
func ofBlock(k blocks, b api.Block) []byte {
	l := []byte{0x43, 0x52, 0x42, 0x31, byte(b.Alg), 0}
	if b.Failed {
		l[5] = 1
	}
	l = binary.BigEndian.AppendUint64(l, b.Count.Hi)
	l = binary.BigEndian.AppendUint64(l, b.Count.Lo)
	for _, x := range b.H {
		word := binary.BigEndian.AppendUint64(nil, x)
		l = append(l, word[8-k.word:]...)
	}
	l = append(l, b.Rest...)
	return append(l, make([]byte, k.block-len(b.Rest))...)
}

// unnamed is a snapshot without its name, as chapter 20's words define it.
func unnamed(s api.Sponge) []byte {
	l := []byte{0x43, 0x52, 0x42, 0x31, byte(s.Alg), 0, byte(s.At)}
	if s.Reading {
		l[5] = 1
	}
	for _, x := range s.A {
		l = binary.LittleEndian.AppendUint64(l, x)
	}
	return l
}

// ofSponge is the snapshot whole.
func ofSponge(k sponges, s api.Sponge) []byte {
	l := unnamed(s)
	if k.named {
		l = slices.Concat(l, encoded(s.Name.N), encoded(s.Name.S))
	}
	return l
}

// encoded is a text as SP 800-185, 2.3.2, has it, of no more than 2^21 - 1 bytes.
func encoded(text []byte) []byte {
	inBits := 8 * len(text)
	switch {
	case inBits < 1<<8:
		return append([]byte{1, byte(inBits)}, text...)
	case inBits < 1<<16:
		return append([]byte{2, byte(inBits >> 8), byte(inBits)}, text...)
	}
	return append([]byte{3, byte(inBits >> 16), byte(inBits >> 8), byte(inBits)}, text...)
}

// blockByWords tells the state whose snapshot b is, by chapter 20's words; false of none.
func blockByWords(b []byte) (api.Block, bool) {
	for _, k := range allBlocks {
		if len(b) != k.size() || string(b[:5]) != "CRB1"+string(rune(k.alg)) || b[5] > 1 {
			continue
		}
		s := api.Block{Alg: k.alg, Failed: b[5] == 1, Count: api.Count{Hi: binary.BigEndian.Uint64(b[6:]), Lo: binary.BigEndian.Uint64(b[14:])}}
		if s.Count.Hi > k.most().Hi || k.word == 4 && s.Count.Lo > k.most().Lo {
			return api.Block{}, false
		}
		for at := range s.H {
			for _, x := range b[22+at*k.word : 22+(at+1)*k.word] {
				s.H[at] = s.H[at]<<8 + uint64(x)
			}
		}
		last := b[22+8*k.word:]
		left := int(s.Count.Lo % uint64(k.block))
		s.Rest = last[:left]
		return s, bytes.Count(last[left:], []byte{0}) == k.block-left
	}
	return api.Block{}, false
}

// spongeByWords is likewise.
func spongeByWords(b []byte) (api.Sponge, bool) {
	for _, k := range allSponges {
		if len(b) < 207 || string(b[:5]) != "CRB1"+string(rune(k.alg)) || b[5] > 1 {
			continue
		}
		s := api.Sponge{Alg: k.alg, Reading: b[5] == 1, At: int(b[6])}
		if s.Reading && !k.reads || s.At > k.block || s.At == k.block && !s.Reading {
			return api.Sponge{}, false
		}
		for at := range s.A {
			s.A[at] = binary.LittleEndian.Uint64(b[7+8*at:])
		}
		left, ok := b[207:], true
		if k.named {
			if s.Name.N, left, ok = textByWords(left); ok {
				s.Name.S, left, ok = textByWords(left)
			}
		}
		return s, ok && len(left) == 0
	}
	return api.Sponge{}, false
}

// textByWords tells the text of no more than 1000 bytes that b begins with, and what is behind it.
func textByWords(b []byte) (text, left []byte, ok bool) {
	inBits, head := 0, 0
	switch {
	case len(b) >= 2 && b[0] == 1:
		inBits, head = int(b[1]), 2
	case len(b) >= 3 && b[0] == 2 && b[1] != 0:
		inBits, head = int(b[1])<<8+int(b[2]), 3
	default:
		return nil, nil, false
	}
	end := head + inBits/8
	if inBits%8 != 0 || inBits > 8*1000 || end > len(b) {
		return nil, nil, false
	}
	return b[head:end], b[end:], true
}

func algByWords(b []byte) int {
	if len(b) < 5 || string(b[:4]) != "CRB1" || b[4] > 14 {
		return 0
	}
	return int(b[4])
}

func sameBlock(a, b api.Block) bool {
	return a.Alg == b.Alg && a.H == b.H && a.Count == b.Count && bytes.Equal(a.Rest, b.Rest) && a.Failed == b.Failed
}

func sameSponge(a, b api.Sponge) bool {
	return a.Alg == b.Alg && a.A == b.A && a.At == b.At && a.Reading == b.Reading && bytes.Equal(a.Name.N, b.Name.N) && bytes.Equal(a.Name.S, b.Name.S)
}

func hasBlock(t *testing.T, b []byte, want api.Block) {
	t.Helper()
	if s, err := Block(b); !sameBlock(s, want) || err != api.OK {
		t.Fatalf("Block(%x) = %v, %d, want %v", b, s, err, want)
	}
	notSponge(t, b)
	hasIs(t, b, true)
	hasAlg(t, b, want.Alg)
}

func hasSponge(t *testing.T, b []byte, want api.Sponge) {
	t.Helper()
	if s, err := Sponge(b); !sameSponge(s, want) || err != api.OK {
		t.Fatalf("Sponge(%.500x) (%d bytes) = %.400v, %d, want %.400v", b, len(b), s, err, want)
	}
	notBlock(t, b)
	hasIs(t, b, true)
	hasAlg(t, b, want.Alg)
}

// notBlock holds by rule R2 what is told beside the error.
func notBlock(t *testing.T, b []byte) {
	t.Helper()
	if s, err := Block(b); !sameBlock(s, api.Block{}) || err != api.ErrSnapshot {
		t.Fatalf("Block(%.500x) (%d bytes) = %v, %d", b, len(b), s, err)
	}
}

func notSponge(t *testing.T, b []byte) {
	t.Helper()
	if s, err := Sponge(b); !sameSponge(s, api.Sponge{}) || err != api.ErrSnapshot {
		t.Fatalf("Sponge(%.500x) (%d bytes) = %.400v, %d", b, len(b), s, err)
	}
}

func refused(t *testing.T, b []byte) {
	t.Helper()
	notBlock(t, b)
	notSponge(t, b)
	hasIs(t, b, false)
}

func hasIs(t *testing.T, b []byte, want bool) {
	t.Helper()
	if Is(b) != want {
		t.Fatalf("Is(%.500x) (%d bytes) = %t", b, len(b), !want)
	}
}

func hasAlg(t *testing.T, b []byte, want int) {
	t.Helper()
	if alg := Alg(b); alg != want {
		t.Fatalf("Alg(%.100x) (%d bytes) = %d, want %d", b, len(b), alg, want)
	}
}

// byWords holds all of b to what chapter 20's words make of it.
func byWords(t *testing.T, b []byte) {
	t.Helper()
	hasAlg(t, b, algByWords(b))
	if s, ok := blockByWords(b); ok {
		hasBlock(t, b, s)
		return
	}
	if s, ok := spongeByWords(b); ok {
		hasSponge(t, b, s)
		return
	}
	refused(t, b)
}

// spoilt is b with another byte at the place.
func spoilt(b []byte, at int, x byte) []byte {
	b = bytes.Clone(b)
	b[at] = x
	return b
}

// samples are snapshots of each algorithm.
func samples() [][]byte {
	var l [][]byte
	for _, k := range allBlocks {
		failed := k.state(1<<40, k.block-1)
		failed.Failed = true
		for _, s := range []api.Block{{Alg: k.alg}, k.state(0, 3), k.state(2, 0), failed} {
			l = append(l, ofBlock(k, s))
		}
	}
	for _, k := range allSponges {
		l = append(l, ofSponge(k, api.Sponge{Alg: k.alg}))
		for _, n := range k.names() {
			l = append(l, ofSponge(k, k.state(3, false, n)))
			if k.reads {
				l = append(l, ofSponge(k, k.state(k.block, true, n)))
			}
		}
	}
	return l
}

// Examples: nothing, nil or empty
func TestNothing(t *testing.T) {
	for _, b := range [][]byte{nil, {}, samples()[0][:0]} {
		hasAlg(t, b, 0)
		refused(t, b)
	}
}

// P21.1: of all bytes in the fifth place those of algorithms' numbers, with nothing behind them, and with anything
func TestAlg(t *testing.T) {
	for x := range 256 {
		want := 0
		if x >= 1 && x <= 14 {
			want = x
		}
		head := []byte{0x43, 0x52, 0x42, 0x31, byte(x)}
		for _, behind := range [][]byte{nil, {0}, {1}, {0xff}, run(100), make([]byte, 112), run(5000)} {
			hasAlg(t, slices.Concat(head, behind), want)
		}
	}
}

// P21.1, P21.2: fewer than five bytes, which may have the rest of them in their room
func TestAlgOfFew(t *testing.T) {
	for _, b := range samples() {
		for n := range 5 {
			hasAlg(t, b[:n], 0)
			refused(t, b[:n])
		}
		hasAlg(t, b[:5], int(b[4]))
		refused(t, b[:5])
	}
}

// P21.1, P21.2: each of the first four bytes with all values
func TestMark(t *testing.T) {
	for _, b := range samples() {
		for at := range 4 {
			for x := range 256 {
				if byte(x) == b[at] {
					continue
				}
				l := spoilt(b, at, byte(x))
				hasAlg(t, l, 0)
				refused(t, l)
			}
		}
		for _, mark := range []string{"crb1", "1BRC", "RCB1", "CRB\x01", "\x00CRB"} {
			l := append([]byte(mark), b[4:]...)
			hasAlg(t, l, 0)
			refused(t, l)
		}
		hasAlg(t, append([]byte{0}, b...), 0)
		refused(t, append([]byte{0}, b...))
		refused(t, b[1:])
	}
}

// P21.2: snapshots that are written out
func TestSnapshotsWrittenOut(t *testing.T) {
	b, _ := hex.DecodeString("435242310200" + "00000000000000000000000000000003" +
		"6a09e667bb67ae853c6ef372a54ff53a510e527f9b05688c1f83d9ab5be0cd19" + "616263")
	v := [8]uint64{0x6a09e667, 0xbb67ae85, 0x3c6ef372, 0xa54ff53a, 0x510e527f, 0x9b05688c, 0x1f83d9ab, 0x5be0cd19}
	b = append(b, make([]byte, 61)...)
	hasBlock(t, b, api.Block{Alg: api.SHA256, H: v, Count: api.Count{Lo: 3}, Rest: []byte("abc")})
	b[5] = 1
	hasBlock(t, b, api.Block{Alg: api.SHA256, H: v, Count: api.Count{Lo: 3}, Rest: []byte("abc"), Failed: true})
	b[len(b)-1] = 1
	refused(t, b)
	b, _ = hex.DecodeString("43524231080003" + "6162630000000000")
	b = append(b, make([]byte, 192)...)
	hasSponge(t, b, api.Sponge{Alg: api.SHA3x256, A: api.Lanes{0x636261}, At: 3})
	b, _ = hex.DecodeString("435242310d0108" + "e7dde140798f25f1")
	b = append(b, make([]byte, 192)...)
	b = append(b, "\x01\x08N\x01\x10xy"...)
	hasSponge(t, b, api.Sponge{Alg: api.CSHAKE128, A: api.Lanes{0xf1258f7940e1dde7}, At: 8, Reading: true, Name: named("N", "xy")})
}

// P21.2: of each hash of blocks each rest, with whole blocks ahead of it and without, failed and not
func TestBlock(t *testing.T) {
	for _, k := range allBlocks {
		for rest := range k.block {
			for _, whole := range []uint64{0, 1, 2, 1000, 1 << 40} {
				for _, failed := range []bool{false, true} {
					s := k.state(whole, rest)
					s.Failed = failed
					hasBlock(t, ofBlock(k, s), s)
				}
			}
		}
	}
}

// P21.2: what each bit of each word is; words of 32 bits stand in the lower halves, and upper halves are 0
func TestBlockWords(t *testing.T) {
	for _, k := range allBlocks {
		s := api.Block{Alg: k.alg}
		for at := range s.H {
			for bit := range 8 * k.word {
				one := api.Block{Alg: k.alg}
				one.H[at] = 1 << bit
				hasBlock(t, ofBlock(k, one), one)
			}
			s.H[at] = k.mostWord()
			hasBlock(t, ofBlock(k, s), s)
		}
		for _, x := range s.H {
			if k.word == 4 && x>>32 != 0 || k.word == 8 && x>>32 != math.MaxUint32 {
				t.Errorf("a word of %d is %x", k.alg, x)
			}
		}
	}
}

// P21.2: words of 64 bits where they have 32, and the other way round: there is a snapshot of neither
func TestBlockWordsOfAnotherSize(t *testing.T) {
	for _, k := range allBlocks {
		for _, rest := range []int{0, 3, k.block - 1} {
			s := k.state(1, rest)
			other := k
			other.word = 12 - k.word
			refused(t, ofBlock(other, s))
			s.H = [8]uint64{}
			refused(t, ofBlock(other, s))
		}
	}
}

// P21.2: counts at the bound and past it, failed and not
func TestBlockCounts(t *testing.T) {
	for _, k := range allBlocks {
		for _, failed := range []bool{false, true} {
			s := k.state(0, k.block-1)
			s.Count, s.Failed = k.most(), failed
			hasBlock(t, ofBlock(k, s), s)
			for _, c := range k.past() {
				refused(t, ofBlock(k, api.Block{Alg: k.alg, Count: c, Failed: failed}))
			}
			c := k.most()
			c.Lo -= uint64(k.block - 1)
			s = api.Block{Alg: k.alg, Count: c, Failed: failed}
			hasBlock(t, ofBlock(k, s), s)
		}
		for bit := 7; bit < 128; bit++ {
			s := api.Block{Alg: k.alg}
			if bit < 64 {
				s.Count.Lo = 1 << bit
			} else {
				s.Count.Hi = 1 << (bit - 64)
			}
			if bit < 61 || k.word == 8 && bit < 125 {
				hasBlock(t, ofBlock(k, s), s)
			} else {
				refused(t, ofBlock(k, s))
			}
		}
	}
}

// P21.2: bytes other than 0 behind what is left over, each by itself; a full block is none
func TestBlockNoughts(t *testing.T) {
	for _, k := range allBlocks {
		for _, left := range []int{0, 1, 2, k.block / 2, k.block - 2, k.block - 1} {
			b := ofBlock(k, k.state(1, left))
			for at := left; at < k.block; at++ {
				for _, x := range []byte{1, 0x80, 0xff} {
					refused(t, spoilt(b, k.size()-k.block+at, x))
				}
			}
			copy(b[k.size()-k.block:], bytes.Repeat([]byte{1}, k.block))
			refused(t, b)
		}
	}
}

// P21.2: a rest whose bytes are 0 is no shorter one, and what stands ahead of its end is its own
func TestBlockRests(t *testing.T) {
	for _, k := range allBlocks {
		for left := range k.block {
			s := k.state(1, left)
			s.Rest = make([]byte, left)
			hasBlock(t, ofBlock(k, s), s)
			for at := range left {
				s.Rest[at] = 0xff
				hasBlock(t, ofBlock(k, s), s)
				s.Rest[at] = 0
			}
		}
	}
}

// P21.2: a count that leaves over fewer bytes than there are, and one that leaves over more, which then are 0
func TestBlockCountsOfOtherRests(t *testing.T) {
	for _, k := range allBlocks {
		for rest := 1; rest < k.block; rest++ {
			s := k.state(1, rest)
			s.Rest = bytes.Repeat([]byte{7}, rest)
			for left := range k.block {
				s.Count = api.Count{Lo: uint64(k.block + left)}
				if left < rest {
					refused(t, ofBlock(k, s))
					continue
				}
				want := s
				want.Rest = append(bytes.Clone(s.Rest), make([]byte, left-rest)...)
				hasBlock(t, ofBlock(k, s), want)
			}
		}
	}
}

// P21.2: flags that are neither 0 nor 1
func TestFlags(t *testing.T) {
	for _, b := range samples() {
		for x := 2; x < 256; x++ {
			refused(t, spoilt(b, 5, byte(x)))
		}
	}
	for _, k := range allBlocks {
		s := k.state(1, 3)
		b := ofBlock(k, s)
		hasBlock(t, spoilt(b, 5, 0), s)
		s.Failed = true
		hasBlock(t, spoilt(b, 5, 1), s)
	}
}

// P21.2: bytes that are fewer and more than a snapshot's, by one and by many; what is cut off stands in their room
func TestLengths(t *testing.T) {
	for _, b := range samples() {
		for n := range b {
			refused(t, b[:n])
			refused(t, bytes.Clone(b[:n]))
		}
		for _, more := range []int{1, 2, 8, 64, 128, 200, 2000, 1 << 16} {
			refused(t, append(bytes.Clone(b), make([]byte, more)...))
			refused(t, append(bytes.Clone(b), run(more)...))
		}
		refused(t, append(bytes.Clone(b), b...))
	}
}

// P21.2: numbers of no algorithm in the fifth place
func TestNumbersOfNone(t *testing.T) {
	for _, b := range samples() {
		for x := range 256 {
			if x < 1 || x > 14 {
				refused(t, spoilt(b, 4, byte(x)))
			}
		}
	}
}

// P21.2: numbers of the other kind, and of the same kind whose snapshots are as long: these are other states' snapshots
func TestNumbersOfOthers(t *testing.T) {
	for _, k := range allBlocks {
		s := k.state(1, 3)
		b := ofBlock(k, s)
		for _, other := range allBlocks {
			if l := spoilt(b, 4, byte(other.alg)); other.word == k.word {
				s.Alg = other.alg
				hasBlock(t, l, s)
			} else {
				refused(t, l)
			}
		}
		for _, other := range allSponges {
			refused(t, spoilt(b, 4, byte(other.alg)))
		}
	}
	for _, k := range allSponges {
		s := k.state(3, false, api.Name{})
		b := ofSponge(k, s)
		for _, other := range allSponges {
			if l := spoilt(b, 4, byte(other.alg)); other.named == k.named {
				s.Alg = other.alg
				hasSponge(t, l, s)
			} else {
				refused(t, l)
			}
		}
		for _, other := range allBlocks {
			refused(t, spoilt(b, 4, byte(other.alg)))
		}
	}
}

// P21.2: of the other kind's number, and of its snapshot's length too
func TestNumbersOfOthersFittedIn(t *testing.T) {
	for _, k := range allBlocks {
		for _, other := range allSponges {
			for _, n := range []int{207, 207 + 4, k.size(), 1000} {
				b := append(ofBlock(k, k.state(0, 0)), make([]byte, 1000)...)[:n]
				notBlock(t, spoilt(b, 4, byte(other.alg)))
				b = append(unnamed(other.state(0, false, api.Name{})), make([]byte, 1000)...)[:n]
				notSponge(t, spoilt(b, 4, byte(k.alg)))
				b = append(unnamed(api.Sponge{Alg: other.alg}), make([]byte, 1000)...)[:n]
				notSponge(t, spoilt(b, 4, byte(k.alg)))
			}
		}
	}
}

// P21.2: of each sponge all places, with Reading and without: at the block's end and past it among them
func TestSpongePlaces(t *testing.T) {
	for _, k := range allSponges {
		n := k.names()[len(k.names())-1]
		for at := range 256 {
			for _, reading := range []bool{false, true} {
				s := k.state(at, reading, n)
				switch {
				case reading && k.reads && at <= k.block, !reading && at < k.block:
					hasSponge(t, ofSponge(k, s), s)
				default:
					refused(t, ofSponge(k, s))
				}
			}
		}
	}
}

// P21.2: Reading of what can't be read, whatever the place and the lanes
func TestSpongeReading(t *testing.T) {
	for _, k := range allSponges {
		for _, at := range []int{0, 1, k.block - 1, k.block} {
			for _, a := range []api.Lanes{{}, lanes()} {
				s := api.Sponge{Alg: k.alg, A: a, At: at, Reading: true}
				if k.reads {
					hasSponge(t, ofSponge(k, s), s)
				} else {
					refused(t, ofSponge(k, s))
				}
			}
		}
	}
}

// P21.2: what each bit of each lane is
func TestSpongeLanes(t *testing.T) {
	for _, k := range allSponges {
		all := api.Sponge{Alg: k.alg}
		hasSponge(t, ofSponge(k, all), all)
		for bit := range 1600 {
			s := api.Sponge{Alg: k.alg, At: 1}
			s.A[bit/64] = 1 << (bit % 64)
			hasSponge(t, ofSponge(k, s), s)
		}
		for at := range all.A {
			all.A[at] = math.MaxUint64
			hasSponge(t, ofSponge(k, all), all)
		}
	}
}

// P21.2: names, of what is Named alone; a name is wanting, or there is one too many
func TestSpongeNames(t *testing.T) {
	for _, k := range allSponges {
		for _, n := range names() {
			for _, reading := range []bool{false, k.reads} {
				s := k.state(5, reading, n)
				texts := slices.Concat(encoded(n.N), encoded(n.S))
				b := append(unnamed(s), texts...)
				if k.named {
					hasSponge(t, b, s)
					refused(t, unnamed(s))
					refused(t, append(unnamed(s), encoded(n.N)...))
					refused(t, append(bytes.Clone(b), 1, 0))
					refused(t, append(bytes.Clone(b), texts...))
				} else {
					refused(t, b)
				}
			}
		}
	}
}

// P21.2: texts of each length up to the bound and past it, in either place
func TestNamesOfEachLength(t *testing.T) {
	all := run(1100)
	for n := range all {
		for _, k := range allSponges[6:] {
			for _, name := range []api.Name{{N: all[:n]}, {S: all[:n]}, {N: all[:n], S: all[:n]}, {N: all[:n], S: all[:3]}, {N: all[:1000], S: all[:n]}} {
				s := k.state(3, false, name)
				if n > 1000 {
					refused(t, ofSponge(k, s))
				} else {
					hasSponge(t, ofSponge(k, s), s)
				}
			}
		}
	}
	for _, n := range []int{1001, 1024, 1255, 2000, 8191, 8192, 1 << 16, 1<<16 + 1, 1<<16 + 1000, 1 << 20} {
		for _, k := range allSponges[6:] {
			refused(t, ofSponge(k, k.state(3, false, api.Name{N: run(n)})))
			refused(t, ofSponge(k, k.state(3, false, api.Name{S: run(n)})))
			refused(t, ofSponge(k, k.state(3, true, api.Name{N: run(1000), S: run(n)})))
		}
	}
}

// wrongTexts aren't encoded as they are to be: lengths that have a shorter form, none, too long a one, no whole bytes, or more than there are.
func wrongTexts() []string {
	l := []string{
		"", "\x00", "\x00\x00", "\x01", "\x02", "\x02\x00", "\x02\x00\x00", "\x02\x00\x08a", "\x03\x00\x00\x08a", "\x03\x00\x01\x00" + string(run(32)),
		"\x08\x00\x00\x00\x00\x00\x00\x00\x08a", "\x08\x00\x00\x00\x00\x00\x00\x00\x00", "\x09\x00\x00\x00\x00\x00\x00\x00\x00\x08a", "\x09\x01\x00\x00\x00\x00\x00\x00\x00\x00",
		"\x01\x01a", "\x01\x04a", "\x01\x07a", "\x01\x09a", "\x01\x0fab", "\x01\x08", "\x01\x10a", "\x01\xf8" + string(run(30)), "\x02\x01", "\x02\x01\x00", "\x02\x01\x00" + string(run(31)),
		"\x02\x1f\x40" + string(run(999)), "\x02\x1f\x48" + string(run(1001)), "\x02\x1f\x41" + string(run(1000)), "\x08a", "a", "\xff", "\xff\xff", "\x80\x08a",
		"\x08\xff\xff\xff\xff\xff\xff\xff\xf8", "\x08\xff\xff\xff\xff\xff\xff\xff\xff", "\x08\x80\x00\x00\x00\x00\x00\x00\x00", "\x08\x40\x00\x00\x00\x00\x00\x00\x00",
		"\x08\x00\x00\x00\x00\x00\x00\x00", "\x05\x08\x00\x00\x00\x08a", "\x04\x80\x00\x00\x08a", "\x05\x01\x00\x00\x00\x00", "\x05\x01\x00\x00\x00\x08a",
	}
	return l
}

// P21.2: names whose texts aren't encoded as they are to be, in either place
func TestTextsEncodedOtherwise(t *testing.T) {
	for _, k := range allSponges[6:] {
		head := unnamed(k.state(3, false, api.Name{}))
		for _, wrong := range wrongTexts() {
			for _, other := range [][]byte{nil, []byte("S"), run(32), run(1000)} {
				refused(t, slices.Concat(head, encoded(other), []byte(wrong)))
			}
			refused(t, slices.Concat(head, []byte(wrong)))
		}
		for _, wrong := range []string{"\x00", "\x02\x00\x00", "\x02\x00\x08a", "\x01\x01a", "\x01\x09a", "\x09\x00\x00\x00\x00\x00\x00\x00\x00\x08a", "\x02\x1f\x48" + string(run(1001))} {
			refused(t, slices.Concat(head, []byte(wrong), encoded(nil)))
			refused(t, slices.Concat(head, []byte(wrong), encoded([]byte("S"))))
		}
	}
}

// P21.2: an empty name has two empty texts; nothing in their places is none
func TestEmptyNames(t *testing.T) {
	for _, k := range allSponges[6:] {
		s := k.state(3, true, api.Name{})
		head := unnamed(s)
		hasSponge(t, slices.Concat(head, []byte{1, 0, 1, 0}), s)
		for _, wrong := range [][]byte{nil, {1}, {1, 0}, {1, 0, 1}, {1, 0, 1, 0, 0}, {1, 0, 1, 0, 1, 0}, {0, 0}, {0}, {1, 0, 0}, {2, 0, 0, 1, 0}} {
			refused(t, slices.Concat(head, wrong))
		}
	}
}

// P21.2: bytes behind a name, fewer ahead of its end, whatever they are
func TestBehindNames(t *testing.T) {
	for _, k := range allSponges[6:] {
		for _, n := range names() {
			b := ofSponge(k, k.state(3, false, n))
			for x := range 256 {
				refused(t, append(bytes.Clone(b), byte(x)))
			}
			for cut := 207; cut < len(b); cut++ {
				refused(t, b[:cut])
			}
		}
	}
}

// P21.3: states that hashes come to, by what is written and read
func TestStatesOfHashes(t *testing.T) {
	for _, k := range allBlocks {
		m, _ := merkle.New(k.alg)
		for _, n := range []int{0, 1, k.block - 2, 1, 1, 3 * k.block, 700} {
			m.Write(run(n))
			b, _ := snap.Block(m.State())
			hasBlock(t, b, m.State())
		}
		most := k.most()
		most.Lo -= uint64(k.block - 1 - len(m.State().Rest))
		m.SetCount(most)
		m.Write(run(k.block))
		b, err := snap.Block(m.State())
		if err != api.OK || !m.State().Failed {
			t.Fatalf("nothing failed: %d", err)
		}
		hasBlock(t, b, m.State())
	}
	for _, k := range allSponges[6:] {
		for _, n := range names() {
			s, _ := custom.New(map[int]int{168: 128, 136: 256}[k.block], n)
			tell := func() {
				a, at, reading := s.State()
				state := api.Sponge{Alg: k.alg, A: a, At: at, Reading: reading, Name: n}
				b, _ := snap.Sponge(state)
				hasSponge(t, b, state)
			}
			tell()
			s.Write(run(500))
			tell()
			for _, many := range []int{1, k.block - 1, 1, 400} {
				s.Read(many)
				tell()
			}
		}
	}
}

// P21.3: each byte with other values, all of them in the head and where a name begins: what isn't refused is the state that the words say
func TestEachByteSpoilt(t *testing.T) {
	for _, b := range samples() {
		byWords(t, b)
		for at := range b {
			step := 256
			switch {
			case at < 7, at >= 207 && at < 210:
				step = 1
			case at < 230, at >= len(b)-4:
				step = 51
			}
			for x := 0; x < 256; x += step {
				byWords(t, spoilt(b, at, byte(x)))
			}
		}
	}
}

// P21.3: bytes left out of the middle, and put in there
func TestBytesLeftOutAndPutIn(t *testing.T) {
	for _, b := range samples() {
		for at := range min(len(b), 260) {
			byWords(t, slices.Delete(bytes.Clone(b), at, at+1))
			byWords(t, slices.Insert(bytes.Clone(b), at, 0))
			byWords(t, slices.Insert(bytes.Clone(b), at, 1))
		}
	}
}

// P21.3: what isn't refused has just these bytes as its snapshot, and no others are told as the same state
func TestToldAreTheirOwn(t *testing.T) {
	many := 0
	for _, b := range samples() {
		for at := range b {
			for _, x := range []byte{0, 1, 2, 8, 0x40, 0xff} {
				l := spoilt(b, at, x)
				again, err := []byte(nil), api.OK
				if s, e := Block(l); e == api.OK {
					again, err = snap.Block(s)
				} else if s, e := Sponge(l); e == api.OK {
					again, err = snap.Sponge(s)
				} else {
					continue
				}
				many++
				if err != api.OK || !bytes.Equal(again, l) {
					t.Fatalf("%.500x is told as the state of %.500x, %d", l, again, err)
				}
			}
		}
	}
	if many < 10000 {
		t.Fatalf("only %d were told", many)
	}
}

// P21.3: bytes of many lengths that are no snapshot, with its head and without
func TestOtherBytes(t *testing.T) {
	for n := range 300 {
		for _, l := range [][]byte{run(n), make([]byte, n), bytes.Repeat([]byte{0xff}, n), bytes.Repeat([]byte("CRB1"), n)} {
			byWords(t, l)
			for alg := range 17 {
				byWords(t, slices.Concat([]byte("CRB1"), []byte{byte(alg), byte(n % 3)}, l))
			}
		}
	}
	refused(t, make([]byte, 1<<20))
	refused(t, slices.Concat([]byte("CRB1\x02\x00"), make([]byte, 1<<20)))
	refused(t, slices.Concat([]byte("CRB1\x0d\x00"), make([]byte, 1<<20)))
}

// fill writes into all that a list has, spare room included.
func fill(b []byte) {
	b = b[:cap(b)]
	for at := range b {
		b[at] ^= 0xa5
	}
}

// withRoom is b in the middle of greater room.
func withRoom(b []byte) (all, part []byte) {
	all = slices.Concat(run(50), b, run(500))
	return all, all[50 : 50+len(b)]
}

// R4: what is handed in isn't changed, spare room included
func TestHandedIn(t *testing.T) {
	l := samples()
	for _, b := range samples() {
		l = append(l, b[:len(b)-1], append(bytes.Clone(b), 0), spoilt(b, 5, 2))
	}
	for _, b := range l {
		all, part := withRoom(b)
		want := bytes.Clone(all)
		Alg(part)
		Block(part)
		Sponge(part)
		Is(part)
		if !bytes.Equal(all, want) {
			t.Fatalf("%.500x was changed", b)
		}
	}
}

// R4: what is written into the bytes behind the call makes no difference to what was told
func TestWrittenBehind(t *testing.T) {
	for _, k := range allBlocks {
		want := k.state(2, k.block-1)
		all, part := withRoom(ofBlock(k, want))
		s, _ := Block(part)
		fill(all)
		if !sameBlock(s, want) {
			t.Fatalf("%d: %v, want %v", k.alg, s, want)
		}
	}
	for _, k := range allSponges[6:] {
		for _, n := range names() {
			want := k.state(3, true, n)
			all, part := withRoom(ofSponge(k, want))
			s, _ := Sponge(part)
			fill(all)
			if !sameSponge(s, want) {
				t.Fatalf("%d: %.300v, want %.300v", k.alg, s, want)
			}
		}
	}
}

// R4: what is told is new memory: writing into it makes no difference to the bytes, to another answer, nor to its other text
func TestTold(t *testing.T) {
	for _, k := range allBlocks {
		for _, rest := range []int{0, 1, 5, k.block - 1} {
			want := k.state(2, rest)
			all, part := withRoom(ofBlock(k, want))
			kept := bytes.Clone(all)
			first, _ := Block(part)
			second, _ := Block(part)
			fill(first.Rest)
			if !bytes.Equal(all, kept) || !sameBlock(second, want) {
				t.Fatalf("%d: %v, want %v", k.alg, second, want)
			}
		}
	}
	for _, k := range allSponges[6:] {
		for _, n := range names() {
			want := k.state(3, true, n)
			all, part := withRoom(ofSponge(k, want))
			kept := bytes.Clone(all)
			first, _ := Sponge(part)
			second, _ := Sponge(part)
			fill(first.Name.N)
			if !bytes.Equal(first.Name.S, n.S) {
				t.Fatalf("%d: writing into N made S %.100x", k.alg, first.Name.S)
			}
			fill(first.Name.S)
			if !bytes.Equal(all, kept) || !sameSponge(second, want) {
				t.Fatalf("%d: %.300v, want %.300v", k.alg, second, want)
			}
		}
	}
}

// R1: what anybody else throws isn't told as if b were wrong
func TestCaught(t *testing.T) {
	defer func() {
		if thrown := recover(); thrown != "another" {
			t.Errorf("%v was let go on", thrown)
		}
	}()
	if s, err := caught(func([]byte) int { panic(api.ErrSnapshot) }, nil); s != 0 || err != api.ErrSnapshot {
		t.Errorf("%d, %d", s, err)
	}
	if s, err := caught(func(b []byte) int { return len(b) }, run(3)); s != 3 || err != api.OK {
		t.Errorf("%d, %d", s, err)
	}
	_, err := caught(func([]byte) int { panic("another") }, nil)
	t.Errorf("another was told as %d", err)
}

// R1, R5: functions that have no object may be called by several goroutines at once
func TestAtOnce(t *testing.T) {
	var all sync.WaitGroup
	for range 8 {
		all.Go(func() {
			for _, k := range allBlocks {
				want := k.state(1, 3)
				b := ofBlock(k, want)
				if s, err := Block(b); !sameBlock(s, want) || err != api.OK || !Is(b) || Alg(b) != k.alg {
					t.Errorf("Block of %d = %v, %d", k.alg, s, err)
				}
				if _, err := Block(b[1:]); err != api.ErrSnapshot {
					t.Errorf("Block of %d, cut = %d", k.alg, err)
				}
			}
			for _, k := range allSponges {
				want := k.state(3, k.reads, api.Name{})
				b := ofSponge(k, want)
				if s, err := Sponge(b); !sameSponge(s, want) || err != api.OK || !Is(b) || Alg(b) != k.alg {
					t.Errorf("Sponge of %d = %v, %d", k.alg, s, err)
				}
				if _, err := Sponge(b[:100]); err != api.ErrSnapshot {
					t.Errorf("Sponge of %d, cut = %d", k.alg, err)
				}
			}
		})
	}
	all.Wait()
}
