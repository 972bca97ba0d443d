package snap

import (
	"bytes"
	"encoding/binary"
	"encoding/hex"
	"math"
	"slices"
	"sync"
	"testing"

	"cribble/api"
	"cribble/custom"
	"cribble/merkle"
	"cribble/sponge"
)

// blocks is a hash of blocks, by chapter 11's words.
type blocks struct{ alg, block, word int }

var allBlocks = []blocks{
	{api.SHA224, 64, 4}, {api.SHA256, 64, 4}, {api.SHA384, 128, 8}, {api.SHA512, 128, 8}, {api.SHA512x224, 128, 8}, {api.SHA512x256, 128, 8},
}

// sponges is an algorithm of a sponge, by chapter 18's table.
type sponges struct {
	alg, block   int
	reads, named bool
}

var allSponges = []sponges{
	{api.SHA3x224, 144, false, false}, {api.SHA3x256, 136, false, false}, {api.SHA3x384, 104, false, false}, {api.SHA3x512, 72, false, false},
	{api.SHAKE128, 168, true, false}, {api.SHAKE256, 136, true, false}, {api.CSHAKE128, 168, true, true}, {api.CSHAKE256, 136, true, true},
}

// none are numbers of no algorithm, some of which would be one's, were they cut or their signs left out.
var none = []int{
	0, 15, 16, 17, -1, -2, -7, -11, -13, -14, -15, 64, 128, 255, 256, 256 + 2, 256 + 8, 256 + 13, 1<<16 + 8, 1<<32 + 2, 1<<32 + 11, -1<<32 + 13, 1<<62 + 6,
	math.MaxInt32, math.MinInt32, math.MaxInt, math.MinInt, math.MinInt + 2,
}

// run tells n bytes that repeat at no block's size, none of which is 0 for long.
func run(n int) []byte {
	b := make([]byte, n)
	for at := range b {
		b[at] = byte(at*167 + at/251 + 13)
	}
	return b
}

func named(n, s string) api.Name {
	return api.Name{N: []byte(n), S: []byte(s)}
}

// empties are ways to write the empty name.
func empties() []api.Name {
	return []api.Name{{}, {N: []byte{}}, {S: []byte{}}, {N: []byte{}, S: []byte{}}, {N: run(5)[:0], S: run(5)[5:]}}
}

// fullNames aren't empty, and are right.
func fullNames() []api.Name {
	return []api.Name{
		named("", "Email Signature"), named("KMAC", ""), named("N", "S"), named("\x00", ""), named("", "\x00"), named("\x01\x00", "\x01\x00"),
		{N: run(31)}, {N: run(32)}, {S: run(31), N: run(32)}, {N: run(1000)}, {S: run(1000)}, {N: run(1000), S: run(1000)}, {N: run(999), S: run(1)},
	}
}

// longNames have a text of more bytes than may be.
func longNames() []api.Name {
	return []api.Name{
		{N: run(1001)}, {S: run(1001)}, {N: run(1001), S: run(1001)}, {N: run(1001), S: run(1000)}, {N: run(1000), S: run(1001)},
		{N: []byte("a"), S: run(1001)}, {N: run(5000)}, {S: run(1 << 16)}, {S: run(1<<16 + 1)},
	}
}

func rightNames() []api.Name {
	return append(empties(), fullNames()...)
}

// names are those that its states may have, and those that they may not.
func (s sponges) names() (right, wrong []api.Name) {
	if s.named {
		return rightNames(), longNames()
	}
	return empties(), append(fullNames(), longNames()...)
}

// value has words that differ in each byte; those of 32 bits have nothing above.
func (k blocks) value() [8]uint64 {
	var v [8]uint64
	for at := range v {
		v[at] = 0x8192a3b4c5d6e7f8 + 0x0101010101010101*uint64(at)
		if k.word == 4 {
			v[at] &= math.MaxUint32
		}
	}
	return v
}

// state has as many whole blocks, and so many bytes of rest.
func (k blocks) state(whole uint64, rest int) api.Block {
	return api.Block{Alg: k.alg, H: k.value(), Count: api.Count{Lo: whole*uint64(k.block) + uint64(rest)}, Rest: run(rest)}
}

// most is the greatest count that may be, which leaves over all of a block but one byte.
func (k blocks) most() api.Count {
	if k.word == 4 {
		return api.Count{Lo: 1<<61 - 1}
	}
	return api.Count{Hi: 1<<61 - 1, Lo: math.MaxUint64}
}

// lanes differ in each byte of each word.
func lanes() api.Lanes {
	var a api.Lanes
	for at := range a {
		a[at] = 0xf1e2d3c4b5a69788 - 0x0807060504030201*uint64(at)
	}
	return a
}

// ofBlock is the snapshot as the chapters' words define it.
func ofBlock(k blocks, b api.Block) []byte {
	l := []byte{0x43, 0x52, 0x42, 0x31, byte(k.alg), 0}
	if b.Failed {
		l[5] = 1
	}
	l = binary.BigEndian.AppendUint64(l, b.Count.Hi)
	l = binary.BigEndian.AppendUint64(l, b.Count.Lo)
	for _, x := range b.H {
		word := binary.BigEndian.AppendUint64(nil, x)
		l = append(l, word[8-k.word:]...)
	}
	l = append(l, b.Rest...)
	for range k.block - len(b.Rest) {
		l = append(l, 0)
	}
	return l
}

// ofSponge is likewise.
func ofSponge(k sponges, s api.Sponge) []byte {
	l := []byte{0x43, 0x52, 0x42, 0x31, byte(k.alg), 0, byte(s.At)}
	if s.Reading {
		l[5] = 1
	}
	for _, x := range s.A {
		l = binary.LittleEndian.AppendUint64(l, x)
	}
	if k.named {
		l = append(append(l, encoded(s.Name.N)...), encoded(s.Name.S)...)
	}
	return l
}

// encoded is a text as SP 800-185, 2.3.2, has it, of no more than 8191 bytes.
func encoded(text []byte) []byte {
	inBits := 8 * len(text)
	if inBits < 256 {
		return append([]byte{1, byte(inBits)}, text...)
	}
	return append([]byte{2, byte(inBits >> 8), byte(inBits)}, text...)
}

func hasBlock(t *testing.T, b api.Block, want []byte) {
	t.Helper()
	if l, err := Block(b); !bytes.Equal(l, want) || err != api.OK {
		t.Fatalf("Block(%v) = %x (%d bytes), %d, want %x (%d bytes)", b, l, len(l), err, want, len(want))
	}
}

func blockRefused(t *testing.T, b api.Block) {
	t.Helper()
	if l, err := Block(b); len(l) != 0 || err != api.ErrArg {
		t.Fatalf("Block(%v) = %x, %d", b, l, err)
	}
}

// hasSponge holds Right too.
func hasSponge(t *testing.T, s api.Sponge, want []byte) {
	t.Helper()
	if !Right(s) {
		t.Fatalf("%.200v isn't right", s)
	}
	if l, err := Sponge(s); !bytes.Equal(l, want) || err != api.OK {
		t.Fatalf("Sponge(%.200v) = %.500x (%d bytes), %d, want %.500x (%d bytes)", s, l, len(l), err, want, len(want))
	}
}

func spongeRefused(t *testing.T, s api.Sponge) {
	t.Helper()
	if Right(s) {
		t.Fatalf("%.200v, texts of %d and %d bytes, is right", s, len(s.Name.N), len(s.Name.S))
	}
	if l, err := Sponge(s); len(l) != 0 || err != api.ErrArg {
		t.Fatalf("Sponge(%.200v), texts of %d and %d bytes, = %.100x, %d", s, len(s.Name.N), len(s.Name.S), l, err)
	}
}

func hasSize(t *testing.T, alg int, n api.Name, want int) {
	t.Helper()
	if size := Size(alg, n); size != want {
		t.Fatalf("Size of %d, texts of %d and %d bytes = %d, want %d", alg, len(n.N), len(n.S), size, want)
	}
}

// Examples, P20.2
func TestSizesTold(t *testing.T) {
	hasSize(t, api.SHA256, api.Name{}, 118)
	hasSize(t, api.SHA3x256, api.Name{}, 207)
}

// P20.1: snapshots that are written out; a hash of blocks' of abc has 118 bytes, the fifth one 02
func TestSnapshotsWrittenOut(t *testing.T) {
	m, _ := merkle.New(api.SHA256)
	m.Write([]byte("abc"))
	want, _ := hex.DecodeString("435242310200" + "00000000000000000000000000000003" +
		"6a09e667bb67ae853c6ef372a54ff53a510e527f9b05688c1f83d9ab5be0cd19" + "616263")
	want = append(want, make([]byte, 61)...)
	hasBlock(t, m.State(), want)
	m, _ = merkle.New(api.SHA512)
	m.Write([]byte{0xff})
	want, _ = hex.DecodeString("435242310400" + "00000000000000000000000000000001" +
		"6a09e667f3bcc908bb67ae8584caa73b3c6ef372fe94f82ba54ff53a5f1d36f1" +
		"510e527fade682d19b05688c2b3e6c1f1f83d9abfb41bd6b5be0cd19137e2179" + "ff")
	want = append(want, make([]byte, 127)...)
	hasBlock(t, m.State(), want)
	want, _ = hex.DecodeString("43524231080003" + "6162630000000000")
	want = append(want, make([]byte, 192)...)
	hasSponge(t, api.Sponge{Alg: api.SHA3x256, A: api.Lanes{0x636261}, At: 3}, want)
	// The lanes of F of noughts, as FIPS 202's designers list them first.
	want, _ = hex.DecodeString("435242310d0108" + "e7dde140798f25f1")
	want = append(want, make([]byte, 192)...)
	want = append(want, "\x01\x08N\x01\x10xy"...)
	hasSponge(t, api.Sponge{Alg: api.CSHAKE128, A: api.Lanes{0xf1258f7940e1dde7}, At: 8, Reading: true, Name: named("N", "xy")}, want)
}

// P20.1: of each hash of blocks each rest, with whole blocks ahead of it and without, failed and not
func TestBlock(t *testing.T) {
	for _, k := range allBlocks {
		for rest := range k.block {
			for _, whole := range []uint64{0, 1, 2, 1000, 1 << 40} {
				for _, failed := range []bool{false, true} {
					b := k.state(whole, rest)
					b.Failed = failed
					hasBlock(t, b, ofBlock(k, b))
				}
			}
		}
	}
}

// P20.1: values of noughts, and of the greatest words; what each bit of each word is
func TestBlockValues(t *testing.T) {
	for _, k := range allBlocks {
		b := api.Block{Alg: k.alg}
		hasBlock(t, b, ofBlock(k, b))
		for at := range b.H {
			for bit := range 8 * k.word {
				one := api.Block{Alg: k.alg}
				one.H[at] = 1 << bit
				hasBlock(t, one, ofBlock(k, one))
			}
			b.H[at] = math.MaxUint64 >> (64 - 8*k.word)
			hasBlock(t, b, ofBlock(k, b))
		}
	}
}

// P20.1: words of 32 bits that are 2^32 or more
func TestBlockWordsTooGreat(t *testing.T) {
	for _, k := range allBlocks {
		for at := range 8 {
			for _, x := range []uint64{1 << 32, 1<<32 + 1, 1 << 33, 1 << 63, math.MaxUint64} {
				b := k.state(1, 3)
				b.H[at] = x
				if k.word == 4 {
					blockRefused(t, b)
				} else {
					hasBlock(t, b, ofBlock(k, b))
				}
			}
		}
	}
}

// P20.1: counts at the bound and past it, the lower half's carry among them
func TestBlockCounts(t *testing.T) {
	for _, k := range allBlocks {
		b := k.state(0, k.block-1)
		b.Count = k.most()
		hasBlock(t, b, ofBlock(k, b))
		b.Failed = true
		hasBlock(t, b, ofBlock(k, b))
		past := []api.Count{{Hi: 1 << 61}, {Hi: 1 << 62}, {Hi: 1 << 63}, {Hi: math.MaxUint64, Lo: math.MaxUint64 - 127}}
		high := []api.Count{{Lo: 1 << 61}, {Lo: 1 << 63}, {Hi: 1}, {Hi: 1<<61 - 1}, {Hi: 0x0123456789abcdef, Lo: 0xfedcba9876543200}}
		if k.word == 4 {
			past, high = append(past, high...), nil
		}
		for _, c := range past {
			blockRefused(t, api.Block{Alg: k.alg, Count: c})
			blockRefused(t, api.Block{Alg: k.alg, Count: c, Failed: true})
		}
		for _, c := range high {
			b := api.Block{Alg: k.alg, Count: c}
			hasBlock(t, b, ofBlock(k, b))
		}
	}
}

// P20.1: rests of another length than the count leaves over
func TestBlockRests(t *testing.T) {
	for _, k := range allBlocks {
		for left := range k.block {
			for _, rest := range []int{0, 1, k.block / 2, k.block - 1, k.block, k.block + left, 2*k.block + left, left - 1, left + 1, left + 256} {
				if rest == left || rest < 0 {
					continue
				}
				for _, whole := range []uint64{0, 1, 5} {
					b := k.state(whole, left)
					b.Rest = run(rest)
					blockRefused(t, b)
				}
			}
		}
	}
}

// P20.1: a rest whose last bytes are 0 is no shorter one
func TestBlockRestsOfNoughts(t *testing.T) {
	for _, k := range allBlocks {
		told := map[string]bool{}
		for rest := range k.block {
			b := k.state(3, rest)
			clear(b.Rest)
			hasBlock(t, b, ofBlock(k, b))
			l, _ := Block(b)
			told[string(l)] = true
		}
		if len(told) != k.block {
			t.Errorf("%d rests of noughts tell %d snapshots", k.block, len(told))
		}
	}
}

// P20.1: algorithms of the other kind, and numbers of none
func TestBlockOfAnother(t *testing.T) {
	wrong := slices.Clone(none)
	for _, k := range allSponges {
		wrong = append(wrong, k.alg)
	}
	for _, alg := range wrong {
		blockRefused(t, api.Block{Alg: alg})
		for _, k := range allBlocks {
			for _, rest := range []int{0, 3} {
				b := k.state(1, rest)
				b.Alg = alg
				blockRefused(t, b)
			}
		}
	}
}

// P20.1: all places that a byte can tell, with Reading and without
func TestSponge(t *testing.T) {
	for _, k := range allSponges {
		right, _ := k.names()
		for at := range 256 {
			for _, reading := range []bool{false, true} {
				s := api.Sponge{Alg: k.alg, A: lanes(), At: at, Reading: reading, Name: right[len(right)-1]}
				switch {
				case reading && k.reads && at <= k.block, !reading && at < k.block:
					hasSponge(t, s, ofSponge(k, s))
				default:
					spongeRefused(t, s)
				}
			}
		}
	}
}

// P20.1: places ahead of the block, and far off, some of which would do, were they cut
func TestSpongePlaces(t *testing.T) {
	for _, k := range allSponges {
		for _, at := range []int{
			-1, -2, -k.block, -256, 256, 257, 256 + k.block, 1 << 16, 1 << 32, 1<<32 + 5, -1 << 32, -1<<32 + 5,
			math.MaxInt32, math.MinInt32, math.MaxInt, math.MinInt, math.MinInt + 5,
		} {
			for _, reading := range []bool{false, true} {
				spongeRefused(t, api.Sponge{Alg: k.alg, At: at, Reading: reading})
			}
		}
	}
}

// P20.1: Reading, only of what can be read, whatever the place
func TestSpongeReading(t *testing.T) {
	for _, k := range allSponges {
		for _, at := range []int{0, 1, k.block - 1, k.block} {
			s := api.Sponge{Alg: k.alg, A: lanes(), At: at, Reading: true}
			if k.reads {
				hasSponge(t, s, ofSponge(k, s))
			} else {
				spongeRefused(t, s)
			}
		}
	}
}

// P20.1: lanes of noughts, and each bit of them by itself: none may not be
func TestSpongeLanes(t *testing.T) {
	for _, k := range allSponges {
		s := api.Sponge{Alg: k.alg}
		hasSponge(t, s, ofSponge(k, s))
		for bit := range 1600 {
			s := api.Sponge{Alg: k.alg, At: 1}
			s.A[bit/64] = 1 << (bit % 64)
			hasSponge(t, s, ofSponge(k, s))
		}
		for at := range s.A {
			s.A[at] = math.MaxUint64
			hasSponge(t, s, ofSponge(k, s))
		}
	}
}

// P20.1: names, right and not; none but the empty one where it isn't Named
func TestSpongeNames(t *testing.T) {
	for _, k := range allSponges {
		right, wrong := k.names()
		for _, n := range right {
			for _, reading := range []bool{false, k.reads} {
				s := api.Sponge{Alg: k.alg, A: lanes(), At: 5, Reading: reading, Name: n}
				hasSponge(t, s, ofSponge(k, s))
			}
		}
		for _, n := range wrong {
			for _, reading := range []bool{false, k.reads} {
				spongeRefused(t, api.Sponge{Alg: k.alg, A: lanes(), At: 5, Reading: reading, Name: n})
			}
		}
	}
}

// P20.1, P20.2: texts of each length up to the bound and past it, in either place
func TestNamesOfEachLength(t *testing.T) {
	b := run(1100)
	for n := range b {
		for _, k := range allSponges[6:] {
			for _, name := range []api.Name{{N: b[:n]}, {S: b[:n]}, {N: b[:n], S: b[:n]}, {N: b[:n], S: b[:3]}, {N: b[:1000], S: b[:n]}} {
				s := api.Sponge{Alg: k.alg, Name: name}
				if n > 1000 {
					spongeRefused(t, s)
					hasSize(t, k.alg, name, 0)
				} else {
					hasSponge(t, s, ofSponge(k, s))
					hasSize(t, k.alg, name, len(ofSponge(k, s)))
				}
			}
		}
	}
}

// P20.1: algorithms of the other kind, and numbers of none
func TestSpongeOfAnother(t *testing.T) {
	wrong := slices.Clone(none)
	for _, k := range allBlocks {
		wrong = append(wrong, k.alg)
	}
	for _, alg := range wrong {
		for _, at := range []int{0, 1, 64, 71, 128} {
			for _, reading := range []bool{false, true} {
				spongeRefused(t, api.Sponge{Alg: alg, At: at, Reading: reading})
				spongeRefused(t, api.Sponge{Alg: alg, A: lanes(), At: at, Reading: reading, Name: named("N", "S")})
			}
		}
	}
}

// P20.1: states that hashes come to, by what is written and read
func TestStatesOfHashes(t *testing.T) {
	for _, k := range allBlocks {
		m, _ := merkle.New(k.alg)
		for _, n := range []int{0, 1, k.block - 2, 1, 1, 3 * k.block, 700} {
			m.Write(run(n))
			hasBlock(t, m.State(), ofBlock(k, m.State()))
		}
		most := k.most()
		rest := len(m.State().Rest)
		most.Lo -= uint64(k.block - 1 - rest)
		if err := m.SetCount(most); err != api.OK {
			t.Fatal(err)
		}
		m.Write(run(k.block))
		b := m.State()
		if !b.Failed {
			t.Fatal("nothing failed")
		}
		hasBlock(t, b, ofBlock(k, b))
	}
	for _, k := range allSponges[6:] {
		for _, n := range rightNames() {
			s, _ := custom.New(map[int]int{168: 128, 136: 256}[k.block], n)
			tell := func() {
				a, at, reading := s.State()
				state := api.Sponge{Alg: k.alg, A: a, At: at, Reading: reading, Name: n}
				hasSponge(t, state, ofSponge(k, state))
			}
			tell()
			s.Write(run(500))
			tell()
			for _, many := range []int{1, k.block - 1, 1, 400} {
				s.Read(many)
				tell()
			}
		}
	}
}

// P20.1: what isn't right is what layer 15 doesn't go on from, the name and Reading aside
func TestRightAsSponges(t *testing.T) {
	for _, k := range allSponges[4:] {
		for at := -3; at < 300; at++ {
			for _, reading := range []bool{false, true} {
				_, err := sponge.From(k.block, 0x1f, lanes(), at, reading)
				if right := Right(api.Sponge{Alg: k.alg, A: lanes(), At: at, Reading: reading}); right != (err == api.OK) {
					t.Errorf("Right of %d at %d, %t: %t", k.alg, at, reading, right)
				}
			}
		}
	}
}

// P20.2: each algorithm, with all ways to write the empty name, and with names that may not be
func TestSizes(t *testing.T) {
	for _, k := range allBlocks {
		for _, n := range empties() {
			hasSize(t, k.alg, n, 4+1+1+16+8*k.word+k.block)
		}
		for _, n := range append(fullNames(), longNames()...) {
			hasSize(t, k.alg, n, 0)
		}
	}
	for _, k := range allSponges {
		right, wrong := k.names()
		for _, n := range right {
			want := 4 + 1 + 1 + 1 + 200
			if k.named {
				want += len(encoded(n.N)) + len(encoded(n.S))
			}
			hasSize(t, k.alg, n, want)
		}
		for _, n := range wrong {
			hasSize(t, k.alg, n, 0)
		}
	}
}

// P20.2: numbers of no algorithm, whatever the name
func TestSizesOfNone(t *testing.T) {
	for _, alg := range none {
		for _, n := range append(rightNames(), longNames()...) {
			hasSize(t, alg, n, 0)
		}
	}
	for away := range 500 {
		hasSize(t, -away, api.Name{}, 0)
		hasSize(t, 15+away, api.Name{}, 0)
	}
}

// P20.2: as many bytes as the snapshots have, whatever the state
func TestSizesOfSnapshots(t *testing.T) {
	for _, k := range allBlocks {
		for rest := range k.block {
			l, _ := Block(k.state(2, rest))
			hasSize(t, k.alg, api.Name{}, len(l))
		}
	}
	for _, k := range allSponges {
		right, _ := k.names()
		for _, n := range right {
			for _, at := range []int{0, 1, k.block - 1} {
				l, _ := Sponge(api.Sponge{Alg: k.alg, A: lanes(), At: at, Reading: k.reads, Name: n})
				hasSize(t, k.alg, n, len(l))
			}
		}
	}
}

// apart adds a snapshot to those that were told, and tells when it was there.
func apart(t *testing.T, told map[string]bool, l []byte, err api.Errno) {
	t.Helper()
	if err != api.OK || told[string(l)] {
		t.Fatalf("%.300x, %d: told before", l, err)
	}
	told[string(l)] = true
}

// P20.3: states of blocks that differ in one part, in one bit of it where it has bits
func TestBlocksApart(t *testing.T) {
	told := map[string]bool{}
	for _, k := range allBlocks {
		b := k.state(2, 3)
		add := func(b api.Block) {
			t.Helper()
			l, err := Block(b)
			apart(t, told, l, err)
		}
		add(b)
		b.Failed = true
		add(b)
		b.Failed = false
		for bit := range 64 * k.word {
			one := b
			one.H[bit/(8*k.word)] ^= 1 << (bit % (8 * k.word))
			add(one)
		}
		for bit := range 24 {
			one := b
			one.Rest = slices.Clone(b.Rest)
			one.Rest[bit/8] ^= 1 << (bit % 8)
			add(one)
		}
		for bit := 10; bit < 61; bit++ {
			one := b
			one.Count.Lo ^= 1 << bit
			add(one)
			if k.word == 8 {
				one.Count = api.Count{Hi: 1 << bit, Lo: b.Count.Lo}
				add(one)
			}
		}
		for rest := range k.block {
			if rest != 3 {
				add(k.state(2, rest))
			}
		}
	}
}

// P20.3: states of sponges that differ in one part; the flag, which is not the place; names whose texts run together
func TestSpongesApart(t *testing.T) {
	told := map[string]bool{}
	for _, k := range allSponges {
		s := api.Sponge{Alg: k.alg, A: lanes(), At: 3}
		add := func(s api.Sponge) {
			t.Helper()
			l, err := Sponge(s)
			apart(t, told, l, err)
		}
		for bit := range 1600 {
			one := s
			one.A[bit/64] ^= 1 << (bit % 64)
			add(one)
		}
		for at := range k.block {
			one := s
			one.At = at
			add(one)
		}
		for at := 0; at <= k.block && k.reads; at++ {
			one := s
			one.At, one.Reading = at, true
			add(one)
		}
		if !k.named {
			continue
		}
		for _, n := range append(fullNames(),
			named("ab", ""), named("a", "b"), named("", "ab"), named("a", ""), named("", "a"), named("b", "a"), named("a\x01\x08b", ""),
			named("\x00\x00", ""), named("", "\x00\x00"), named("\x00", "\x00"), named("ba", ""),
		) {
			one := s
			one.Name = n
			add(one)
		}
	}
}

// P20.3: states of unlike algorithms that are alike else
func TestAlgorithmsApart(t *testing.T) {
	told := map[string]bool{}
	for _, k := range allBlocks {
		l, err := Block(api.Block{Alg: k.alg})
		apart(t, told, l, err)
	}
	for _, k := range allSponges {
		l, err := Sponge(api.Sponge{Alg: k.alg})
		apart(t, told, l, err)
	}
}

// P20.3, R3: like states, however their nothings are written, have like snapshots
func TestLikeStates(t *testing.T) {
	for _, k := range allBlocks {
		b := k.state(2, 0)
		for _, rest := range [][]byte{nil, {}, run(9)[:0], run(9)[9:]} {
			b.Rest = rest
			hasBlock(t, b, ofBlock(k, b))
		}
	}
	for _, k := range allSponges {
		want := ofSponge(k, api.Sponge{Alg: k.alg, A: lanes()})
		for _, n := range empties() {
			hasSponge(t, api.Sponge{Alg: k.alg, A: lanes(), Name: n}, want)
		}
	}
}

// R4: what is handed in isn't changed, spare room included
func TestHandedIn(t *testing.T) {
	room := run(64)
	for _, k := range allBlocks {
		b := k.state(2, 3)
		b.Rest = room[10:13]
		Block(b)
		if !bytes.Equal(room, run(64)) {
			t.Fatalf("Block of %d changed its rest", k.alg)
		}
	}
	for _, k := range allSponges[6:] {
		s := api.Sponge{Alg: k.alg, A: lanes(), At: 3, Name: api.Name{N: room[10:12], S: room[20:25]}}
		Sponge(s)
		Right(s)
		Size(k.alg, s.Name)
		if !bytes.Equal(room, run(64)) {
			t.Fatalf("the name of %d was changed", k.alg)
		}
	}
}

// scribble writes into all that an answer has, spare room included.
func scribble(b []byte) {
	b = b[:cap(b)]
	for at := range b {
		b[at] ^= 0xa5
	}
}

// R4: what is told is new memory: writing into it makes no difference to an argument or to another answer
func TestTold(t *testing.T) {
	for _, k := range allBlocks {
		b := k.state(2, 3)
		first, _ := Block(b)
		second, _ := Block(b)
		scribble(first)
		if want := ofBlock(k, k.state(2, 3)); !bytes.Equal(second, want) || !bytes.Equal(b.Rest, run(3)) {
			t.Fatalf("%d: %x, want %x", k.alg, second, want)
		}
		hasBlock(t, b, ofBlock(k, k.state(2, 3)))
	}
	for _, k := range allSponges {
		right, _ := k.names()
		for _, n := range right {
			s := api.Sponge{Alg: k.alg, A: lanes(), At: 3, Name: n}
			want := ofSponge(k, s)
			first, _ := Sponge(s)
			second, _ := Sponge(s)
			scribble(first)
			if !bytes.Equal(second, want) {
				t.Fatalf("%d: %x, want %x", k.alg, second, want)
			}
			hasSponge(t, s, want)
		}
	}
}

// R4: what is written into an argument behind the call makes no difference to what was told
func TestWrittenBehind(t *testing.T) {
	for _, k := range allBlocks {
		b := k.state(2, 3)
		l, _ := Block(b)
		want := ofBlock(k, b)
		scribble(b.Rest)
		if !bytes.Equal(l, want) {
			t.Fatalf("%d: %x, want %x", k.alg, l, want)
		}
	}
	for _, k := range allSponges[6:] {
		s := api.Sponge{Alg: k.alg, A: lanes(), At: 3, Name: named("Name", "Text")}
		l, _ := Sponge(s)
		want := ofSponge(k, s)
		scribble(s.Name.N)
		scribble(s.Name.S)
		if !bytes.Equal(l, want) {
			t.Fatalf("%d: %x, want %x", k.alg, l, want)
		}
	}
}

// R1, R5: functions that have no object may be called by several goroutines at once
func TestAtOnce(t *testing.T) {
	var all sync.WaitGroup
	for range 8 {
		all.Go(func() {
			for _, k := range allBlocks {
				b := k.state(1, 3)
				if l, err := Block(b); !bytes.Equal(l, ofBlock(k, b)) || err != api.OK {
					t.Errorf("Block of %d = %x, %d", k.alg, l, err)
				}
			}
			for _, k := range allSponges {
				s := api.Sponge{Alg: k.alg, A: lanes(), At: 3}
				if l, err := Sponge(s); !bytes.Equal(l, ofSponge(k, s)) || err != api.OK || Size(k.alg, s.Name) != len(l) {
					t.Errorf("Sponge of %d = %x, %d", k.alg, l, err)
				}
			}
		})
	}
	all.Wait()
}
