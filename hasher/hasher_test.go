package hasher

import (
	"bytes"
	"crypto/sha256"
	"crypto/sha3"
	"crypto/sha512"
	"encoding/binary"
	"encoding/hex"
	"math"
	"math/rand"
	"runtime"
	"slices"
	"sync"
	"testing"
	"time"

	"cribble/api"
	"cribble/custom"
	"cribble/merkle"
	"cribble/snap"
	"cribble/sponge"
)

// kind is an algorithm by chapter 18's table, and the standard library's first bytes of a message by it.
type kind struct {
	alg, digest, block int
	blocks             bool
	reads, named       bool
	first              func(n api.Name, message []byte, many int) []byte
}

var kinds = []kind{
	{alg: api.SHA224, digest: 28, block: 64, blocks: true, first: fixed(func(b []byte) []byte { h := sha256.Sum224(b); return h[:] })},
	{alg: api.SHA256, digest: 32, block: 64, blocks: true, first: fixed(func(b []byte) []byte { h := sha256.Sum256(b); return h[:] })},
	{alg: api.SHA384, digest: 48, block: 128, blocks: true, first: fixed(func(b []byte) []byte { h := sha512.Sum384(b); return h[:] })},
	{alg: api.SHA512, digest: 64, block: 128, blocks: true, first: fixed(func(b []byte) []byte { h := sha512.Sum512(b); return h[:] })},
	{alg: api.SHA512x224, digest: 28, block: 128, blocks: true, first: fixed(func(b []byte) []byte { h := sha512.Sum512_224(b); return h[:] })},
	{alg: api.SHA512x256, digest: 32, block: 128, blocks: true, first: fixed(func(b []byte) []byte { h := sha512.Sum512_256(b); return h[:] })},
	{alg: api.SHA3x224, digest: 28, block: 144, first: fixed(func(b []byte) []byte { h := sha3.Sum224(b); return h[:] })},
	{alg: api.SHA3x256, digest: 32, block: 136, first: fixed(func(b []byte) []byte { h := sha3.Sum256(b); return h[:] })},
	{alg: api.SHA3x384, digest: 48, block: 104, first: fixed(func(b []byte) []byte { h := sha3.Sum384(b); return h[:] })},
	{alg: api.SHA3x512, digest: 64, block: 72, first: fixed(func(b []byte) []byte { h := sha3.Sum512(b); return h[:] })},
	{alg: api.SHAKE128, digest: 32, block: 168, reads: true, first: open(func(api.Name) *sha3.SHAKE { return sha3.NewSHAKE128() })},
	{alg: api.SHAKE256, digest: 64, block: 136, reads: true, first: open(func(api.Name) *sha3.SHAKE { return sha3.NewSHAKE256() })},
	{alg: api.CSHAKE128, digest: 32, block: 168, reads: true, named: true, first: open(func(n api.Name) *sha3.SHAKE { return sha3.NewCSHAKE128(n.N, n.S) })},
	{alg: api.CSHAKE256, digest: 64, block: 136, reads: true, named: true, first: open(func(n api.Name) *sha3.SHAKE { return sha3.NewCSHAKE256(n.N, n.S) })},
}

func fixed(sum func([]byte) []byte) func(api.Name, []byte, int) []byte {
	return func(_ api.Name, message []byte, many int) []byte { return sum(message)[:many] }
}

func open(begun func(api.Name) *sha3.SHAKE) func(api.Name, []byte, int) []byte {
	return func(n api.Name, message []byte, many int) []byte {
		h := begun(n)
		h.Write(message)
		b := make([]byte, many)
		h.Read(b)
		return b
	}
}

// wanted is the standard library's digest.
func (k kind) wanted(n api.Name, message []byte) []byte {
	return k.first(n, message, k.digest)
}

// run tells n bytes that repeat at no block's size.
func run(n int) []byte {
	b := make([]byte, n)
	for at := range b {
		b[at] = byte(at*167 + at/251 + 13)
	}
	return b
}

func text(n, s string) api.Name {
	return api.Name{N: []byte(n), S: []byte(s)}
}

// empties are ways to write the empty name.
func empties() []api.Name {
	return []api.Name{{}, {N: []byte{}}, {S: []byte{}}, {N: []byte{}, S: []byte{}}, {N: run(5)[:0], S: run(5)[5:]}}
}

// fullNames aren't empty, and are right.
func fullNames() []api.Name {
	return []api.Name{
		text("", "Email Signature"), text("KMAC", ""), text("N", "S"), text("\x00", ""), text("", "\x00"),
		{N: run(1000)}, {S: run(1000)}, {N: run(1000), S: run(1000)}, {N: run(999), S: run(1)},
	}
}

// longNames have a text of more bytes than may be.
func longNames() []api.Name {
	return []api.Name{{N: run(1001)}, {S: run(1001)}, {N: run(1001), S: run(1001)}, {N: run(1001), S: run(1000)}, {N: run(1000), S: run(1001)}, {N: run(70000)}}
}

// names are those that its hashers may have.
func (k kind) names() []api.Name {
	if k.named {
		return append(empties(), fullNames()...)
	}
	return empties()
}

// someNames are fewer, for what is gone through often.
func (k kind) someNames() []api.Name {
	if k.named {
		return []api.Name{{}, text("", "Email Signature"), {N: run(300), S: run(3)}}
	}
	return []api.Name{{}}
}

// lengths are those of the empty message, and of messages about whole blocks and the places where a padding just fits.
func (k kind) lengths() []int {
	l := []int{0, 1, 2, 3, 1000}
	for blocks := 1; blocks <= 2; blocks++ {
		for _, less := range []int{18, 17, 16, 10, 9, 8, 2, 1, 0, -1} {
			l = append(l, blocks*k.block-less)
		}
	}
	return l
}

// most is the greatest count that may be.
func (k kind) most() api.Count {
	if k.block == 64 {
		return api.Count{Lo: 1<<61 - 1}
	}
	return api.Count{Hi: 1<<61 - 1, Lo: math.MaxUint64}
}

// below tells the greatest count less n.
func (k kind) below(n int) api.Count {
	c := k.most()
	c.Lo -= uint64(n)
	return c
}

// under is what layers 11, 15 and 17 make of the calls that a hasher has been through: what the chapter says it is.
type under struct {
	kind
	name   api.Name
	stream *merkle.Stream
	sponge *sponge.Sponge
}

func (k kind) under(n api.Name) *under {
	u := &under{kind: k, name: n}
	u.reset()
	return u
}

func (u *under) reset() {
	switch {
	case u.blocks:
		u.stream, _ = merkle.New(u.alg)
	case u.named:
		u.sponge, _ = custom.New(map[int]int{168: 128, 136: 256}[u.block], u.name)
	case u.reads:
		u.sponge, _ = sponge.New(u.block, 0x1f)
	default:
		u.sponge, _ = sponge.New(u.block, 0x06)
	}
}

func (u *under) write(b []byte) (int, api.Errno) {
	if u.blocks {
		return u.stream.Write(b)
	}
	return u.sponge.Write(b)
}

func (u *under) sum() ([]byte, api.Errno) {
	if u.blocks {
		return u.stream.Sum()
	}
	return u.sponge.Sum(u.digest)
}

func (u *under) read(n int) ([]byte, api.Errno) {
	if !u.reads {
		return nil, api.ErrFixed
	}
	return u.sponge.Read(n)
}

func (u *under) setCount(c api.Count) api.Errno {
	if !u.blocks {
		return api.ErrArg
	}
	return u.stream.SetCount(c)
}

func (u *under) clone() *under {
	c := *u
	if u.blocks {
		c.stream = u.stream.Clone()
	} else {
		c.sponge = u.sponge.Clone()
	}
	return &c
}

func (u *under) marshal() []byte {
	if u.blocks {
		b, _ := snap.Block(u.stream.State())
		return b
	}
	a, at, reading := u.sponge.State()
	b, _ := snap.Sponge(api.Sponge{Alg: u.alg, A: a, At: at, Reading: reading, Name: u.name})
	return b
}

func (k kind) begun(t *testing.T, n api.Name) *Hasher {
	t.Helper()
	h, err := New(k.alg, n)
	if h == nil || err != api.OK {
		t.Fatalf("New of %d, texts of %d and %d bytes = %v, %d", k.alg, len(n.N), len(n.S), h, err)
	}
	return h
}

func unmarshalled(t *testing.T, b []byte) *Hasher {
	t.Helper()
	h, err := Unmarshal(b)
	if h == nil || err != api.OK {
		t.Fatalf("Unmarshal(%.300x) (%d bytes) = %v, %d", b, len(b), h, err)
	}
	return h
}

func written(t *testing.T, h *Hasher, pieces ...[]byte) {
	t.Helper()
	for _, b := range pieces {
		if n, err := h.Write(b); n != len(b) || err != api.OK {
			t.Fatalf("Write of %d bytes of %d = %d, %d", len(b), h.Alg(), n, err)
		}
	}
}

func hasSum(t *testing.T, h *Hasher, want []byte) {
	t.Helper()
	if b, err := h.Sum(nil); !bytes.Equal(b, want) || err != api.OK {
		t.Fatalf("Sum of %d = %x, %d, want %x", h.Alg(), b, err, want)
	}
}

func sumRefused(t *testing.T, h *Hasher, want api.Errno) {
	t.Helper()
	for _, prefix := range [][]byte{nil, {}, []byte("x"), run(100)} {
		if b, err := h.Sum(prefix); len(b) != 0 || err != want {
			t.Fatalf("Sum of %d = %x, %d, want %d", h.Alg(), b, err, want)
		}
	}
}

func writeRefused(t *testing.T, h *Hasher, b []byte, want api.Errno) {
	t.Helper()
	if n, err := h.Write(b); n != 0 || err != want {
		t.Fatalf("Write of %d bytes of %d = %d, %d, want %d", len(b), h.Alg(), n, err, want)
	}
}

func hasRead(t *testing.T, h *Hasher, want []byte) {
	t.Helper()
	if b, err := h.Read(len(want)); !bytes.Equal(b, want) || err != api.OK {
		t.Fatalf("Read of %d, %d bytes = %.100x, %d, want %.100x", h.Alg(), len(want), b, err, want)
	}
}

func readRefused(t *testing.T, h *Hasher, n int, want api.Errno) {
	t.Helper()
	if b, err := h.Read(n); len(b) != 0 || err != want {
		t.Fatalf("Read of %d, %d bytes = %.100x, %d, want %d", h.Alg(), n, b, err, want)
	}
}

func hasCount(t *testing.T, h *Hasher, c api.Count, want api.Errno) {
	t.Helper()
	if err := h.SetCount(c); err != want {
		t.Fatalf("SetCount of %d, %v = %d, want %d", h.Alg(), c, err, want)
	}
}

// stands holds all that may be asked of a hasher without changing it.
func stands(t *testing.T, h *Hasher, u *under) {
	t.Helper()
	if h.Alg() != u.alg || h.Size() != u.digest || h.BlockSize() != u.block {
		t.Fatalf("Alg, Size, BlockSize = %d, %d, %d, want %d, %d, %d", h.Alg(), h.Size(), h.BlockSize(), u.alg, u.digest, u.block)
	}
	if b, want := h.Marshal(), u.marshal(); !bytes.Equal(b, want) {
		t.Fatalf("Marshal of %d = %x, want %x", u.alg, b, want)
	}
	want, wantErr := u.sum()
	if b, err := h.Sum(nil); !bytes.Equal(b, want) || err != wantErr {
		t.Fatalf("Sum of %d = %x, %d, want %x, %d", u.alg, b, err, want, wantErr)
	}
}

// goesOn holds a hasher and what layers 11, 15 and 17 make of it to one another through what follows, all calls among it.
func goesOn(t *testing.T, h *Hasher, u *under) {
	t.Helper()
	stands(t, h, u)
	for _, n := range []int{0, 1, u.block, 3, 2*u.block + 5} {
		alsoWrites(t, h, u, run(n))
	}
	for _, n := range []int{-1, 0, 1, u.block - 1, u.block, 7, api.MaxRead + 1} {
		alsoReads(t, h, u, n)
	}
	alsoWrites(t, h, u, run(3))
	h.Reset()
	u.reset()
	stands(t, h, u)
	alsoWrites(t, h, u, run(u.block+3))
	alsoReads(t, h, u, 9)
}

func alsoWrites(t *testing.T, h *Hasher, u *under, b []byte) {
	t.Helper()
	want, wantErr := u.write(b)
	if n, err := h.Write(b); n != want || err != wantErr {
		t.Fatalf("Write of %d bytes of %d = %d, %d, want %d, %d", len(b), u.alg, n, err, want, wantErr)
	}
	stands(t, h, u)
}

func alsoReads(t *testing.T, h *Hasher, u *under, n int) {
	t.Helper()
	want, wantErr := u.read(n)
	if b, err := h.Read(n); !bytes.Equal(b, want) || err != wantErr {
		t.Fatalf("Read of %d bytes of %d = %.100x, %d, want %.100x, %d", n, u.alg, b, err, want, wantErr)
	}
	stands(t, h, u)
}

// been is a state that a hasher comes to by what is done to it, and what layers 11, 15 and 17 make of that.
type been struct {
	what string
	h    *Hasher
	u    *under
}

// states has k's hashers in all kinds of states: at the beginning, written to, with another count, failed, read.
func (k kind) states(t *testing.T, n api.Name) []been {
	t.Helper()
	var l []been
	add := func(what string, do func(h *Hasher, u *under)) {
		s := been{what, k.begun(t, n), k.under(n)}
		do(s.h, s.u)
		l = append(l, s)
	}
	add("at the beginning", func(*Hasher, *under) {})
	for _, many := range []int{0, 1, 3, k.block - 1, k.block, k.block + 1, 5*k.block + 7} {
		add("written to", func(h *Hasher, u *under) { alsoWrites(t, h, u, run(many)) })
		if k.blocks {
			count := k.below(k.block - 1 - many%k.block)
			add("of a great count", func(h *Hasher, u *under) { alsoWrites(t, h, u, run(many)); both(h, u, count) })
			add("failed", func(h *Hasher, u *under) {
				alsoWrites(t, h, u, run(many))
				both(h, u, count)
				alsoWrites(t, h, u, run(k.block))
			})
		}
		if k.reads {
			for _, size := range []int{0, 1, k.block - 1, k.block, k.block + 1, 3 * k.block} {
				add("read", func(h *Hasher, u *under) { alsoWrites(t, h, u, run(many)); alsoReads(t, h, u, size) })
			}
		}
	}
	return l
}

func both(h *Hasher, u *under, c api.Count) {
	h.SetCount(c)
	u.setCount(c)
}

// allStates has those of all algorithms, with some names.
func allStates(t *testing.T) []been {
	t.Helper()
	var l []been
	for _, k := range kinds {
		for _, n := range k.someNames() {
			l = append(l, k.states(t, n)...)
		}
	}
	return l
}

// The states that the other tests go through are what they are said to be.
func TestStates(t *testing.T) {
	many := map[string]int{}
	for _, s := range allStates(t) {
		many[s.what]++
		_, err := s.h.Sum(nil)
		if s.what == "failed" && err != api.ErrLong || s.what == "of a great count" && err != api.OK {
			t.Errorf("Sum of %d, %s = %d", s.u.alg, s.what, err)
		}
	}
	for _, what := range []string{"at the beginning", "written to", "of a great count", "failed", "read"} {
		if many[what] < 14 {
			t.Errorf("%d are %s", many[what], what)
		}
	}
}

func unhexed(t *testing.T, text string) []byte {
	t.Helper()
	b, err := hex.DecodeString(text)
	if err != nil {
		t.Fatal(err)
	}
	return b
}

// Examples: the chapter's
func TestExample(t *testing.T) {
	h, _ := New(api.SHA256, api.Name{})
	h.Write([]byte("abc"))
	want := unhexed(t, "78ba7816bf8f01cfea414140de5dae2223b00361a396177a9cb410ff61f20015ad")
	if b, err := h.Sum([]byte("x")); !bytes.Equal(b, want) || err != api.OK {
		t.Errorf("%x, %d", b, err)
	}
}

// Examples of the whole: 1, 2, 3, 4, 6, 7 and 10
func TestExamplesOfTheWhole(t *testing.T) {
	h, _ := New(api.SHA3x256, api.Name{})
	if b, err := h.Sum(nil); len(b) != 32 || !bytes.HasPrefix(b, unhexed(t, "a7ffc6f8bf1ed766")) || err != api.OK {
		t.Errorf("2: %x, %d", b, err)
	}
	h, _ = New(api.SHAKE128, api.Name{})
	hasRead(t, h, unhexed(t, "7f9c"))
	hasRead(t, h, unhexed(t, "2ba4"))
	writeRefused(t, h, []byte("a"), 5)
	h, _ = New(api.CSHAKE128, text("", "Email Signature"))
	written(t, h, []byte{0, 1, 2, 3})
	hasRead(t, h, unhexed(t, "c1c36925b6409a04f1b504fcbca9d82b4017277cb5ed2b2065fc1d3814d5aaf5"))
	h, _ = New(api.SHA256, api.Name{})
	written(t, h, []byte("abc"))
	b := h.Marshal()
	if len(b) != 118 || b[4] != 2 {
		t.Errorf("6: %x", b)
	}
	b[117] = 1
	if u, err := Unmarshal(b); u != nil || err != 7 {
		t.Errorf("6: %v, %d", u, err)
	}
	h, _ = New(api.SHA256, api.Name{})
	hasCount(t, h, api.Count{Lo: 1<<61 - 64}, api.OK)
	written(t, h, run(63))
	writeRefused(t, h, run(1), 4)
	h, _ = New(api.SHA256, api.Name{})
	written(t, h, []byte("a"))
	c := h.Clone()
	written(t, h, []byte("bc"))
	written(t, c, []byte("xy"))
	hasSum(t, h, unhexed(t, "ba7816bf8f01cfea414140de5dae2223b00361a396177a9cb410ff61f20015ad"))
	hasSum(t, c, kinds[1].wanted(api.Name{}, []byte("axy")))
}

// P22.1, P22.3: a hasher at its beginning, of each algorithm and each name that it may have
func TestNew(t *testing.T) {
	for _, k := range kinds {
		for _, n := range k.names() {
			h := k.begun(t, n)
			stands(t, h, k.under(n))
			hasSum(t, h, k.wanted(n, nil))
			goesOn(t, h, k.under(n))
		}
	}
}

// P22.1, R2: ErrAlg of no algorithm, whatever the name
func TestNoAlgorithm(t *testing.T) {
	none := []int{
		0, 15, 16, 17, -1, -2, -7, -13, -14, 64, 128, 255, 256, 256 + 2, 256 + 13, 1<<16 + 8, 1<<32 + 2, 1<<32 + 11, -1<<32 + 13,
		math.MaxInt32, math.MinInt32, math.MaxInt, math.MinInt, math.MinInt + 2,
	}
	for _, alg := range none {
		for _, n := range slices.Concat(empties(), fullNames(), longNames()) {
			if h, err := New(alg, n); h != nil || err != api.ErrAlg {
				t.Errorf("New of %d, texts of %d and %d bytes = %v, %d", alg, len(n.N), len(n.S), h, err)
			}
		}
	}
}

// P22.1: ErrArg of a name where none may be, and of one that isn't right
func TestNamesThatMayNotBe(t *testing.T) {
	for _, k := range kinds {
		wrong := longNames()
		if !k.named {
			wrong = append(wrong, fullNames()...)
		}
		for _, n := range wrong {
			if h, err := New(k.alg, n); h != nil || err != api.ErrArg {
				t.Errorf("New of %d, texts of %d and %d bytes = %v, %d", k.alg, len(n.N), len(n.S), h, err)
			}
		}
	}
}

// P22.2, P22.4: messages of each length at once
func TestDigests(t *testing.T) {
	for _, k := range kinds {
		for _, n := range k.someNames() {
			for _, many := range k.lengths() {
				h := k.begun(t, n)
				written(t, h, run(many))
				hasSum(t, h, k.wanted(n, run(many)))
			}
		}
	}
}

// P22.2, P22.4, W1: in two pieces, cut at each place, with a digest told between
func TestEachCut(t *testing.T) {
	for _, k := range kinds {
		for _, n := range k.someNames() {
			message := run(2*k.block + 3)
			want := k.wanted(n, message)
			for cut := range len(message) + 1 {
				h := k.begun(t, n)
				written(t, h, message[:cut])
				hasSum(t, h, k.wanted(n, message[:cut]))
				written(t, h, message[cut:])
				hasSum(t, h, want)
			}
		}
	}
}

// P22.2, P22.4, W1: in pieces of all sizes, nothing among them
func TestPieces(t *testing.T) {
	for _, k := range kinds {
		for _, size := range []int{1, 2, 3, 7, 31, k.block - 1, k.block, k.block + 1} {
			h, message := k.begun(t, api.Name{}), run(5*k.block+11)
			for piece := range slices.Chunk(message, size) {
				written(t, h, nil, piece, []byte{}, piece[:0])
			}
			hasSum(t, h, k.wanted(api.Name{}, message))
		}
	}
}

// P22.2, P22.4: nothing written, by no call and by some
func TestNothingWritten(t *testing.T) {
	for _, k := range kinds {
		for _, n := range k.names() {
			h := k.begun(t, n)
			written(t, h, nil, []byte{}, run(9)[4:4])
			stands(t, h, k.under(n))
			hasSum(t, h, k.wanted(n, nil))
		}
	}
}

// P22.2: the digest stands behind what was handed in, whatever room that has, which stays as it is
func TestSumBehindPrefix(t *testing.T) {
	for _, k := range kinds {
		h := k.begun(t, api.Name{})
		written(t, h, []byte("abc"))
		want := k.wanted(api.Name{}, []byte("abc"))
		for _, prefix := range [][]byte{nil, {}, []byte("x"), {0}, run(k.block), run(1000), run(500)[:3], run(500)[7:7]} {
			was := bytes.Clone(prefix[:cap(prefix)])
			b, err := h.Sum(prefix)
			if !bytes.Equal(b, slices.Concat(was[:len(prefix)], want)) || err != api.OK {
				t.Fatalf("Sum of %d behind %d bytes = %x, %d", k.alg, len(prefix), b, err)
			}
			if !bytes.Equal(prefix[:cap(prefix)], was) {
				t.Fatalf("Sum of %d changed its prefix, or the room behind it", k.alg)
			}
			fill(b)
			if !bytes.Equal(prefix[:cap(prefix)], was) {
				t.Fatalf("Sum of %d told its prefix itself", k.alg)
			}
			hasSum(t, h, want)
		}
		if b, _ := h.Sum(h.Marshal()); !bytes.Equal(b, append(h.Marshal(), want...)) {
			t.Fatalf("Sum of %d behind its snapshot = %x", k.alg, b)
		}
	}
}

// P22.2, P22.4: a digest behind each piece that is the prefix's own
func TestSumOfSum(t *testing.T) {
	for _, k := range kinds {
		h := k.begun(t, api.Name{})
		var all, message []byte
		for at := range 10 {
			written(t, h, run(at*37))
			message = append(message, run(at*37)...)
			want := append(bytes.Clone(all), k.wanted(api.Name{}, message)...)
			all, _ = h.Sum(all)
			if !bytes.Equal(all, want) {
				t.Fatalf("Sum of %d behind %d digests = %x, want %x", k.alg, at, all, want)
			}
		}
	}
}

// P22.2: Sum of what something was read of, and Write into it: of nothing too
func TestReadTakesNoMore(t *testing.T) {
	for _, k := range kinds[10:] {
		for _, n := range k.someNames() {
			for _, many := range []int{1, 2, k.block - 1, k.block, k.block + 1, 1000} {
				h := k.begun(t, n)
				written(t, h, []byte("abc"))
				want := k.first(n, []byte("abc"), many+50)
				hasRead(t, h, want[:many])
				was := h.Marshal()
				sumRefused(t, h, api.ErrSqueeze)
				for _, b := range [][]byte{nil, {}, {0}, []byte("abc"), run(1000)} {
					writeRefused(t, h, b, api.ErrSqueeze)
				}
				if !bytes.Equal(h.Marshal(), was) {
					t.Fatalf("%d was changed by what it refused", k.alg)
				}
				hasRead(t, h, want[many:])
			}
		}
	}
}

// P22.2, W2: in parts of all sizes, nothing among them
func TestReadInParts(t *testing.T) {
	for _, k := range kinds[10:] {
		for _, n := range k.someNames() {
			want := k.first(n, run(200), 5*k.block+11)
			for _, size := range []int{1, 2, 7, k.block - 1, k.block, k.block + 1, 3 * k.block} {
				h := k.begun(t, n)
				written(t, h, run(200))
				for part := range slices.Chunk(want, size) {
					hasRead(t, h, nil)
					hasRead(t, h, part)
				}
			}
		}
	}
}

// P22.2: Read of nothing leaves all as it is: more may be written, and a digest is told
func TestReadOfNothing(t *testing.T) {
	for _, k := range kinds[10:] {
		for _, n := range k.someNames() {
			h := k.begun(t, n)
			hasRead(t, h, nil)
			written(t, h, []byte("a"))
			hasRead(t, h, nil)
			hasSum(t, h, k.wanted(n, []byte("a")))
			written(t, h, []byte("bc"))
			hasSum(t, h, k.wanted(n, []byte("abc")))
			hasRead(t, h, k.first(n, []byte("abc"), 5))
		}
	}
}

// P22.2: as many bytes may be read at once as MaxRead is, and no more
func TestMostRead(t *testing.T) {
	for _, k := range kinds[10:] {
		h := k.begun(t, api.Name{})
		want := k.first(api.Name{}, nil, api.MaxRead+3)
		hasRead(t, h, want[:api.MaxRead])
		readRefused(t, h, api.MaxRead+1, api.ErrArg)
		hasRead(t, h, want[api.MaxRead:])
	}
}

// wrongMany are numbers of bytes that aren't read.
var wrongMany = []int{-1, -2, -32, -api.MaxRead, math.MinInt32, math.MinInt, api.MaxRead + 1, 2 * api.MaxRead, math.MaxInt32, 1<<32 + 32, math.MaxInt}

// P22.2: wrong numbers of what can be read, ahead of the first byte and behind it, leave all as it is
func TestWrongNumbersRead(t *testing.T) {
	for _, s := range allStates(t) {
		if !s.u.reads {
			continue
		}
		for _, n := range wrongMany {
			readRefused(t, s.h, n, api.ErrArg)
		}
		goesOn(t, s.h, s.u)
	}
}

// P22.2, R2: ErrFixed of what cannot be read, whatever the number, failed states among them; all stays as it is
func TestReadOfFixed(t *testing.T) {
	for _, s := range allStates(t) {
		if s.u.reads {
			continue
		}
		for _, n := range append([]int{0, 1, 2, 32, s.u.digest, 200, api.MaxRead}, wrongMany...) {
			readRefused(t, s.h, n, api.ErrFixed)
		}
		goesOn(t, s.h, s.u)
	}
}

// P22.3: in all states
func TestNumbersTold(t *testing.T) {
	for _, s := range allStates(t) {
		if s.h.Alg() != s.u.alg || s.h.Size() != s.u.digest || s.h.BlockSize() != s.u.block {
			t.Errorf("%d, %s: %d, %d, %d", s.u.alg, s.what, s.h.Alg(), s.h.Size(), s.h.BlockSize())
		}
	}
}

// P22.3: SetCount of a sponge, in all its states: ErrArg, whatever the count
func TestSetCountOfSponge(t *testing.T) {
	for _, s := range allStates(t) {
		if s.u.blocks {
			continue
		}
		at := uint64(s.h.Marshal()[6])
		for _, c := range []api.Count{{}, {Lo: 1}, {Lo: at}, {Lo: uint64(s.u.block)}, {Lo: at + uint64(s.u.block)}, {Hi: 1}, {Hi: math.MaxUint64, Lo: math.MaxUint64}} {
			hasCount(t, s.h, c, api.ErrArg)
		}
		goesOn(t, s.h, s.u)
	}
}

// P22.3: SetCount of a hash of blocks: counts that leave over as many bytes as its rest has, up to the greatest, and others
func TestSetCount(t *testing.T) {
	for _, k := range kinds[:6] {
		for _, rest := range []int{0, 1, k.block - 1} {
			h, u := k.begun(t, api.Name{}), k.under(api.Name{})
			alsoWrites(t, h, u, run(k.block+rest))
			for _, c := range []api.Count{{Lo: uint64(rest)}, {Lo: uint64(1000*k.block + rest)}, {Lo: 1<<60 + uint64(rest)}, k.below(k.block - 1 - rest)} {
				hasCount(t, h, c, api.OK)
				u.setCount(c)
				stands(t, h, u)
				other := c
				other.Lo ^= 1
				hasCount(t, h, other, api.ErrArg)
				other.Lo = c.Lo ^ uint64(k.block/2)
				hasCount(t, h, other, api.ErrArg)
				stands(t, h, u)
			}
			past := []api.Count{{Hi: 1 << 61, Lo: uint64(rest)}, {Hi: math.MaxUint64, Lo: uint64(rest)}}
			if k.block == 64 {
				past = append(past, api.Count{Lo: 1<<61 + uint64(rest)}, api.Count{Hi: 1, Lo: uint64(rest)})
			}
			for _, c := range past {
				hasCount(t, h, c, api.ErrArg)
			}
			goesOn(t, h, u)
		}
	}
}

// lengthOf is the padding's length of FIPS 180-4, 5.1, of c bytes.
func (k kind) lengthOf(c api.Count) []byte {
	b := binary.BigEndian.AppendUint64(nil, c.Hi<<3|c.Lo>>61)
	b = binary.BigEndian.AppendUint64(b, c.Lo<<3)
	return b[16-k.block/8:]
}

// P22.3: a digest behind SetCount tells the count: it is that of a message with another length in its padding. The
// block of the padding is written out, and the value behind it is the snapshot's.
func TestCountInDigest(t *testing.T) {
	for _, k := range kinds[:6] {
		count := k.below(k.block - 1 - 3)
		h := k.begun(t, api.Name{})
		written(t, h, []byte("abc"))
		hasCount(t, h, count, api.OK)
		padded := k.begun(t, api.Name{})
		block := append([]byte("abc\x80"), make([]byte, k.block-4-k.block/8)...)
		written(t, padded, block, k.lengthOf(count))
		hasSum(t, h, padded.Marshal()[22:][:k.digest])
	}
}

// P22.2, P22.3, W5: up to the greatest count; one byte more absorbs nothing and leaves it failed till it begins anew
func TestFailed(t *testing.T) {
	for _, k := range kinds[:6] {
		h := k.begun(t, api.Name{})
		written(t, h, []byte("abc"))
		hasCount(t, h, k.below(k.block-4), api.OK)
		written(t, h, run(k.block-5), nil)
		if _, err := h.Sum(nil); err != api.OK {
			t.Fatalf("Sum of %d, below its bound = %d", k.alg, err)
		}
		written(t, h, run(1), nil)
		whole := h.Clone()
		if _, err := whole.Sum(nil); err != api.OK {
			t.Fatalf("Sum of %d, at its bound = %d", k.alg, err)
		}
		was := h.Marshal()
		writeRefused(t, h, run(1), api.ErrLong)
		holdsFailed(t, h)
		was[5] = 1
		hasSnapshot(t, h, was)
		holdsFailed(t, h.Clone())
		holdsFailed(t, h.Clone().Clone())
		holdsFailed(t, unmarshalled(t, h.Marshal()))
		hasCount(t, h, api.Count{Lo: uint64(k.block - 1)}, api.OK)
		holdsFailed(t, h)
		for _, again := range []*Hasher{h.Clone(), unmarshalled(t, h.Marshal()), h} {
			again.Reset()
			goesOn(t, again.Clone(), k.under(api.Name{}))
			written(t, again, []byte("abc"))
			hasSum(t, again, k.wanted(api.Name{}, []byte("abc")))
		}
		if _, err := whole.Sum(nil); err != api.OK {
			t.Fatalf("Sum of %d, at its bound = %d behind another one's failure", k.alg, err)
		}
	}
}

func holdsFailed(t *testing.T, h *Hasher) {
	t.Helper()
	was := h.Marshal()
	sumRefused(t, h, api.ErrLong)
	for _, b := range [][]byte{nil, {}, {0}, run(500)} {
		writeRefused(t, h, b, api.ErrLong)
	}
	if was[5] != 1 || !bytes.Equal(h.Marshal(), was) {
		t.Fatalf("%d, failed: %x, behind %x", h.Alg(), h.Marshal(), was)
	}
}

// P22.2, W5: what would be too much absorbs nothing, though a part of it might be
func TestTooMuchAtOnce(t *testing.T) {
	for _, k := range kinds[:6] {
		h := k.begun(t, api.Name{})
		hasCount(t, h, k.below(3*k.block-1), api.OK)
		was := h.Marshal()
		writeRefused(t, h, run(3*k.block), api.ErrLong)
		was[5] = 1
		hasSnapshot(t, h, was)
	}
}

// P22.1: Marshal, written out
func TestSnapshotsWrittenOut(t *testing.T) {
	h := kinds[1].begun(t, api.Name{})
	written(t, h, []byte("abc"))
	want := unhexed(t, "435242310200"+"00000000000000000000000000000003"+"6a09e667bb67ae853c6ef372a54ff53a510e527f9b05688c1f83d9ab5be0cd19"+"616263")
	hasSnapshot(t, h, append(want, make([]byte, 61)...))
	h = kinds[7].begun(t, api.Name{})
	written(t, h, []byte("abc"))
	hasSnapshot(t, h, append(unhexed(t, "43524231080003"+"6162630000000000"), make([]byte, 192)...))
	h = kinds[11].begun(t, api.Name{})
	hasSnapshot(t, h, append(unhexed(t, "435242310c0000"), make([]byte, 200)...))
	h = kinds[12].begun(t, api.Name{})
	hasSnapshot(t, h, append(append(unhexed(t, "435242310d0000"), make([]byte, 200)...), 1, 0, 1, 0))
	h = kinds[13].begun(t, text("N", "xy"))
	if b := h.Marshal(); len(b) != 207+3+4 || !bytes.HasPrefix(b, unhexed(t, "435242310e0000")) || !bytes.HasSuffix(b, []byte("\x01\x08N\x01\x10xy")) {
		t.Errorf("%x", b)
	}
}

func hasSnapshot(t *testing.T, h *Hasher, want []byte) {
	t.Helper()
	if b := h.Marshal(); !bytes.Equal(b, want) {
		t.Errorf("Marshal of %d = %x, want %x", h.Alg(), b, want)
	}
}

// P22.1, W3: the snapshots of all states: what comes of them has just these, and answers whatever follows as the hasher does
func TestSnapshotsOfAll(t *testing.T) {
	for _, k := range kinds {
		for _, n := range k.names() {
			for _, s := range k.states(t, n)[:6] {
				again := unmarshalled(t, s.h.Marshal())
				goesOn(t, again, s.u.clone())
				stands(t, s.h, s.u)
			}
		}
	}
	for _, s := range allStates(t) {
		again := unmarshalled(t, s.h.Marshal())
		hasSnapshot(t, again, s.h.Marshal())
		goesOn(t, again, s.u.clone())
		goesOn(t, s.h, s.u)
	}
}

// value has words that differ in each byte; those of 32 bits have nothing above.
func (k kind) value() [8]uint64 {
	var v [8]uint64
	for at := range v {
		v[at] = 0x8192a3b4c5d6e7f8 + 0x0101010101010101*uint64(at)
		if k.block == 64 {
			v[at] >>= 32
		}
	}
	return v
}

func lanes() api.Lanes {
	var a api.Lanes
	for at := range a {
		a[at] = 0xf1e2d3c4b5a69788 - 0x0807060504030201*uint64(at)
	}
	return a
}

// P22.1, W3: snapshots of states that no message comes to go on as layers 11 and 15 do from these
func TestOtherStates(t *testing.T) {
	for _, k := range kinds[:6] {
		for rest := range k.block {
			for _, failed := range []bool{false, true} {
				state := api.Block{Alg: k.alg, H: k.value(), Count: api.Count{Lo: uint64(7*k.block + rest)}, Rest: run(rest), Failed: failed}
				u := k.under(api.Name{})
				u.stream, _ = merkle.From(state)
				goesOn(t, unmarshalled(t, u.marshal()), u)
			}
		}
	}
	for _, k := range kinds[6:] {
		suffix := 0x1f
		if !k.reads {
			suffix = 0x06
		}
		for _, n := range k.someNames() {
			if len(n.N)+len(n.S) > 0 {
				suffix = 0x04
			}
			for at := range k.block + 1 {
				for _, reading := range []bool{false, true} {
					u := k.under(n)
					state, err := sponge.From(k.block, suffix, lanes(), at, reading)
					if err != api.OK || reading && !k.reads {
						continue
					}
					u.sponge = state
					goesOn(t, unmarshalled(t, u.marshal()), u)
				}
			}
		}
	}
}

// P22.1: no snapshot: cut off, longer, other heads, flags, places, names
func TestNoSnapshot(t *testing.T) {
	for _, b := range [][]byte{nil, {}, []byte("CRB1"), []byte("CRB1\x02"), []byte("CRB1\x02\x00"), []byte("abc"), make([]byte, 118), make([]byte, 207), run(118), run(207)} {
		unmarshalRefused(t, b)
	}
	for _, s := range allStates(t) {
		b := s.h.Marshal()
		for _, n := range []int{0, 1, 4, 5, 6, 7, len(b) / 2, len(b) - 2, len(b) - 1} {
			unmarshalRefused(t, b[:n])
		}
		unmarshalRefused(t, append(bytes.Clone(b), 0))
		unmarshalRefused(t, append(bytes.Clone(b), b...))
		unmarshalRefused(t, b[1:])
		for at := range 4 {
			unmarshalRefused(t, spoilt(b, at, b[at]+1))
		}
		for _, alg := range []byte{0, 15, 16, 0x82, 255} {
			unmarshalRefused(t, spoilt(b, 4, alg))
		}
		other := byte(api.SHA3x256)
		if !s.u.blocks {
			other = api.SHA256
		}
		unmarshalRefused(t, spoilt(b, 4, other))
		for _, flag := range []byte{2, 0x80, 255} {
			unmarshalRefused(t, spoilt(b, 5, flag))
		}
		if s.u.blocks {
			unmarshalRefused(t, spoilt(b, 6, 0x20))
			unmarshalRefused(t, spoilt(b, len(b)-1, b[len(b)-1]+1))
			continue
		}
		unmarshalRefused(t, spoilt(b, 6, byte(s.u.block+1)))
		if !s.u.reads {
			unmarshalRefused(t, spoilt(b, 5, 1))
			unmarshalRefused(t, append(bytes.Clone(b), 1, 0, 1, 0))
		}
		unmarshalRefused(t, spoilt(spoilt(b, 5, 0), 6, byte(s.u.block)))
	}
}

func unmarshalRefused(t *testing.T, b []byte) {
	t.Helper()
	if h, err := Unmarshal(b); h != nil || err != api.ErrSnapshot {
		t.Fatalf("Unmarshal(%.300x) (%d bytes) = %v, %d", b, len(b), h, err)
	}
}

// spoilt is b with another byte at the place.
func spoilt(b []byte, at int, x byte) []byte {
	b = bytes.Clone(b)
	b[at] = x
	return b
}

// P22.1: cSHAKE of an empty name is SHAKE, and has a snapshot of its own
func TestEmptyName(t *testing.T) {
	for at := range 2 {
		shake, cshake := kinds[10+at], kinds[12+at]
		for _, n := range empties() {
			h := cshake.begun(t, n)
			written(t, h, []byte("abc"))
			again := unmarshalled(t, h.Marshal())
			unmarshalRefused(t, spoilt(h.Marshal(), 4, byte(shake.alg)))
			for _, h := range []*Hasher{h, again} {
				hasSum(t, h, shake.wanted(api.Name{}, []byte("abc")))
				hasRead(t, h, shake.first(api.Name{}, []byte("abc"), 300))
			}
		}
	}
}

// P22.1: in all states, of what New, Unmarshal and Clone tell: the state is New's, and so is all that follows
func TestReset(t *testing.T) {
	for _, s := range allStates(t) {
		for _, h := range []*Hasher{unmarshalled(t, s.h.Marshal()), s.h.Clone(), s.h} {
			h.Reset()
			goesOn(t, h, s.u.kind.under(s.u.name))
			h.Reset()
			h.Reset()
			written(t, h, []byte("abc"))
			hasSum(t, h, s.u.wanted(s.u.name, []byte("abc")))
		}
	}
}

// P22.1: in all states: a clone goes on as the hasher does, and what is done to either makes no difference to the other
func TestClone(t *testing.T) {
	for _, s := range allStates(t) {
		c := s.h.Clone()
		if c == s.h {
			t.Fatalf("%d, %s: the clone is the hasher", s.u.alg, s.what)
		}
		goesOn(t, c, s.u.clone())
		stands(t, s.h, s.u)
		c, u := s.h.Clone(), s.u.clone()
		goesOn(t, s.h, s.u)
		stands(t, c, u)
		goesOn(t, c, u)
	}
}

// P22.1: clones of clones, of what was told of snapshots, and their names
func TestCopiesOfCopies(t *testing.T) {
	for _, k := range kinds {
		for _, n := range k.names() {
			h := k.begun(t, n)
			written(t, h, []byte("a"))
			h = unmarshalled(t, h.Clone().Clone().Marshal()).Clone()
			h = unmarshalled(t, unmarshalled(t, h.Marshal()).Marshal())
			written(t, h, []byte("bc"))
			hasSum(t, h, k.wanted(n, []byte("abc")))
			h.Reset()
			stands(t, h, k.under(n))
		}
	}
}

// P22.4: asking changes nothing, however often, in all states
func TestAskingChangesNothing(t *testing.T) {
	for _, s := range allStates(t) {
		was := s.h.Marshal()
		for range 3 {
			s.h.Sum(run(3))
			s.h.Clone()
			s.h.Marshal()
			s.h.Alg()
			s.h.Size()
			s.h.BlockSize()
		}
		hasSnapshot(t, s.h, was)
		goesOn(t, s.h, s.u)
	}
}

// fill writes into all that a list has, spare room included.
func fill(b []byte) {
	b = b[:cap(b)]
	for at := range b {
		b[at] ^= 0xa5
	}
}

// withRoom is b in the middle of greater room.
func withRoom(b []byte) (all, part []byte) {
	all = slices.Concat(run(50), b, run(500))
	return all, all[50 : 50+len(b)]
}

// P22.4, R4: writing into a message behind its Write; it isn't changed, nor is the room behind it
func TestMessageHandedIn(t *testing.T) {
	for _, k := range kinds {
		h, u := k.begun(t, api.Name{}), k.under(api.Name{})
		for _, n := range k.lengths() {
			all, part := withRoom(run(n))
			was := bytes.Clone(all)
			alsoWrites(t, h, u, part)
			if !bytes.Equal(all, was) {
				t.Fatalf("Write of %d bytes of %d changed them", n, k.alg)
			}
			fill(all)
			stands(t, h, u)
		}
	}
}

// P22.4, R4: writing into a name behind New makes no difference, to what begins anew neither; it isn't changed
func TestNameHandedIn(t *testing.T) {
	for _, k := range kinds[12:] {
		for _, n := range fullNames() {
			allN, partN := withRoom(n.N)
			allS, partS := withRoom(n.S)
			wasN, wasS := bytes.Clone(allN), bytes.Clone(allS)
			h := k.begun(t, api.Name{N: partN, S: partS})
			c := h.Clone()
			goesOn(t, h, k.under(n))
			if !bytes.Equal(allN, wasN) || !bytes.Equal(allS, wasS) {
				t.Fatalf("a name of %d was changed", k.alg)
			}
			fill(allN)
			fill(allS)
			for _, h := range []*Hasher{c, h, unmarshalled(t, c.Marshal())} {
				h.Reset()
				goesOn(t, h, k.under(n))
			}
		}
	}
}

// P22.4, R4: writing into a snapshot behind Unmarshal makes no difference; it isn't changed
func TestSnapshotHandedIn(t *testing.T) {
	for _, s := range allStates(t) {
		all, part := withRoom(s.h.Marshal())
		was := bytes.Clone(all)
		h := unmarshalled(t, part)
		stands(t, h, s.u)
		if !bytes.Equal(all, was) {
			t.Fatalf("a snapshot of %d was changed", s.u.alg)
		}
		fill(all)
		goesOn(t, h, s.u)
	}
}

// P22.4, R4: writing into what was told makes no difference to the hasher, nor to what was told of it before
func TestTold(t *testing.T) {
	for _, s := range allStates(t) {
		first, second := s.h.Marshal(), s.h.Marshal()
		fill(first)
		if !bytes.Equal(second, s.u.marshal()) {
			t.Fatalf("%d, %s: writing into a snapshot changed another one", s.u.alg, s.what)
		}
		fill(second)
		stands(t, s.h, s.u)
		one, _ := s.h.Sum(nil)
		two, _ := s.h.Sum(nil)
		fill(one)
		if want, _ := s.u.sum(); !bytes.Equal(two, want) {
			t.Fatalf("%d, %s: writing into a digest changed another one", s.u.alg, s.what)
		}
		stands(t, s.h, s.u)
		b, _ := s.h.Read(3)
		fill(b)
		s.u.read(3)
		goesOn(t, s.h, s.u)
	}
}

// P22.1 to P22.4, W1 to W5: some hashers at a time, through calls of all kinds in mixed order; each of them tells what
// layers 11, 15 and 17 do of its own calls, whatever is done to the others
func TestMixed(t *testing.T) {
	for _, k := range kinds {
		for at, n := range k.someNames() {
			mixed(t, k, n, rand.New(rand.NewSource(int64(100*k.alg+at))))
		}
	}
}

func mixed(t *testing.T, k kind, n api.Name, r *rand.Rand) {
	t.Helper()
	hs := [3]*Hasher{k.begun(t, n), k.begun(t, n), k.begun(t, n)}
	us := [3]*under{k.under(n), k.under(n), k.under(n)}
	for range 300 {
		at, to := r.Intn(3), r.Intn(3)
		h, u := hs[at], us[at]
		switch r.Intn(12) {
		case 0, 1, 2, 3, 4:
			alsoWrites(t, h, u, run(r.Intn(2*k.block)))
		case 5, 6:
			alsoReads(t, h, u, r.Intn(2*k.block)-3)
		case 7:
			h.Reset()
			u.reset()
		case 8:
			hs[to], us[to] = h.Clone(), u.clone()
		case 9:
			hs[to], us[to] = unmarshalled(t, h.Marshal()), u.clone()
		case 10:
			c := api.Count{Lo: uint64(r.Intn(5*k.block) / k.block * k.block)}
			if k.blocks {
				c.Lo += uint64(len(u.stream.State().Rest) + r.Intn(2))
			}
			hasCount(t, h, c, u.setCount(c))
		case 11:
			if k.blocks {
				both(h, u, k.below(k.block-1-len(u.stream.State().Rest)))
			}
		}
		for at, h := range hs {
			stands(t, h, us[at])
		}
	}
}

// P22.4, W1, W2: what the standard library tells of all that was written since each hasher began, or began anew
func TestMixedByLibrary(t *testing.T) {
	for _, k := range kinds {
		for at, n := range k.someNames() {
			r := rand.New(rand.NewSource(int64(7000 + 100*k.alg + at)))
			h, message, read := k.begun(t, n), []byte(nil), 0
			for range 200 {
				switch r.Intn(10) {
				case 0:
					h.Reset()
					message, read = nil, 0
				case 1:
					h = h.Clone()
				case 2:
					h = unmarshalled(t, h.Marshal())
				case 3:
					if k.reads {
						many := r.Intn(2 * k.block)
						hasRead(t, h, k.first(n, message, read+many)[read:])
						read += many
					}
				default:
					b := run(r.Intn(2 * k.block))
					if read > 0 {
						writeRefused(t, h, b, api.ErrSqueeze)
					} else {
						written(t, h, b)
						message = append(message, b...)
					}
				}
				if read > 0 {
					sumRefused(t, h, api.ErrSqueeze)
				} else {
					hasSum(t, h, k.wanted(n, message))
				}
			}
		}
	}
}

// R5: what other hashers have been through makes no difference
func TestNothingIsKept(t *testing.T) {
	for _, s := range allStates(t) {
		fresh := s.u.kind.begun(t, s.u.name)
		goesOn(t, fresh, s.u.kind.under(s.u.name))
		stands(t, s.h, s.u)
	}
}

// R1: functions that have no object may be called by several goroutines at once, and so may each one's own hashers
func TestAtOnce(t *testing.T) {
	n := text("N", "Email Signature")
	shared := kinds[12].begun(t, n)
	written(t, shared, []byte("a"))
	b := shared.Marshal()
	var all sync.WaitGroup
	for range 8 {
		own := shared.Clone()
		all.Go(func() {
			for _, k := range kinds {
				h, err := New(k.alg, api.Name{})
				h.Write([]byte("abc"))
				sum, _ := h.Sum(nil)
				if err != api.OK || !bytes.Equal(sum, k.wanted(api.Name{}, []byte("abc"))) {
					t.Errorf("New of %d: %x, %d", k.alg, sum, err)
				}
			}
			told, err := Unmarshal(b)
			if err != api.OK {
				t.Errorf("Unmarshal = %d", err)
				return
			}
			for _, h := range []*Hasher{own, told} {
				h.Write([]byte("bc"))
				sum, _ := h.Sum(nil)
				h.Reset()
				begun, _ := h.Sum(nil)
				if !bytes.Equal(sum, kinds[12].wanted(n, []byte("abc"))) || !bytes.Equal(begun, kinds[12].wanted(n, nil)) {
					t.Errorf("of a copy: %x, %x", sum, begun)
				}
			}
		})
	}
	all.Wait()
}

// R1 and the language's rule 6: no call leaves a goroutine behind
func TestNoGoroutineIsLeft(t *testing.T) {
	before := runtime.NumGoroutine()
	for _, k := range kinds {
		h, u := k.begun(t, api.Name{}), k.under(api.Name{})
		goesOn(t, h, u)
	}
	for range 100 {
		if runtime.NumGoroutine() <= before {
			return
		}
		time.Sleep(10 * time.Millisecond)
	}
	t.Errorf("%d goroutines, %d before", runtime.NumGoroutine(), before)
}
