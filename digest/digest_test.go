package digest

import (
	"bytes"
	"crypto/sha256"
	"crypto/sha3"
	"crypto/sha512"
	"encoding/hex"
	"math"
	"slices"
	"sync"
	"testing"

	"cribble/api"
)

// fixed is an algorithm that tells so many bytes and no more, and the standard library's function of it.
type fixed struct {
	alg, digest, block int
	sum                func([]byte) []byte
}

var allFixed = []fixed{
	{api.SHA224, 28, 64, func(b []byte) []byte { h := sha256.Sum224(b); return h[:] }},
	{api.SHA256, 32, 64, func(b []byte) []byte { h := sha256.Sum256(b); return h[:] }},
	{api.SHA384, 48, 128, func(b []byte) []byte { h := sha512.Sum384(b); return h[:] }},
	{api.SHA512, 64, 128, func(b []byte) []byte { h := sha512.Sum512(b); return h[:] }},
	{api.SHA512x224, 28, 128, func(b []byte) []byte { h := sha512.Sum512_224(b); return h[:] }},
	{api.SHA512x256, 32, 128, func(b []byte) []byte { h := sha512.Sum512_256(b); return h[:] }},
	{api.SHA3x224, 28, 144, func(b []byte) []byte { h := sha3.Sum224(b); return h[:] }},
	{api.SHA3x256, 32, 136, func(b []byte) []byte { h := sha3.Sum256(b); return h[:] }},
	{api.SHA3x384, 48, 104, func(b []byte) []byte { h := sha3.Sum384(b); return h[:] }},
	{api.SHA3x512, 64, 72, func(b []byte) []byte { h := sha3.Sum512(b); return h[:] }},
}

// read is an algorithm that can be read, and the standard library's function of it.
type read struct {
	alg, digest, block int
	named              bool
	begun              func(n api.Name) *sha3.SHAKE
}

var allRead = []read{
	{api.SHAKE128, 32, 168, false, func(api.Name) *sha3.SHAKE { return sha3.NewSHAKE128() }},
	{api.SHAKE256, 64, 136, false, func(api.Name) *sha3.SHAKE { return sha3.NewSHAKE256() }},
	{api.CSHAKE128, 32, 168, true, func(n api.Name) *sha3.SHAKE { return sha3.NewCSHAKE128(n.N, n.S) }},
	{api.CSHAKE256, 64, 136, true, func(n api.Name) *sha3.SHAKE { return sha3.NewCSHAKE256(n.N, n.S) }},
}

// wanted is what the standard library reads.
func (r read) wanted(n api.Name, message []byte, many int) []byte {
	h := r.begun(n)
	h.Write(message)
	b := make([]byte, many)
	h.Read(b)
	return b
}

// names are those that may be asked of it.
func (r read) names() []api.Name {
	if r.named {
		return rightNames()
	}
	return empties()
}

// run tells n bytes that repeat at no block's size.
func run(n int) []byte {
	b := make([]byte, n)
	for at := range b {
		b[at] = byte(at*167 + at/251 + 13)
	}
	return b
}

func named(n, s string) api.Name {
	return api.Name{N: []byte(n), S: []byte(s)}
}

// empties are ways to write the empty name.
func empties() []api.Name {
	return []api.Name{{}, {N: []byte{}}, {S: []byte{}}, {N: []byte{}, S: []byte{}}, {N: run(5)[:0], S: run(5)[5:]}}
}

// fullNames aren't empty, and are right.
func fullNames() []api.Name {
	return []api.Name{named("", "Email Signature"), named("KMAC", ""), named("N", "S"), named("\x00", ""), named("", "\x00"), {N: run(1000)}, {S: run(1000)}, {N: run(1000), S: run(1000)}, {N: run(999), S: run(1)}}
}

func rightNames() []api.Name {
	return append(empties(), fullNames()...)
}

// longNames have a text of more bytes than may be.
func longNames() []api.Name {
	return []api.Name{{N: run(1001)}, {S: run(1001)}, {N: run(1001), S: run(1001)}, {N: run(1001), S: run(1000)}, {N: run(1000), S: run(1001)}, {N: []byte("a"), S: run(1001)}, {N: run(5000)}, {S: run(70000)}}
}

func allNames() []api.Name {
	return append(rightNames(), longNames()...)
}

// none are numbers of no algorithm, some of which would be one's, were they cut or their signs left out.
var none = []int{
	0, 15, 16, 17, -1, -2, -7, -11, -13, -14, -15, 64, 128, 255, 256, 256 + 2, 256 + 13, 1<<16 + 8, 1<<32 + 2, 1<<32 + 11, -1<<32 + 13, 1<<62 + 6,
	math.MaxInt32, math.MinInt32, math.MaxInt, math.MinInt, math.MinInt + 2,
}

// wrongMany are numbers of bytes that aren't read.
var wrongMany = []int{-1, -2, -32, -api.MaxRead, math.MinInt32, math.MinInt, api.MaxRead + 1, api.MaxRead + 32, 2 * api.MaxRead, math.MaxInt32, 1<<32 + 32, math.MaxInt}

// lengths are those of the empty message and of messages about whole blocks, and about the places where a padding just fits.
func lengths(block int) []int {
	l := []int{0, 1, 2, 3, 500, 1000, 4096}
	for blocks := 1; blocks <= 3; blocks++ {
		for _, less := range []int{18, 17, 16, 10, 9, 8, 2, 1, 0, -1, -2} {
			l = append(l, blocks*block-less)
		}
	}
	return l
}

func unhexed(t *testing.T, text string) []byte {
	t.Helper()
	b, err := hex.DecodeString(text)
	if err != nil {
		t.Fatal(err)
	}
	return b
}

func hasSum(t *testing.T, alg int, n api.Name, message, want []byte) {
	t.Helper()
	if b, err := Sum(alg, n, message); !bytes.Equal(b, want) || err != api.OK {
		t.Fatalf("Sum of %d, texts of %d and %d bytes, %d bytes = %x, %d, want %x", alg, len(n.N), len(n.S), len(message), b, err, want)
	}
}

func hasRead(t *testing.T, alg int, n api.Name, message []byte, many int, want []byte) {
	t.Helper()
	if b, err := Read(alg, n, message, many); !bytes.Equal(b, want) || err != api.OK {
		t.Fatalf("Read of %d, texts of %d and %d bytes, %d bytes, %d many = %.80x (%d bytes), %d, want %.80x (%d bytes)",
			alg, len(n.N), len(n.S), len(message), many, b, len(b), err, want, len(want))
	}
}

func readRefused(t *testing.T, alg int, n api.Name, message []byte, many int, want api.Errno) {
	t.Helper()
	if b, err := Read(alg, n, message, many); len(b) != 0 || err != want {
		t.Fatalf("Read of %d, texts of %d and %d bytes, %d bytes, %d many = %.80x, %d, want %d", alg, len(n.N), len(n.S), len(message), many, b, err, want)
	}
}

// refused holds all three calls to one error, which Check's is, whatever else might be wrong.
func refused(t *testing.T, alg int, n api.Name, want api.Errno) {
	t.Helper()
	if err := Check(alg, n); err != want {
		t.Fatalf("Check of %d, texts of %d and %d bytes = %d, want %d", alg, len(n.N), len(n.S), err, want)
	}
	for _, message := range [][]byte{nil, {}, []byte("abc"), run(300)} {
		if b, err := Sum(alg, n, message); len(b) != 0 || err != want {
			t.Fatalf("Sum of %d, texts of %d and %d bytes = %x, %d, want %d", alg, len(n.N), len(n.S), b, err, want)
		}
		for _, many := range []int{0, 1, 32, -1, api.MaxRead, api.MaxRead + 1, math.MinInt, math.MaxInt} {
			readRefused(t, alg, n, message, many, want)
		}
	}
}

// passes holds Check, and that Sum and Read refuse nothing that Check doesn't.
func passes(t *testing.T, alg, digest int, n api.Name, reads bool) {
	t.Helper()
	if err := Check(alg, n); err != api.OK {
		t.Fatalf("Check of %d, texts of %d and %d bytes = %d", alg, len(n.N), len(n.S), err)
	}
	if b, err := Sum(alg, n, nil); len(b) != digest || err != api.OK {
		t.Fatalf("Sum of %d, texts of %d and %d bytes = %x, %d", alg, len(n.N), len(n.S), b, err)
	}
	want := api.OK
	if !reads {
		want = api.ErrFixed
	}
	if b, err := Read(alg, n, nil, 7); len(b) != 7 && reads || err != want {
		t.Fatalf("Read of %d, texts of %d and %d bytes = %x, %d", alg, len(n.N), len(n.S), b, err)
	}
}

// P19.1, R2: ErrAlg of no algorithm, whatever the name, and whatever is read
func TestNoAlgorithm(t *testing.T) {
	for _, alg := range none {
		for _, n := range allNames() {
			refused(t, alg, n, api.ErrAlg)
		}
	}
	for away := range 500 {
		for _, alg := range []int{-away, 15 + away} {
			if err := Check(alg, api.Name{}); err != api.ErrAlg {
				t.Errorf("Check of %d = %d", alg, err)
			}
		}
	}
}

// P19.1: of an algorithm that isn't Named, empty names alone, right or not
func TestNamesOfUnnamed(t *testing.T) {
	for _, f := range allFixed {
		for _, n := range empties() {
			passes(t, f.alg, f.digest, n, false)
		}
		for _, n := range append(fullNames(), longNames()...) {
			refused(t, f.alg, n, api.ErrArg)
		}
	}
	for _, r := range allRead[:2] {
		for _, n := range empties() {
			passes(t, r.alg, r.digest, n, true)
		}
		for _, n := range append(fullNames(), longNames()...) {
			refused(t, r.alg, n, api.ErrArg)
		}
	}
}

// P19.1: of a Named one, names that are right, the empty one among them
func TestNamesOfNamed(t *testing.T) {
	for _, r := range allRead[2:] {
		for _, n := range rightNames() {
			passes(t, r.alg, r.digest, n, true)
		}
		for _, n := range longNames() {
			refused(t, r.alg, n, api.ErrArg)
		}
	}
}

// P19.1: texts of each length about the bound, in either place
func TestNamesAboutTheBound(t *testing.T) {
	b := run(1100)
	for n := 900; n < len(b); n++ {
		want := api.OK
		if n > api.MaxName {
			want = api.ErrArg
		}
		for _, r := range allRead[2:] {
			for _, name := range []api.Name{{N: b[:n]}, {S: b[:n]}, {N: b[:n], S: b[:n]}, {N: b[:n], S: b[:3]}, {N: b[:1000], S: b[:n]}} {
				if err := Check(r.alg, name); err != want {
					t.Errorf("Check of %d, texts of %d and %d bytes = %d, want %d", r.alg, len(name.N), len(name.S), err, want)
				}
			}
		}
	}
}

// P19.2: what the standards' examples write out
func TestSumsTold(t *testing.T) {
	count := make([]byte, 200)
	for at := range count {
		count[at] = byte(at)
	}
	abc, email := []byte("abc"), named("", "Email Signature")
	for _, c := range []struct {
		alg     int
		n       api.Name
		message []byte
		want    string
	}{
		{api.SHA224, api.Name{}, abc, "23097d223405d8228642a477bda255b32aadbce4bda0b3f7e36c9da7"},
		{api.SHA256, api.Name{}, abc, "ba7816bf8f01cfea414140de5dae2223b00361a396177a9cb410ff61f20015ad"},
		{api.SHA256, api.Name{}, nil, "e3b0c44298fc1c149afbf4c8996fb92427ae41e4649b934ca495991b7852b855"},
		{api.SHA384, api.Name{}, abc, "cb00753f45a35e8bb5a03d699ac65007272c32ab0eded1631a8b605a43ff5bed8086072ba1e7cc2358baeca134c825a7"},
		{api.SHA512, api.Name{}, abc, "ddaf35a193617abacc417349ae20413112e6fa4e89a97ea20a9eeee64b55d39a2192992a274fc1a836ba3c23a3feebbd454d4423643ce80e2a9ac94fa54ca49f"},
		{api.SHA512x224, api.Name{}, abc, "4634270f707b6a54daae7530460842e20e37ed265ceee9a43e8924aa"},
		{api.SHA512x256, api.Name{}, abc, "53048e2681941ef99b2e29b76b4c7dabe4c2d0c634fc6d46e0e2f13107e7af23"},
		{api.SHA3x224, api.Name{}, abc, "e642824c3f8cf24ad09234ee7d3c766fc9a3a5168d0c94ad73b46fdf"},
		{api.SHA3x256, api.Name{}, nil, "a7ffc6f8bf1ed76651c14756a061d662f580ff4de43b49fa82d80a4b80f8434a"},
		{api.SHA3x256, api.Name{}, abc, "3a985da74fe225b2045c172d6bd390bd855f086e3e9d525b46bfe24511431532"},
		{api.SHA3x384, api.Name{}, abc, "ec01498288516fc926459f58e2c6ad8df9b473cb0fc08c2596da7cf0e49be4b298d88cea927ac7f539f1edf228376d25"},
		{api.SHA3x512, api.Name{}, abc, "b751850b1a57168a5693cd924b6b096e08f621827444f70d884f5d0240d2712e10e116e9192af3c91a7ec57647e3934057340b4cf408d5a56592f8274eec53f0"},
		{api.SHAKE128, api.Name{}, nil, "7f9c2ba4e88f827d616045507605853ed73b8093f6efbc88eb1a6eacfa66ef26"},
		{api.SHAKE256, api.Name{}, nil, "46b9dd2b0ba88d13233b3feb743eeb243fcd52ea62b81b82b50c27646ed5762fd75dc4ddd8c0f200cb05019d67b592f6fc821c49479ab48640292eacb3b7c4be"},
		{api.CSHAKE128, api.Name{}, nil, "7f9c2ba4e88f827d616045507605853ed73b8093f6efbc88eb1a6eacfa66ef26"},
		{api.CSHAKE128, email, count[:4], "c1c36925b6409a04f1b504fcbca9d82b4017277cb5ed2b2065fc1d3814d5aaf5"},
		{api.CSHAKE128, email, count, "c5221d50e4f822d96a2e8881a961420f294b7b24fe3d2094baed2c6524cc166b"},
		{api.CSHAKE256, email, count[:4], "d008828e2b80ac9d2218ffee1d070c48b8e4c87bff32c9699d5b6896eee0edd164020e2be0560858d9c00c037e34a96937c561a74c412bb4c746469527281c8c"},
		{api.CSHAKE256, email, count, "07dc27b11e51fbac75bc7b3c1d983e8b4b85fb1defaf218912ac86430273091727f42b17ed1df63e8ec118f04b23633c1dfb1574c8fb55cb45da8e25afb092bb"},
	} {
		hasSum(t, c.alg, c.n, c.message, unhexed(t, c.want))
	}
}

// P19.2: Blocks and Sponge, the empty message and messages about blocks' lengths
func TestSumOfFixed(t *testing.T) {
	for _, f := range allFixed {
		for _, length := range lengths(f.block) {
			hasSum(t, f.alg, api.Name{}, run(length), f.sum(run(length)))
		}
		for length := range f.block + 3 {
			hasSum(t, f.alg, api.Name{}, run(length), f.sum(run(length)))
		}
	}
}

// P19.2: Open and Named, with all their names, the empty message and messages about blocks' lengths
func TestSumOfRead(t *testing.T) {
	for _, r := range allRead {
		for _, n := range r.names() {
			for _, length := range lengths(r.block) {
				hasSum(t, r.alg, n, run(length), r.wanted(n, run(length), r.digest))
			}
		}
		for length := range r.block + 3 {
			hasSum(t, r.alg, api.Name{}, run(length), r.wanted(api.Name{}, run(length), r.digest))
		}
	}
}

// P19.2, R3: a message that is nil is the empty one, with room behind it or not
func TestSumOfNothing(t *testing.T) {
	for _, message := range [][]byte{nil, {}, run(9)[:0]} {
		for _, f := range allFixed {
			hasSum(t, f.alg, api.Name{}, message, f.sum(nil))
		}
		for _, r := range allRead {
			for _, n := range r.names() {
				hasSum(t, r.alg, n, message, r.wanted(n, nil, r.digest))
				hasRead(t, r.alg, n, message, 200, r.wanted(n, nil, 200))
			}
		}
	}
}

// P19.2: a long message
func TestSumOfLong(t *testing.T) {
	message := run(1<<20 + 77)
	for _, f := range []fixed{allFixed[1], allFixed[3], allFixed[7]} {
		hasSum(t, f.alg, api.Name{}, message, f.sum(message))
	}
	r := allRead[3]
	hasSum(t, r.alg, named("a", "b"), message, r.wanted(named("a", "b"), message, r.digest))
}

// P19.2: unlike algorithms, and unlike names, hash apart; but cSHAKE without a name is SHAKE
func TestSumsApart(t *testing.T) {
	told := map[string]bool{}
	all := 0
	add := func(alg int, n api.Name) {
		b, err := Sum(alg, n, []byte("abc"))
		if err != api.OK {
			t.Errorf("Sum of %d = %d", alg, err)
		}
		told[string(b[:28])] = true
		all++
	}
	for alg := api.SHA224; alg <= api.SHAKE256; alg++ {
		add(alg, api.Name{})
	}
	for _, n := range fullNames() {
		add(api.CSHAKE128, n)
		add(api.CSHAKE256, n)
	}
	if len(told) != all {
		t.Errorf("%d algorithms and names tell %d digests", all, len(told))
	}
	for _, n := range empties() {
		for alg := api.SHAKE128; alg <= api.SHAKE256; alg++ {
			b, _ := Sum(alg, n, []byte("abc"))
			hasSum(t, alg+2, n, []byte("abc"), b)
			b, _ = Read(alg, n, []byte("abc"), 400)
			hasRead(t, alg+2, n, []byte("abc"), 400, b)
		}
	}
}

// P19.3: many of 0 and 1, about the digest's length and about blocks' lengths
func TestRead(t *testing.T) {
	for _, r := range allRead {
		for _, n := range r.names() {
			for _, length := range []int{0, 1, r.block - 1, r.block, r.block + 1, 1000} {
				for _, many := range []int{0, 1, 2, r.digest - 1, r.digest, r.digest + 1, r.block - 1, r.block, r.block + 1, 2 * r.block, 1000} {
					hasRead(t, r.alg, n, run(length), many, r.wanted(n, run(length), many))
				}
			}
		}
	}
}

// P19.3: MaxRead bytes are read, and one less; a shorter one begins the longer one
func TestReadOfMost(t *testing.T) {
	for _, r := range allRead {
		want := r.wanted(api.Name{}, []byte("abc"), api.MaxRead)
		hasRead(t, r.alg, api.Name{}, []byte("abc"), api.MaxRead, want)
		hasRead(t, r.alg, api.Name{}, []byte("abc"), api.MaxRead-1, want[:api.MaxRead-1])
		hasRead(t, r.alg, api.Name{}, []byte("abc"), 5000, want[:5000])
	}
}

// P19.3: ErrArg, if many is below 0 or above MaxRead, with whatever right name and message
func TestReadOfTooMany(t *testing.T) {
	for _, r := range allRead {
		for _, n := range r.names() {
			for _, many := range wrongMany {
				readRefused(t, r.alg, n, nil, many, api.ErrArg)
				readRefused(t, r.alg, n, run(500), many, api.ErrArg)
			}
		}
	}
}

// P19.3, R2: ErrFixed of Blocks and Sponge, however many are asked for
func TestReadOfFixed(t *testing.T) {
	for _, f := range allFixed {
		for _, many := range append([]int{0, 1, 5, f.digest, f.block, api.MaxRead}, wrongMany...) {
			for _, n := range empties() {
				readRefused(t, f.alg, n, nil, many, api.ErrFixed)
				readRefused(t, f.alg, n, []byte("abc"), many, api.ErrFixed)
			}
		}
	}
}

// P19.2, P19.3: the chapter's example, of all that can be read
func TestExample(t *testing.T) {
	for _, message := range [][]byte{nil, []byte("abc"), run(1000)} {
		b, err := Read(api.SHAKE128, api.Name{}, message, 900)
		if err != api.OK {
			t.Fatal(err)
		}
		hasSum(t, api.SHAKE128, api.Name{}, message, b[:32])
		for _, r := range allRead {
			for _, n := range r.names() {
				b, _ := Read(r.alg, n, message, 900)
				hasSum(t, r.alg, n, message, b[:r.digest])
			}
		}
	}
}

// spoilt fills all of b's room, so that whoever shares it is found out.
func spoilt(b []byte) {
	b = b[:cap(b)]
	for at := range b {
		b[at] += 0x55
	}
}

// R4: what is handed in isn't changed, nor is the room behind it; message and texts may lie in one room
func TestHandedInStays(t *testing.T) {
	room := run(3000)
	for alg := -1; alg <= 15; alg++ {
		for _, size := range []int{0, 1, 64, 135, 136, 700} {
			for _, n := range []api.Name{{}, {N: room[:size], S: room[size : 2*size]}, {N: room[:1001]}} {
				Check(alg, n)
				Sum(alg, n, room[size:3*size])
				Read(alg, n, room[size:3*size], 300)
				Read(alg, n, room[size:3*size], -1)
			}
		}
	}
	if !bytes.Equal(room, run(3000)) {
		t.Error("what was handed in was changed")
	}
}

// R4, R5: what is written into what was handed in, or into an answer and the room behind it, makes no difference to other answers
func TestAnswersAreNew(t *testing.T) {
	for alg := api.SHA224; alg <= api.CSHAKE256; alg++ {
		message := run(200)
		n := api.Name{}
		if alg >= api.CSHAKE128 {
			n = api.Name{N: message[:20], S: message[20:50]}
		}
		kept, _ := Sum(alg, n, message)
		more, _ := Read(alg, n, message, 500)
		want, wantMore := slices.Clone(kept), slices.Clone(more)
		other, _ := Sum(alg, n, message)
		spoilt(other)
		other, _ = Read(alg, n, message, 500)
		spoilt(other)
		if !bytes.Equal(message, run(200)) {
			t.Errorf("%d: the message was changed by writing into an answer", alg)
		}
		hasSum(t, alg, n, message, want)
		if b, _ := Read(alg, n, message, 500); !bytes.Equal(b, wantMore) {
			t.Errorf("%d: Read tells %.40x, want %.40x", alg, b, wantMore)
		}
		spoilt(message)
		if !bytes.Equal(kept, want) || !bytes.Equal(more, wantMore) {
			t.Errorf("%d: an answer was changed by what was done behind it", alg)
		}
	}
}

// R4: neither more of the hash nor of the message is told in spare room
func TestNothingBehindAnswers(t *testing.T) {
	for alg := api.SHA224; alg <= api.CSHAKE256; alg++ {
		b, _ := Sum(alg, api.Name{}, run(300))
		more, _ := Read(alg, api.Name{}, run(300), 7)
		none, _ := Read(alg, api.Name{}, run(300), 0)
		for _, answer := range [][]byte{b, more, none} {
			for _, x := range answer[len(answer):cap(answer)] {
				if x != 0 {
					t.Fatalf("%d: %x stands behind an answer", alg, answer[len(answer):cap(answer)])
				}
			}
		}
	}
}

// R1: several goroutines at once
func TestManyAtOnce(t *testing.T) {
	message, n := run(400), named("N", "S")
	var all sync.WaitGroup
	for range 8 {
		all.Go(func() {
			for range 10 {
				for _, f := range allFixed {
					if b, err := Sum(f.alg, api.Name{}, message); !bytes.Equal(b, f.sum(message)) || err != api.OK {
						t.Errorf("Sum of %d = %x, %d", f.alg, b, err)
					}
				}
				for _, r := range allRead[2:] {
					if b, err := Read(r.alg, n, message, 400); !bytes.Equal(b, r.wanted(n, message, 400)) || err != api.OK {
						t.Errorf("Read of %d = %x, %d", r.alg, b, err)
					}
					if err := Check(r.alg, n); err != api.OK {
						t.Errorf("Check of %d = %d", r.alg, err)
					}
				}
			}
		})
	}
	all.Wait()
}
