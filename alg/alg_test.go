package alg

import (
	"crypto"
	"crypto/sha3"
	"math"
	"slices"
	"strings"
	"sync"
	"testing"

	_ "crypto/sha256"
	_ "crypto/sha512"

	"cribble/api"
)

// line is a line of the chapter's table.
type line struct {
	alg                 int
	word                string
	kind, digest, block int
}

var lines = []line{
	{1, "sha224", 1, 28, 64},
	{2, "sha256", 1, 32, 64},
	{3, "sha384", 1, 48, 128},
	{4, "sha512", 1, 64, 128},
	{5, "sha512-224", 1, 28, 128},
	{6, "sha512-256", 1, 32, 128},
	{7, "sha3-224", 2, 28, 144},
	{8, "sha3-256", 2, 32, 136},
	{9, "sha3-384", 2, 48, 104},
	{10, "sha3-512", 2, 64, 72},
	{11, "shake128", 3, 32, 168},
	{12, "shake256", 3, 64, 136},
	{13, "cshake128", 4, 32, 168},
	{14, "cshake256", 4, 64, 136},
}

// none are numbers of no algorithm, some of which would be one's, were they cut or their signs left out.
var none = []int{
	0, -1, 15, 16, 17, -2, -6, -14, -15, 64, 100, 127, 128, 255, 256, 257, 256 + 14, 1<<16 + 2, 1<<31 + 3, 1<<32 + 2, -1<<32 + 2, 1<<62 + 6,
	math.MaxInt8, math.MinInt8, math.MaxInt16, math.MinInt16, math.MaxInt32, math.MinInt32, math.MaxInt, math.MaxInt - 1, math.MinInt, math.MinInt + 1, math.MinInt + 2,
}

// noWords are texts that no algorithm has, many of them near one that it has.
var noWords = []string{
	"", " ", "-", "0", "2", "sha", "sha1", "sha2", "sha3", "shake", "cshake", "kmac128", "SHA256", "Sha256", "sha-256", "sha256 ", " sha256", "sha25", "sha2560", "ha256",
	"sha512/256", "sha512_256", "sha512x256", "sha512-", "sha512-25", "sha512-384", "sha3-", "sha3256", "sha3_256", "sha3-255", "SHA3-256", "shake-128", "shake12", "shake1280",
	"shake384", "cshake-128", "cshake12", "cSHAKE128", "ccshake128", "sha256\x00", "sha256\n", "\x00", "sha224sha256", "\xff\xfe", "ѕha256", strings.Repeat("sha256", 1000),
}

func isNone(t *testing.T, alg int) {
	t.Helper()
	if Kind(alg) != None || Word(alg) != "" || Digest(alg) != 0 || Block(alg) != 0 || Reads(alg) {
		t.Errorf("%d: kind %d, word %q, digest %d, block %d, reads %v; it is no algorithm's number", alg, Kind(alg), Word(alg), Digest(alg), Block(alg), Reads(alg))
	}
}

// told is what All tells of numbers and words.
func told() []line {
	var all []line
	for alg, word := range All() {
		all = append(all, line{alg: alg, word: word})
	}
	return all
}

func isWhole(t *testing.T, all []line) {
	t.Helper()
	if len(all) != len(lines) {
		t.Fatalf("All tells %d algorithms, not %d: %v", len(all), len(lines), all)
	}
	for at, l := range lines {
		if all[at].alg != l.alg || all[at].word != l.word {
			t.Errorf("All tells %d, %q at the place %d, not %d, %q", all[at].alg, all[at].word, at, l.alg, l.word)
		}
	}
}

// P18.1: the kinds' numbers
func TestKinds(t *testing.T) {
	for at, kind := range []int{None, Blocks, Sponge, Open, Named} {
		if kind != at {
			t.Errorf("the kind at the place %d is %d", at, kind)
		}
	}
}

// P18.1: Kind, Word, Digest and Block of every algorithm
func TestTable(t *testing.T) {
	for _, l := range lines {
		if got := (line{l.alg, Word(l.alg), Kind(l.alg), Digest(l.alg), Block(l.alg)}); got != l {
			t.Errorf("%v, not %v", got, l)
		}
	}
}

// P18.1: the numbers are api's
func TestNumbers(t *testing.T) {
	words := map[int]string{
		api.SHA224: "sha224", api.SHA256: "sha256", api.SHA384: "sha384", api.SHA512: "sha512", api.SHA512x224: "sha512-224", api.SHA512x256: "sha512-256",
		api.SHA3x224: "sha3-224", api.SHA3x256: "sha3-256", api.SHA3x384: "sha3-384", api.SHA3x512: "sha3-512",
		api.SHAKE128: "shake128", api.SHAKE256: "shake256", api.CSHAKE128: "cshake128", api.CSHAKE256: "cshake256",
	}
	for alg, word := range words {
		if got := Word(alg); got != word {
			t.Errorf("Word(%d) = %q, not %q", alg, got, word)
		}
	}
}

// P18.1: Digest and Block against the standard library
func TestAgainstLibrary(t *testing.T) {
	for alg, hash := range map[int]crypto.Hash{
		api.SHA224: crypto.SHA224, api.SHA256: crypto.SHA256, api.SHA384: crypto.SHA384, api.SHA512: crypto.SHA512, api.SHA512x224: crypto.SHA512_224, api.SHA512x256: crypto.SHA512_256,
	} {
		if h := hash.New(); Digest(alg) != h.Size() || Block(alg) != h.BlockSize() {
			t.Errorf("%s: digest %d, block %d, not %d, %d", Word(alg), Digest(alg), Block(alg), h.Size(), h.BlockSize())
		}
	}
	for alg, h := range map[int]*sha3.SHA3{api.SHA3x224: sha3.New224(), api.SHA3x256: sha3.New256(), api.SHA3x384: sha3.New384(), api.SHA3x512: sha3.New512()} {
		if Digest(alg) != h.Size() || Block(alg) != h.BlockSize() {
			t.Errorf("%s: digest %d, block %d, not %d, %d", Word(alg), Digest(alg), Block(alg), h.Size(), h.BlockSize())
		}
	}
	for alg, h := range map[int]*sha3.SHAKE{api.SHAKE128: sha3.NewSHAKE128(), api.SHAKE256: sha3.NewSHAKE256(), api.CSHAKE128: sha3.NewCSHAKE128(nil, []byte("a")), api.CSHAKE256: sha3.NewCSHAKE256(nil, []byte("a"))} {
		if Block(alg) != h.BlockSize() {
			t.Errorf("%s: block %d, not %d", Word(alg), Block(alg), h.BlockSize())
		}
	}
}

// P18.1: 0, and the empty word, of another number
func TestOtherNumbers(t *testing.T) {
	for _, alg := range none {
		isNone(t, alg)
	}
	for away := range 2000 {
		isNone(t, 15+away)
		isNone(t, -away)
	}
	for bit := 4; bit < 64; bit++ {
		for _, l := range lines {
			isNone(t, l.alg|1<<bit)
			isNone(t, l.alg^-1<<bit)
		}
	}
}

// P18.1: Find of every word
func TestFind(t *testing.T) {
	for _, l := range lines {
		if alg, ok := Find(l.word); alg != l.alg || !ok {
			t.Errorf("Find(%q) = %d, %v, not %d, true", l.word, alg, ok, l.alg)
		}
		if alg, ok := Find(string([]byte(l.word))); alg != l.alg || !ok {
			t.Errorf("Find of another %q = %d, %v, not %d, true", l.word, alg, ok, l.alg)
		}
	}
}

// P18.1: Find of another word, the empty one among them
func TestFindNone(t *testing.T) {
	words := slices.Clone(noWords)
	for _, l := range lines {
		words = append(words, l.word[:len(l.word)-1], l.word+"0", l.word+" ", strings.ToUpper(l.word), "x"+l.word)
	}
	for _, word := range words {
		if alg, ok := Find(word); alg != 0 || ok {
			t.Errorf("Find(%.40q) = %d, %v, not 0, false", word, alg, ok)
		}
	}
}

// P18.1: Reads of Open and Named, of nothing else
func TestReads(t *testing.T) {
	for _, l := range lines {
		if want := l.alg >= 11; Reads(l.alg) != want {
			t.Errorf("Reads(%d) = %v", l.alg, !want)
		}
	}
}

// P18.1: All tells all numbers and words, rising
func TestAll(t *testing.T) {
	isWhole(t, told())
}

// P18.1: All stops when it is asked to, behind each of its pairs
func TestAllStopped(t *testing.T) {
	for stop := 1; stop <= len(lines); stop++ {
		calls := 0
		All()(func(alg int, word string) bool {
			calls++
			if calls <= len(lines) && (alg != lines[calls-1].alg || word != lines[calls-1].word) {
				t.Errorf("All tells %d, %q as number %d", alg, word, calls)
			}
			return calls != stop
		})
		if calls != stop {
			t.Errorf("All tells %d pairs, though it is asked to stop behind %d", calls, stop)
		}
	}
}

// P18.1, R6: one iterator tells the whole each time, though it was stopped, and within itself
func TestAllAgain(t *testing.T) {
	all := All()
	for alg := range all {
		if alg == 5 {
			break
		}
	}
	pairs := 0
	for outer := range all {
		inner := 0
		for alg := range all {
			inner++
			if alg != inner {
				t.Errorf("within %d: %d as number %d", outer, alg, inner)
			}
		}
		pairs += inner
	}
	if pairs != len(lines)*len(lines) {
		t.Errorf("%d pairs, not %d", pairs, len(lines)*len(lines))
	}
	isWhole(t, told())
}

// P18.1, R5: what is told is the same after any other calls
func TestTellsTheSame(t *testing.T) {
	for _, word := range noWords {
		Find(word)
	}
	for _, alg := range none {
		isNone(t, alg)
	}
	TestTable(t)
	TestFind(t)
	isWhole(t, told())
}

// P18.1, R1: several goroutines at once
func TestAtOnce(t *testing.T) {
	var all sync.WaitGroup
	for range 8 {
		all.Go(func() {
			for range 50 {
				for at, l := range told() {
					if lines[at].alg != l.alg || lines[at].word != l.word {
						t.Errorf("All tells %d, %q at the place %d", l.alg, l.word, at)
					}
					if alg, ok := Find(l.word); alg != l.alg || !ok || Kind(alg) != lines[at].kind || Digest(alg) != lines[at].digest || Block(alg) != lines[at].block {
						t.Errorf("Find(%q) = %d, %v", l.word, alg, ok)
					}
				}
			}
		})
	}
	all.Wait()
}

// P18.1: the chapter's example
func TestExample(t *testing.T) {
	if alg, ok := Find("sha512-256"); alg != 6 || !ok {
		t.Errorf("Find of sha512-256 = %d, %v, not 6, true", alg, ok)
	}
}
