package desk

import (
	"bytes"
	"crypto/sha256"
	"crypto/sha3"
	"encoding/hex"
	"maps"
	"math"
	"math/rand"
	"runtime"
	"slices"
	"sync"
	"testing"
	"time"

	"cribble/api"
	"cribble/hasher"
)

// most is the number of hashers that a desk has at a time, by the document's own word.
const most = 64

// algorithms are all that there are.
var algorithms = []int{
	api.SHA224, api.SHA256, api.SHA384, api.SHA512, api.SHA512x224, api.SHA512x256, api.SHA3x224, api.SHA3x256, api.SHA3x384, api.SHA3x512,
	api.SHAKE128, api.SHAKE256, api.CSHAKE128, api.CSHAKE256,
}

// someAlgorithms are one of each kind.
var someAlgorithms = []int{api.SHA256, api.SHA512, api.SHA3x256, api.SHAKE128, api.CSHAKE256}

// greatest is the greatest count of sha256 behind which whole blocks have been written.
var greatest = api.Count{Lo: 1<<61 - 64}

// run tells n bytes that repeat at no block's size.
func run(n int) []byte {
	b := make([]byte, n)
	for at := range b {
		b[at] = byte(at*167 + at/251 + 13)
	}
	return b
}

func text(n, s string) api.Name {
	return api.Name{N: []byte(n), S: []byte(s)}
}

// nameOf is one that a hasher of the algorithm may have: not empty, where that may be.
func nameOf(alg int) api.Name {
	if alg == api.CSHAKE128 || alg == api.CSHAKE256 {
		return text("N", "Email Signature")
	}
	return api.Name{}
}

// fill writes into all that a list has, spare room included.
func fill(b []byte) {
	b = b[:cap(b)]
	for at := range b {
		b[at] ^= 0xa5
	}
}

// withRoom is b in the middle of greater room.
func withRoom(b []byte) (all, part []byte) {
	all = slices.Concat(run(50), b, run(500))
	return all, all[50 : 50+len(b)]
}

func unhexed(t *testing.T, text string) []byte {
	t.Helper()
	b, err := hex.DecodeString(text)
	if err != nil {
		t.Fatal(err)
	}
	return b
}

// twin is a desk, and beside it hashers of layer 22 that have been through the same: what the chapter says that it is.
// Each of its calls is made of both, and held to one another.
type twin struct {
	t    *testing.T
	d    *Desk
	own  map[int]*hasher.Hasher
	next int
}

func begun(t *testing.T) *twin {
	t.Helper()
	d := New()
	if d == nil {
		t.Fatal("New = nil")
	}
	w := &twin{t, d, map[int]*hasher.Hasher{}, 1}
	w.stands()
	return w
}

// given holds what a call told that may give a number.
func (w *twin) given(what string, made *hasher.Hasher, wantErr api.Errno, number int, err api.Errno) {
	w.t.Helper()
	want := 0
	if wantErr == api.OK && len(w.own) >= most {
		wantErr = api.ErrFull
	}
	if wantErr == api.OK {
		want = w.next
		w.own[want] = made
		w.next++
	}
	if number != want || err != wantErr {
		w.t.Fatalf("%s = %d, %d, want %d, %d", what, number, err, want, wantErr)
	}
}

func (w *twin) create(alg int, n api.Name) {
	w.t.Helper()
	made, want := hasher.New(alg, n)
	number, err := w.d.New(alg, n)
	w.given("New", made, want, number, err)
}

func (w *twin) unmarshal(b []byte) {
	w.t.Helper()
	made, want := hasher.Unmarshal(b)
	number, err := w.d.Unmarshal(b)
	w.given("Unmarshal", made, want, number, err)
}

func (w *twin) clone(h int) {
	w.t.Helper()
	var made *hasher.Hasher
	want := w.missing(h)
	if want == api.OK {
		made = w.own[h].Clone()
	}
	number, err := w.d.Clone(h)
	w.given("Clone", made, want, number, err)
}

func (w *twin) missing(h int) api.Errno {
	if w.own[h] == nil {
		return api.ErrHandle
	}
	return api.OK
}

func (w *twin) write(h int, b []byte) {
	w.t.Helper()
	want, wantErr := 0, w.missing(h)
	if wantErr == api.OK {
		want, wantErr = w.own[h].Write(b)
	}
	if n, err := w.d.Write(h, b); n != want || err != wantErr {
		w.t.Fatalf("Write(%d), %d bytes = %d, %d, want %d, %d", h, len(b), n, err, want, wantErr)
	}
}

func (w *twin) sum(h int, prefix []byte) {
	w.t.Helper()
	var want []byte
	wantErr := w.missing(h)
	if wantErr == api.OK {
		want, wantErr = w.own[h].Sum(prefix)
	}
	b, err := w.d.Sum(h, prefix)
	w.told("Sum", h, b, err, want, wantErr)
}

func (w *twin) read(h, n int) {
	w.t.Helper()
	var want []byte
	wantErr := w.missing(h)
	if wantErr == api.OK {
		want, wantErr = w.own[h].Read(n)
	}
	b, err := w.d.Read(h, n)
	w.told("Read", h, b, err, want, wantErr)
}

func (w *twin) marshal(h int) {
	w.t.Helper()
	var want []byte
	wantErr := w.missing(h)
	if wantErr == api.OK {
		want = w.own[h].Marshal()
	}
	b, err := w.d.Marshal(h)
	w.told("Marshal", h, b, err, want, wantErr)
}

func (w *twin) told(what string, h int, b []byte, err api.Errno, want []byte, wantErr api.Errno) {
	w.t.Helper()
	if !bytes.Equal(b, want) || err != wantErr {
		w.t.Fatalf("%s(%d) = %.100x, %d, want %.100x, %d", what, h, b, err, want, wantErr)
	}
}

func (w *twin) reset(h int) {
	w.t.Helper()
	want := w.missing(h)
	if want == api.OK {
		w.own[h].Reset()
	}
	if err := w.d.Reset(h); err != want {
		w.t.Fatalf("Reset(%d) = %d, want %d", h, err, want)
	}
}

func (w *twin) setCount(h int, c api.Count) {
	w.t.Helper()
	want := w.missing(h)
	if want == api.OK {
		want = w.own[h].SetCount(c)
	}
	if err := w.d.SetCount(h, c); err != want {
		w.t.Fatalf("SetCount(%d), %v = %d, want %d", h, c, err, want)
	}
}

func (w *twin) drop(h int) {
	w.t.Helper()
	want := w.missing(h)
	delete(w.own, h)
	if err := w.d.Drop(h); err != want {
		w.t.Fatalf("Drop(%d) = %d, want %d", h, err, want)
	}
}

// numbers are those that hashers have, rising.
func (w *twin) numbers() []int {
	return slices.Sorted(maps.Keys(w.own))
}

// stands holds all that may be asked of a desk without changing it, but the digests.
func (w *twin) stands() {
	w.t.Helper()
	if l := w.d.Handles(); !slices.Equal(l, w.numbers()) {
		w.t.Fatalf("Handles = %v, want %v", l, w.numbers())
	}
	for h := range w.own {
		w.marshal(h)
	}
}

// tells holds the digests too.
func (w *twin) tells() {
	w.t.Helper()
	w.stands()
	for h := range w.own {
		w.sum(h, nil)
	}
}

// goesOn makes every call of the hasher of that number, which holds all that it is to what layer 22 makes of it.
func (w *twin) goesOn(h int) {
	w.t.Helper()
	for _, b := range [][]byte{nil, run(1), {}, run(200), run(64)} {
		w.write(h, b)
		w.tells()
	}
	for _, c := range []api.Count{{}, {Lo: 1}, {Lo: 9}, {Lo: 73}, {Lo: 1 << 60}, {Hi: 1}, {Hi: math.MaxUint64}} {
		w.setCount(h, c)
		w.stands()
	}
	for _, prefix := range [][]byte{nil, {}, []byte("x"), run(100)} {
		w.sum(h, prefix)
	}
	for _, n := range []int{-1, 0, 1, 7, 300, api.MaxRead + 1, math.MinInt} {
		w.read(h, n)
		w.tells()
	}
	w.write(h, run(3))
	w.marshal(h)
	w.reset(h)
	w.tells()
	w.write(h, []byte("abc"))
	w.tells()
}

// filled has one of each algorithm, in the order of their numbers.
func filled(t *testing.T) *twin {
	t.Helper()
	w := begun(t)
	for _, alg := range algorithms {
		w.create(alg, nameOf(alg))
	}
	w.tells()
	return w
}

// allStates has hashers in all kinds of states: at the beginning, written to, of a great count, failed, and read.
func allStates(t *testing.T) *twin {
	t.Helper()
	w := filled(t)
	for _, h := range w.numbers() {
		w.clone(h)
		w.write(w.next-1, run(300))
	}
	for _, h := range []int{1, 2} {
		w.clone(h)
		w.setCount(w.next-1, greatest)
		w.clone(w.next - 1)
		w.write(w.next-1, run(64))
	}
	for h := 11; h <= 14; h++ {
		w.clone(h)
		w.write(w.next-1, run(9))
		w.read(w.next-1, 400)
	}
	w.tells()
	return w
}

// The desk that other tests begin with has what they take it to have.
func TestAllStates(t *testing.T) {
	w := allStates(t)
	many := map[api.Errno]int{}
	for _, h := range w.numbers() {
		_, err := w.d.Sum(h, nil)
		many[err]++
	}
	if len(w.own) != 36 || many[api.ErrLong] != 2 || many[api.ErrSqueeze] != 4 || many[api.OK] != 30 {
		t.Errorf("%d hashers: %v", len(w.own), many)
	}
}

// Examples: the chapter's
func TestExample(t *testing.T) {
	d := New()
	gives(t, d, 1)
	gives(t, d, 2)
	if err := d.Drop(1); err != api.OK {
		t.Errorf("Drop = %d", err)
	}
	gives(t, d, 3)
	hasHandles(t, d, 2, 3)
}

// gives holds the next number.
func gives(t *testing.T, d *Desk, want int) {
	t.Helper()
	if h, err := d.New(api.SHA256, api.Name{}); h != want || err != api.OK {
		t.Fatalf("New = %d, %d, want %d", h, err, want)
	}
}

func hasHandles(t *testing.T, d *Desk, want ...int) {
	t.Helper()
	if l := d.Handles(); !slices.Equal(l, want) {
		t.Fatalf("Handles = %v, want %v", l, want)
	}
}

func hasSum(t *testing.T, d *Desk, h int, want []byte) {
	t.Helper()
	if b, err := d.Sum(h, nil); !bytes.Equal(b, want) || err != api.OK {
		t.Fatalf("Sum(%d) = %x, %d, want %x", h, b, err, want)
	}
}

func written(t *testing.T, d *Desk, h int, b []byte) {
	t.Helper()
	if n, err := d.Write(h, b); n != len(b) || err != api.OK {
		t.Fatalf("Write(%d), %d bytes = %d, %d", h, len(b), n, err)
	}
}

func sha(message string) []byte {
	sum := sha256.Sum256([]byte(message))
	return sum[:]
}

// Examples of the whole: 1, 3, 4, 6, 7, 9 and 10
func TestExamplesOfTheWhole(t *testing.T) {
	d := New()
	gives(t, d, 1)
	written(t, d, 1, unhexed(t, "616263"))
	if err := d.Drop(2); err != 2 {
		t.Errorf("9: %d", err)
	}
	hasSum(t, d, 1, unhexed(t, "ba7816bf8f01cfea414140de5dae2223b00361a396177a9cb410ff61f20015ad"))
	b, err := d.Marshal(1)
	if len(b) != 118 || b[4] != 2 || err != api.OK {
		t.Errorf("6: %x, %d", b, err)
	}
	b[117] = 1
	if h, err := d.Unmarshal(b); h != 0 || err != 7 {
		t.Errorf("6: %d, %d", h, err)
	}
	h, _ := d.New(api.SHAKE128, api.Name{})
	one, _ := d.Read(h, 2)
	two, _ := d.Read(h, 2)
	if n, err := d.Write(h, []byte("a")); !bytes.Equal(slices.Concat(one, two), unhexed(t, "7f9c2ba4")) || n != 0 || err != 5 {
		t.Errorf("3: %x, %x, %d, %d", one, two, n, err)
	}
	h, _ = d.New(api.CSHAKE128, text("", "Email Signature"))
	written(t, d, h, []byte{0, 1, 2, 3})
	if b, err := d.Read(h, 8); !bytes.Equal(b, unhexed(t, "c1c36925b6409a04")) || err != api.OK {
		t.Errorf("4: %x, %d", b, err)
	}
	gives(t, d, 4)
	if err := d.SetCount(4, greatest); err != api.OK {
		t.Errorf("7: %d", err)
	}
	written(t, d, 4, run(63))
	if n, err := d.Write(4, run(1)); n != 0 || err != 4 {
		t.Errorf("7: %d, %d", n, err)
	}
	gives(t, d, 5)
	written(t, d, 5, []byte("a"))
	if h, err := d.Clone(5); h != 6 || err != api.OK {
		t.Errorf("10: %d, %d", h, err)
	}
	written(t, d, 5, []byte("bc"))
	written(t, d, 6, []byte("xy"))
	hasSum(t, d, 5, sha("abc"))
	hasSum(t, d, 6, sha("axy"))
}

// P23.1: a desk at its beginning has none, and the next number is 1
func TestNothingThere(t *testing.T) {
	d := New()
	if l := d.Handles(); len(l) != 0 {
		t.Errorf("Handles = %v", l)
	}
	refusesNumbers(t, d, 1, 2, 0, -1, 64)
	gives(t, d, 1)
	hasHandles(t, d, 1)
}

// P23.1: the numbers rise by one, whichever call gives them
func TestNumbersGiven(t *testing.T) {
	w := begun(t)
	for want := 1; want < most; want += 3 {
		h, err := w.d.New(api.SHA512, api.Name{})
		c, cloned := w.d.Clone(h)
		b, _ := w.d.Marshal(c)
		u, unmarshalled := w.d.Unmarshal(b)
		if h != want || c != want+1 || u != want+2 || err != api.OK || cloned != api.OK || unmarshalled != api.OK {
			t.Fatalf("New, Clone, Unmarshal = %d, %d, %d: %d, %d, %d, want %d and on", h, c, u, err, cloned, unmarshalled, want)
		}
		for _, h := range []int{h, c} {
			if err := w.d.Drop(h); err != api.OK {
				t.Fatalf("Drop(%d) = %d", h, err)
			}
		}
	}
}

// P23.1, P23.2: a hasher of each algorithm, with each name that it may have, is at its beginning, and goes on as layer 22's
func TestNewOfEach(t *testing.T) {
	w := filled(t)
	for _, alg := range []int{api.CSHAKE128, api.CSHAKE256} {
		for _, n := range []api.Name{{}, {N: []byte{}, S: []byte{}}, text("", "x"), {N: run(1000), S: run(1000)}} {
			w.create(alg, n)
		}
	}
	for _, h := range w.numbers() {
		w.goesOn(h)
	}
}

// wrongNew are arguments of New, and its error.
var wrongNew = []struct {
	alg  int
	n    api.Name
	want api.Errno
}{
	{0, api.Name{}, api.ErrAlg}, {15, api.Name{}, api.ErrAlg}, {-1, text("a", "b"), api.ErrAlg}, {256 + 2, api.Name{}, api.ErrAlg}, {1<<32 + 2, api.Name{}, api.ErrAlg},
	{math.MinInt, api.Name{}, api.ErrAlg}, {math.MaxInt, api.Name{N: make([]byte, 1001)}, api.ErrAlg},
	{api.SHA256, text("a", ""), api.ErrArg}, {api.SHA3x256, text("", "b"), api.ErrArg}, {api.SHAKE128, text("a", "b"), api.ErrArg},
	{api.CSHAKE128, api.Name{N: make([]byte, 1001)}, api.ErrArg}, {api.CSHAKE256, api.Name{S: make([]byte, 1001)}, api.ErrArg},
}

// P23.1, P23.3: layer 22's errors of New; no number is used up
func TestNewRefused(t *testing.T) {
	for _, w := range []*twin{begun(t), allStates(t)} {
		for _, wrong := range wrongNew {
			unchanged(t, w, func() {
				if h, err := w.d.New(wrong.alg, wrong.n); h != 0 || err != wrong.want {
					t.Fatalf("New of %d, texts of %d and %d bytes = %d, %d", wrong.alg, len(wrong.n.N), len(wrong.n.S), h, err)
				}
			})
		}
		w.create(api.SHA256, api.Name{})
	}
}

// unchanged holds that what is done leaves all as it is.
func unchanged(t *testing.T, w *twin, do func()) {
	t.Helper()
	was, numbers := snapshots(t, w.d), w.d.Handles()
	do()
	if !maps.EqualFunc(snapshots(t, w.d), was, bytes.Equal) || !slices.Equal(w.d.Handles(), numbers) {
		t.Fatalf("%v, %v, want %v, %v", w.d.Handles(), snapshots(t, w.d), numbers, was)
	}
	w.stands()
}

func snapshots(t *testing.T, d *Desk) map[int][]byte {
	t.Helper()
	l := map[int][]byte{}
	for _, h := range d.Handles() {
		b, err := d.Marshal(h)
		if err != api.OK {
			t.Fatalf("Marshal(%d) = %d", h, err)
		}
		l[h] = b
	}
	return l
}

// P23.1, P23.2: what comes of the snapshots of all states goes on as layer 22's, and apart from what they were told of
func TestUnmarshal(t *testing.T) {
	for _, b := range snapshots(t, allStates(t).d) {
		w := begun(t)
		w.unmarshal(b)
		w.unmarshal(b)
		if again, err := w.d.Marshal(1); !bytes.Equal(again, b) || err != api.OK {
			t.Fatalf("Marshal of %x = %x, %d", b, again, err)
		}
		w.goesOn(1)
		w.goesOn(2)
	}
}

// wrongSnapshots are bytes that are no snapshots: nothing, other bytes, and those that snapshots are but for one place.
func wrongSnapshots(t *testing.T) [][]byte {
	t.Helper()
	l := [][]byte{nil, {}, []byte("CRB1"), []byte("abc"), run(118), make([]byte, 207)}
	for _, b := range snapshots(t, allStates(t).d) {
		other := bytes.Clone(b)
		other[5] = 2
		l = append(l, b[:len(b)-1], b[1:], b[:5], append(bytes.Clone(b), 0), other)
	}
	return l
}

// P23.1, P23.3: bytes that are no snapshot; no number is used up
func TestUnmarshalRefused(t *testing.T) {
	for _, w := range []*twin{begun(t), filled(t)} {
		for _, b := range wrongSnapshots(t) {
			unchanged(t, w, func() {
				if h, err := w.d.Unmarshal(b); h != 0 || err != api.ErrSnapshot {
					t.Fatalf("Unmarshal(%x) = %d, %d", b, h, err)
				}
			})
		}
		w.create(api.SHA256, api.Name{})
	}
}

// P23.1, P23.3: copies of all states go on as layer 22's, and apart from what they are copies of
func TestClone(t *testing.T) {
	for h := range allStates(t).own {
		w := allStates(t)
		w.clone(h)
		w.clone(w.next - 1)
		copied := w.next - 1
		w.drop(copied - 1)
		w.goesOn(copied)
		w.goesOn(h)
		w.clone(copied)
		w.drop(copied)
		w.goesOn(w.next - 1)
	}
}

// refusesNumbers holds that no call takes any of the numbers, whatever else it is handed.
func refusesNumbers(t *testing.T, d *Desk, numbers ...int) {
	t.Helper()
	check := func(what string, h int, got, want api.Errno, nothing bool) {
		t.Helper()
		if got != want || !nothing {
			t.Fatalf("%s(%d) = %d, and nothing: %t", what, h, got, nothing)
		}
	}
	for _, h := range numbers {
		number, err := d.Clone(h)
		check("Clone", h, err, api.ErrHandle, number == 0)
		for _, b := range [][]byte{nil, {}, []byte("abc"), run(300)} {
			n, err := d.Write(h, b)
			check("Write", h, err, api.ErrHandle, n == 0)
			sum, err := d.Sum(h, b)
			check("Sum", h, err, api.ErrHandle, len(sum) == 0)
		}
		for _, n := range []int{0, 1, 32, -1, math.MinInt, api.MaxRead, api.MaxRead + 1, math.MaxInt} {
			b, err := d.Read(h, n)
			check("Read", h, err, api.ErrHandle, len(b) == 0)
		}
		for _, c := range []api.Count{{}, {Lo: 1}, {Lo: 64}, {Hi: math.MaxUint64, Lo: math.MaxUint64}} {
			check("SetCount", h, d.SetCount(h, c), api.ErrHandle, true)
		}
		b, err := d.Marshal(h)
		check("Marshal", h, err, api.ErrHandle, len(b) == 0)
		check("Reset", h, d.Reset(h), api.ErrHandle, true)
		check("Drop", h, d.Drop(h), api.ErrHandle, true)
	}
}

// strange are numbers that no hasher ever has, though a part of their bits be a hasher's.
var strange = []int{0, -1, -2, -3, math.MinInt, math.MinInt + 2, math.MinInt32, math.MaxInt, math.MaxInt32, 1<<32 + 2, 1<<16 + 3, 256 + 2, -1<<32 + 2}

// P23.1, P23.3: numbers that no hasher has: below, above and among those given, and of those that were dropped
func TestNumbersThatNoneHas(t *testing.T) {
	w := begun(t)
	for at := range 9 {
		w.create(someAlgorithms[at%5], nameOf(someAlgorithms[at%5]))
	}
	for _, h := range []int{1, 4, 5, 9} {
		w.drop(h)
	}
	unchanged(t, w, func() {
		refusesNumbers(t, w.d, 1, 4, 5, 9, 10, 11, 64, 65)
		refusesNumbers(t, w.d, strange...)
	})
	w.create(api.SHA256, api.Name{})
	hasHandles(t, w.d, 2, 3, 6, 7, 8, 10)
	for _, h := range w.numbers() {
		w.goesOn(h)
	}
}

// P23.1, P23.3: the same where the desk is full: ErrHandle is told ahead of ErrFull
func TestNumbersThatNoneHasWhenFull(t *testing.T) {
	w := full(t)
	unchanged(t, w, func() {
		refusesNumbers(t, w.d, 65, 66, 128, 1000)
		refusesNumbers(t, w.d, strange...)
	})
	w.drop(1)
	w.drop(64)
	unchanged(t, w, func() { refusesNumbers(t, w.d, 1, 64, 65) })
	w.create(api.SHA256, api.Name{})
	w.create(api.SHA256, api.Name{})
	unchanged(t, w, func() { refusesNumbers(t, w.d, 1, 64, 67) })
}

// full has as many hashers as may be.
func full(t *testing.T) *twin {
	t.Helper()
	w := begun(t)
	for at := range most {
		alg := algorithms[at%len(algorithms)]
		w.create(alg, nameOf(alg))
		w.write(w.next-1, run(at))
	}
	w.stands()
	if l := w.d.Handles(); len(l) != most || l[0] != 1 || l[most-1] != most {
		t.Fatalf("Handles = %v", l)
	}
	return w
}

// refusesMore holds that it takes no hasher, and that layer 22's error is told ahead of that.
func refusesMore(t *testing.T, w *twin) {
	t.Helper()
	unchanged(t, w, func() {
		for _, alg := range algorithms {
			if h, err := w.d.New(alg, nameOf(alg)); h != 0 || err != api.ErrFull {
				t.Fatalf("New of %d = %d, %d", alg, h, err)
			}
		}
		for number, b := range snapshots(t, w.d) {
			if h, err := w.d.Unmarshal(b); h != 0 || err != api.ErrFull {
				t.Fatalf("Unmarshal(%x) = %d, %d", b, h, err)
			}
			if h, err := w.d.Clone(number); h != 0 || err != api.ErrFull {
				t.Fatalf("Clone(%d) = %d, %d", number, h, err)
			}
		}
		for _, wrong := range wrongNew {
			if h, err := w.d.New(wrong.alg, wrong.n); h != 0 || err != wrong.want {
				t.Fatalf("New of %d = %d, %d, want %d", wrong.alg, h, err, wrong.want)
			}
		}
		for _, b := range wrongSnapshots(t) {
			if h, err := w.d.Unmarshal(b); h != 0 || err != api.ErrSnapshot {
				t.Fatalf("Unmarshal(%x) = %d, %d", b, h, err)
			}
		}
		for _, h := range []int{0, -1, w.next, w.next + 1} {
			if c, err := w.d.Clone(h); c != 0 || err != api.ErrHandle {
				t.Fatalf("Clone(%d) = %d, %d", h, c, err)
			}
		}
	})
}

// P23.1, P23.3: 64 hashers, and no more; behind a Drop one more, under the number that is next, whichever call it is
func TestFull(t *testing.T) {
	w := full(t)
	refusesMore(t, w)
	w.drop(64)
	w.create(api.SHA3x512, api.Name{})
	refusesMore(t, w)
	w.drop(1)
	w.clone(65)
	refusesMore(t, w)
	b, _ := w.d.Marshal(30)
	w.drop(30)
	w.unmarshal(b)
	refusesMore(t, w)
	if l := w.d.Handles(); l[0] != 2 || l[most-1] != 67 || slices.Contains(l, 30) || slices.Contains(l, 64) || len(l) != most {
		t.Errorf("Handles = %v", l)
	}
	for _, h := range []int{2, 65, 66, 67} {
		w.goesOn(h)
	}
}

// P23.1: full by each of the calls that give numbers
func TestFullByEachCall(t *testing.T) {
	for _, more := range []func(w *twin){
		func(w *twin) { w.create(api.SHAKE256, api.Name{}) },
		func(w *twin) { w.clone(1) },
		func(w *twin) { w.unmarshal(w.own[1].Marshal()) },
	} {
		w := begun(t)
		w.create(api.SHA512x224, api.Name{})
		for range most - 1 {
			more(w)
		}
		if len(w.own) != most {
			t.Fatalf("%d hashers", len(w.own))
		}
		refusesMore(t, w)
		w.drop(7)
		more(w)
		refusesMore(t, w)
	}
}

// P23.1: at most 64 at a time, though many more be given one behind the other
func TestManyOneBehindTheOther(t *testing.T) {
	w := begun(t)
	for h := 1; h <= 1000; h++ {
		w.create(api.SHA256, api.Name{})
		w.write(h, run(h%70))
		if h%3 != 0 || h > 150 {
			w.drop(h)
		}
		w.stands()
	}
	w.create(api.SHA256, api.Name{})
	if l := w.d.Handles(); l[len(l)-1] != 1001 {
		t.Errorf("Handles = %v", l)
	}
}

// P23.1: a hasher that was dropped is there no more, and its number isn't given again; the others stay as they are
func TestDrop(t *testing.T) {
	for _, order := range [][]int{{1, 2, 3, 4, 5}, {5, 4, 3, 2, 1}, {3, 1, 5, 2, 4}} {
		w := begun(t)
		for _, alg := range someAlgorithms {
			w.create(alg, nameOf(alg))
			w.write(w.next-1, run(alg))
		}
		for _, h := range order {
			w.drop(h)
			w.tells()
			refusesNumbers(t, w.d, h)
			w.stands()
		}
		if l := w.d.Handles(); len(l) != 0 {
			t.Errorf("Handles = %v", l)
		}
		w.create(api.SHA256, api.Name{})
		hasHandles(t, w.d, 6)
		refusesNumbers(t, w.d, order...)
		w.goesOn(6)
	}
}

// P23.1: failed and read hashers are dropped as others are
func TestDropOfAllStates(t *testing.T) {
	w := allStates(t)
	for _, h := range w.numbers() {
		w.drop(h)
		refusesNumbers(t, w.d, h)
		w.stands()
	}
	w.create(api.SHA256, api.Name{})
	w.goesOn(w.next - 1)
}

// P23.1: the numbers rise, each time that they are asked for
func TestHandlesRise(t *testing.T) {
	w := full(t)
	for _, h := range []int{1, 63, 17, 18, 40} {
		w.drop(h)
		w.create(api.SHA224, api.Name{})
		for range 20 {
			if l := w.d.Handles(); !slices.IsSorted(l) || !slices.Equal(l, w.numbers()) {
				t.Fatalf("Handles = %v, want %v", l, w.numbers())
			}
		}
	}
}

// P23.2: Write, Sum, Read, Reset, Marshal and SetCount of hashers in all states
func TestCallsOfAllStates(t *testing.T) {
	w := allStates(t)
	for _, h := range w.numbers() {
		w.goesOn(h)
		w.goesOn(h)
	}
}

// P23.2, W1: digests are the standard library's, behind what is handed in
func TestDigests(t *testing.T) {
	d := New()
	gives(t, d, 1)
	h, _ := d.New(api.SHA3x256, api.Name{})
	message := run(500)
	for piece := range slices.Chunk(message, 37) {
		written(t, d, 1, piece)
		written(t, d, 1, nil)
		written(t, d, h, piece)
	}
	two, three := sha256.Sum256(message), sha3.Sum256(message)
	for _, prefix := range [][]byte{nil, {}, []byte("x"), run(77)} {
		for h, want := range map[int][]byte{1: two[:], 2: three[:]} {
			if b, err := d.Sum(h, prefix); !bytes.Equal(b, slices.Concat(prefix, want)) || err != api.OK {
				t.Errorf("Sum(%d) behind %d bytes = %x, %d", h, len(prefix), b, err)
			}
		}
	}
}

// P23.2, W2: what is read is the standard library's, in parts of all sizes
func TestRead(t *testing.T) {
	n := nameOf(api.CSHAKE128)
	whole := sha3.NewCSHAKE128(n.N, n.S)
	whole.Write([]byte("abc"))
	want := make([]byte, 3000)
	whole.Read(want)
	d := New()
	h, _ := d.New(api.CSHAKE128, n)
	written(t, d, h, []byte("abc"))
	for _, many := range []int{0, 1, 0, 167, 168, 169, 1000} {
		if b, err := d.Read(h, many); !bytes.Equal(b, want[:many]) || err != api.OK {
			t.Fatalf("Read of %d = %.50x, %d", many, b, err)
		}
		want = want[many:]
	}
}

// P23.2, P23.3: layer 22's errors of each call, which change nothing
func TestErrorsOfCalls(t *testing.T) {
	w := allStates(t)
	w.read(11, 1)
	w.write(3, run(5))
	refused := []struct {
		what string
		do   func() (nothing bool, err api.Errno)
		want api.Errno
	}{
		{"Read of sha256", func() (bool, api.Errno) { b, err := w.d.Read(2, 1); return len(b) == 0, err }, api.ErrFixed},
		{"Read of -1 bytes of sha3-512", func() (bool, api.Errno) { b, err := w.d.Read(10, -1); return len(b) == 0, err }, api.ErrFixed},
		{"Read of -1 bytes", func() (bool, api.Errno) { b, err := w.d.Read(12, -1); return len(b) == 0, err }, api.ErrArg},
		{"Read of too many bytes", func() (bool, api.Errno) { b, err := w.d.Read(11, api.MaxRead+1); return len(b) == 0, err }, api.ErrArg},
		{"Write behind Read", func() (bool, api.Errno) { n, err := w.d.Write(11, []byte("a")); return n == 0, err }, api.ErrSqueeze},
		{"Write of nothing behind Read", func() (bool, api.Errno) { n, err := w.d.Write(11, nil); return n == 0, err }, api.ErrSqueeze},
		{"Sum behind Read", func() (bool, api.Errno) { b, err := w.d.Sum(11, []byte("x")); return len(b) == 0, err }, api.ErrSqueeze},
		{"SetCount of a sponge", func() (bool, api.Errno) { return true, w.d.SetCount(7, api.Count{}) }, api.ErrArg},
		{"SetCount, not as much left over", func() (bool, api.Errno) { return true, w.d.SetCount(3, api.Count{Lo: 4}) }, api.ErrArg},
		{"SetCount, too great", func() (bool, api.Errno) { return true, w.d.SetCount(2, api.Count{Lo: 1 << 61}) }, api.ErrArg},
	}
	for _, r := range refused {
		unchanged(t, w, func() {
			if nothing, err := r.do(); !nothing || err != r.want {
				t.Errorf("%s: %d, and nothing: %t", r.what, err, nothing)
			}
		})
	}
	for _, h := range w.numbers() {
		w.goesOn(h)
	}
}

// P23.3, W5: a Write that tells ErrLong leaves its hasher failed, and no other one; copies and snapshots behind it are
// failed too, till each begins anew
func TestWriteThatFails(t *testing.T) {
	w := begun(t)
	w.create(api.SHA256, api.Name{})
	w.setCount(1, greatest)
	w.clone(1)
	before, _ := w.d.Marshal(1)
	w.unmarshal(before)
	if n, err := w.d.Write(1, run(64)); n != 0 || err != api.ErrLong {
		t.Fatalf("Write = %d, %d", n, err)
	}
	w.own[1].Write(run(64))
	behind, _ := w.d.Marshal(1)
	before[5] = 1
	if !bytes.Equal(behind, before) {
		t.Errorf("Marshal of a failed one = %x, want %x", behind, before)
	}
	w.clone(1)
	w.unmarshal(behind)
	for _, h := range []int{1, 4, 5} {
		holdsFailed(t, w, h)
	}
	for _, h := range []int{2, 3} {
		written(t, w.d, h, run(63))
		w.write(h, nil)
		w.own[h].Write(run(63))
	}
	w.tells()
	w.reset(4)
	hasSum(t, w.d, 4, sha(""))
	for _, h := range []int{1, 5} {
		holdsFailed(t, w, h)
	}
	for h := 1; h <= 5; h++ {
		w.reset(h)
		w.goesOn(h)
	}
}

func holdsFailed(t *testing.T, w *twin, h int) {
	t.Helper()
	unchanged(t, w, func() {
		for _, b := range [][]byte{nil, {}, {0}, run(100)} {
			if n, err := w.d.Write(h, b); n != 0 || err != api.ErrLong {
				t.Fatalf("Write(%d) = %d, %d", h, n, err)
			}
			if sum, err := w.d.Sum(h, b); len(sum) != 0 || err != api.ErrLong {
				t.Fatalf("Sum(%d) = %x, %d", h, sum, err)
			}
		}
		if b, err := w.d.Read(h, 1); len(b) != 0 || err != api.ErrFixed {
			t.Fatalf("Read(%d) = %x, %d", h, b, err)
		}
	})
}

// P23.3, W4: two that began alike, each written to on its own
func TestApart(t *testing.T) {
	for _, alg := range algorithms {
		w := begun(t)
		w.create(alg, nameOf(alg))
		w.create(alg, nameOf(alg))
		w.write(1, run(100))
		w.clone(1)
		w.unmarshal(w.own[1].Marshal())
		for h := 1; h <= 4; h++ {
			w.write(h, run(h))
			w.tells()
		}
		w.reset(1)
		w.tells()
		w.drop(1)
		w.tells()
		for h := 2; h <= 4; h++ {
			w.goesOn(h)
		}
	}
}

// P23.3, R5: two desks have nothing of one another
func TestTwoDesks(t *testing.T) {
	one, two := begun(t), begun(t)
	one.create(api.SHA256, api.Name{})
	two.stands()
	refusesNumbers(t, two.d, 1)
	two.create(api.SHA512, api.Name{})
	two.create(api.SHAKE128, api.Name{})
	one.write(1, []byte("abc"))
	one.tells()
	two.tells()
	one.drop(1)
	two.tells()
	two.goesOn(1)
	one.create(api.SHA3x224, api.Name{})
	hasHandles(t, one.d, 2)
	hasHandles(t, two.d, 1, 2)
	for range most - 2 {
		two.clone(1)
	}
	refusesMore(t, two)
	one.create(api.SHA256, api.Name{})
	one.goesOn(2)
	one.goesOn(3)
}

// P23.3, R4: writing into what was handed in makes no difference; it isn't changed, nor is the room about it
func TestHandedIn(t *testing.T) {
	for _, alg := range algorithms {
		w := begun(t)
		n := nameOf(alg)
		allN, partN := withRoom(n.N)
		allS, partS := withRoom(n.S)
		wasN, wasS := bytes.Clone(allN), bytes.Clone(allS)
		number, err := w.d.New(alg, api.Name{N: partN, S: partS})
		made, want := hasher.New(alg, n)
		w.given("New", made, want, number, err)
		allB, partB := withRoom(run(321))
		wasB := bytes.Clone(allB)
		w.write(1, partB)
		w.sum(1, partB)
		allM, partM := withRoom(w.own[1].Marshal())
		wasM := bytes.Clone(allM)
		w.unmarshal(partM)
		w.clone(2)
		for what, all := range map[string][2][]byte{"N": {allN, wasN}, "S": {allS, wasS}, "a message": {allB, wasB}, "a snapshot": {allM, wasM}} {
			if !bytes.Equal(all[0], all[1]) {
				t.Fatalf("%s was changed by hashers of %d", what, alg)
			}
			fill(all[0])
			w.tells()
		}
		for h := 1; h <= 3; h++ {
			w.goesOn(h)
			w.reset(h)
			w.goesOn(h)
		}
	}
}

// P23.3, R4: writing into what was told makes no difference, nor to what was told before; it shares nothing with what
// was handed in
func TestTold(t *testing.T) {
	w := allStates(t)
	for _, h := range w.numbers() {
		b, _ := w.d.Marshal(h)
		again, _ := w.d.Marshal(h)
		fill(b)
		if !bytes.Equal(again, w.own[h].Marshal()) {
			t.Fatalf("writing into a snapshot of %d changed another one", h)
		}
		fill(again)
		all, prefix := withRoom([]byte("prefix"))
		was := bytes.Clone(all)
		sum, _ := w.d.Sum(h, prefix)
		fill(sum)
		if !bytes.Equal(all, was) {
			t.Fatalf("writing into a digest of %d changed its prefix", h)
		}
		w.tells()
		read, _ := w.d.Read(h, 9)
		w.own[h].Read(9)
		fill(read)
		w.stands()
		w.goesOn(h)
	}
}

// P23.1, R4: writing into the numbers that were told makes no difference
func TestNumbersTold(t *testing.T) {
	w := filled(t)
	l, again := w.d.Handles(), w.d.Handles()
	l = l[:cap(l)]
	for at := range l {
		l[at] = -7
	}
	if !slices.Equal(again, w.numbers()) {
		t.Errorf("Handles = %v", again)
	}
	w.tells()
	for at := range again {
		again[at] = 100
	}
	w.create(api.SHA256, api.Name{})
	w.tells()
	refusesNumbers(t, w.d, -7, 100)
}

// P23.1, P23.2: asking changes nothing, however often
func TestAskingChangesNothing(t *testing.T) {
	w := allStates(t)
	unchanged(t, w, func() {
		for range 5 {
			w.tells()
			for _, h := range w.d.Handles() {
				w.read(h, 0)
			}
		}
	})
	for _, h := range w.numbers() {
		w.goesOn(h)
	}
}

// P23.1 to P23.3, W1 to W5: calls of all kinds in mixed order, of numbers of all kinds, on desks that fill up and on
// those that don't
func TestMixed(t *testing.T) {
	for seed := range int64(40) {
		mixed(begun(t), rand.New(rand.NewSource(seed)), int(seed%4))
	}
}

// mixed drops the more seldom, the greater its last argument is.
func mixed(w *twin, r *rand.Rand, seldom int) {
	w.t.Helper()
	for range 500 {
		h := r.Intn(w.next+3) - 1
		if l := w.numbers(); len(l) > 0 && r.Intn(5) > 0 {
			h = l[r.Intn(len(l))]
		}
		switch r.Intn(14) {
		case 0, 1:
			alg := r.Intn(16)
			w.create(alg, []api.Name{nameOf(alg), {}, text("", "b")}[r.Intn(3)])
		case 2:
			w.clone(h)
		case 3:
			b := run(118)
			if w.own[h] != nil {
				b = w.own[h].Marshal()
			}
			w.unmarshal(b[:len(b)-r.Intn(4)/3])
		case 4, 5, 6:
			w.write(h, run(r.Intn(300)))
		case 7:
			w.sum(h, run(r.Intn(3)))
		case 8:
			w.read(h, r.Intn(300)-3)
		case 9:
			w.reset(h)
		case 10:
			w.setCount(h, api.Count{Lo: uint64(r.Intn(3)) * 64})
		case 11:
			w.setCount(h, greatest)
		default:
			if r.Intn(seldom+1) == 0 {
				w.drop(h)
			}
		}
		w.stands()
	}
	w.tells()
}

// R5: the same calls of two desks are answered alike, whatever others there are
func TestNothingIsKept(t *testing.T) {
	for _, w := range []*twin{allStates(t), allStates(t)} {
		other := full(t)
		w.tells()
		for _, h := range w.numbers() {
			w.goesOn(h)
		}
		other.tells()
		w.create(api.SHA256, api.Name{})
	}
}

// R1: desks may be made by several goroutines at once, and each one's own be called
func TestAtOnce(t *testing.T) {
	var all sync.WaitGroup
	for range 8 {
		all.Go(func() {
			d := New()
			for at := range most {
				h, err := d.New(api.SHA256, api.Name{})
				d.Write(h, []byte("abc"))
				b, _ := d.Sum(h, nil)
				if h != at+1 || err != api.OK || !bytes.Equal(b, sha("abc")) {
					t.Errorf("%d, %d: %x", h, err, b)
				}
			}
			if _, err := d.Clone(1); err != api.ErrFull || len(d.Handles()) != most {
				t.Errorf("Clone = %d, of %d", err, len(d.Handles()))
			}
		})
	}
	all.Wait()
}

// R1 and the language's rule 6: no call leaves a goroutine behind
func TestNoGoroutineIsLeft(t *testing.T) {
	before := runtime.NumGoroutine()
	w := allStates(t)
	for _, h := range w.numbers() {
		w.goesOn(h)
		w.drop(h)
	}
	for range 100 {
		if runtime.NumGoroutine() <= before {
			return
		}
		time.Sleep(10 * time.Millisecond)
	}
	t.Errorf("%d goroutines, %d before", runtime.NumGoroutine(), before)
}
