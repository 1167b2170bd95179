package pack_test

import (
	"bytes"
	"cmp"
	"encoding/binary"
	"hash/fnv"
	"math"
	"math/big"
	"math/bits"
	"slices"
	"strings"
	"testing"

	"oriel/api"
	"oriel/pack"
)

// edgeInts is the numbers about 0, each power of two below and above it, and the least and greatest int.
func edgeInts() []int {
	all := []int{0, 1, -1, 2, -2, 3, -3, math.MinInt, math.MinInt + 1, math.MaxInt - 1, math.MaxInt}
	for k := 2; k < 63; k++ {
		for d := -1; d <= 1; d++ {
			all = append(all, 1<<k+d, -1<<k+d)
		}
	}
	return all
}

// edgeWords is the words about each power of two, and about each number at which one byte more is needed.
func edgeWords() []uint64 {
	all := []uint64{0, 1, 127, 128, 300, math.MaxUint64, math.MaxUint64 - 1}
	for k := range 64 {
		all = append(all, 1<<k-1, 1<<k, 1<<k+1)
	}
	return all
}

// mixed is n numbers without an order to be seen, the same each time.
func mixed(n int) []uint64 {
	var all []uint64
	w := uint64(88172645463325252)
	for range n {
		w ^= w << 13
		w ^= w >> 7
		w ^= w << 17
		all = append(all, w)
	}
	return all
}

// P3.1

func TestPlaceOfEdges(t *testing.T) {
	for _, x := range []struct {
		file, at, long int
		want           uint64
	}{
		{0, 0, 0, 0},
		{1, 2, 3, 281474976710656 + 33554432 + 3},
		{65535, 0, 0, 0xffff_000000_000000},
		{0, 16777215, 0, 0x0000_ffffff_000000},
		{0, 0, 16777215, 0x0000_000000_ffffff},
		{65535, 16777215, 16777215, math.MaxUint64},
		{0x8000, 0x800001, 0x7ffffe, 0x8000_800001_7ffffe},
	} {
		w, e := pack.Place(x.file, x.at, x.long)
		if w != x.want || e != api.OK {
			t.Errorf("%v: %x %v", x, w, e)
		}
		if f, a, l := pack.Parts(x.want); f != x.file || a != x.at || l != x.long {
			t.Errorf("%v: parts %d %d %d", x, f, a, l)
		}
	}
}

func TestPlaceAtEachNumber(t *testing.T) {
	few := append(edgeInts(), 1<<16-1, 1<<16, 1<<24-1, 1<<24)
	for _, f := range few {
		for _, a := range few {
			for _, l := range []int{-1, 0, 1, 1<<24 - 1, 1 << 24, math.MinInt, math.MaxInt, 1 << 32, 1 << 40, 77} {
				checkPlace(t, f, a, l)
				checkPlace(t, f, l, a)
			}
		}
	}
}

func checkPlace(t *testing.T, f, a, l int) {
	t.Helper()
	w, e := pack.Place(f, a, l)
	if f < 0 || f >= 65536 || a < 0 || a >= 16777216 || l < 0 || l >= 16777216 {
		if w != 0 || e != api.ErrRange {
			t.Fatalf("%d %d %d: %d %v", f, a, l, w, e)
		}
		return
	}
	if w != (uint64(f)*16777216+uint64(a))*16777216+uint64(l) || e != api.OK {
		t.Fatalf("%d %d %d: %d %v", f, a, l, w, e)
	}
}

func TestPartsOfAnyWord(t *testing.T) {
	for _, w := range append(edgeWords(), mixed(1000)...) {
		f, a, l := pack.Parts(w)
		if f < 0 || a < 0 || l < 0 || (uint64(f)*16777216+uint64(a))*16777216+uint64(l) != w {
			t.Fatal(w, f, a, l)
		}
		if back, e := pack.Place(f, a, l); back != w || e != api.OK {
			t.Fatal(w, back, e)
		}
	}
}

// P3.2

func TestPutOfEdges(t *testing.T) {
	for _, x := range []struct {
		n    uint64
		want []byte
	}{
		{0, []byte{0}},
		{1, []byte{1}},
		{127, []byte{127}},
		{128, []byte{128, 1}},
		{300, []byte{172, 2}},
		{16383, []byte{255, 127}},
		{16384, []byte{128, 128, 1}},
		{1<<63 - 1, []byte{255, 255, 255, 255, 255, 255, 255, 255, 127}},
		{1 << 63, []byte{128, 128, 128, 128, 128, 128, 128, 128, 128, 1}},
		{math.MaxUint64, []byte{255, 255, 255, 255, 255, 255, 255, 255, 255, 1}},
	} {
		if b := pack.Put(nil, x.n); !bytes.Equal(b, x.want) {
			t.Errorf("%d: %v", x.n, b)
		}
		if n, k, e := pack.Get(x.want); n != x.n || k != len(x.want) || e != api.OK {
			t.Errorf("%v: %d %d %v", x.want, n, k, e)
		}
	}
}

func TestPutAndGetOfManyNumbers(t *testing.T) {
	var all []byte
	numbers := append(edgeWords(), mixed(1000)...)
	for _, n := range numbers {
		ahead := slices.Clone(all)
		all = pack.Put(all, n)
		if !bytes.Equal(all, binary.AppendUvarint(ahead, n)) {
			t.Fatalf("%d: %v", n, all[len(ahead):])
		}
		if want := max(1, (bits.Len64(n)+6)/7); len(all)-len(ahead) != want {
			t.Fatalf("%d: %d bytes, not %d", n, len(all)-len(ahead), want)
		}
	}
	for _, n := range numbers {
		got, k, e := pack.Get(all)
		if got != n || e != api.OK {
			t.Fatalf("%d: %d %v", n, got, e)
		}
		all = all[k:]
	}
	if len(all) != 0 {
		t.Fatal(all)
	}
}

func TestPutLeavesWhatItIsGiven(t *testing.T) {
	room := []byte{1, 2, 3, 4, 5, 6, 7, 8, 9, 10, 11, 12, 13, 14, 15, 16}
	was := slices.Clone(room)
	for long := range len(room) + 1 {
		for _, n := range []uint64{0, 200, math.MaxUint64} {
			b := pack.Put(room[:long], n)
			again := pack.Put(room[:long], 99)
			if !bytes.Equal(room, was) {
				t.Fatal(long, n, room)
			}
			if want := binary.AppendUvarint(slices.Clone(was[:long]), n); !bytes.Equal(b, want) {
				t.Fatal(long, n, b)
			}
			clear(b[:cap(b)])
			if !bytes.Equal(room, was) || !bytes.Equal(again, append(slices.Clone(was[:long]), 99)) {
				t.Fatal("memory that is shared", long, n)
			}
		}
	}
}

// wantGet is what Get has to answer, told by the library.
func wantGet(b []byte) (uint64, int, api.Errno) {
	if len(b) == 0 {
		return 0, 0, api.ErrRange
	}
	n, k := binary.Uvarint(b)
	if k <= 0 || !bytes.Equal(binary.AppendUvarint(nil, n), b[:k]) {
		return 0, 0, api.ErrForm
	}
	return n, k, api.OK
}

func checkGet(t *testing.T, b []byte) {
	t.Helper()
	n, k, e := pack.Get(b)
	if wn, wk, we := wantGet(b); n != wn || k != wk || e != we {
		t.Fatalf("%v: %d %d %v, not %d %d %v", b, n, k, e, wn, wk, we)
	}
}

func TestGetOfAllShortBytes(t *testing.T) {
	checkGet(t, nil)
	for a := range 256 {
		checkGet(t, []byte{byte(a)})
		for b := range 256 {
			checkGet(t, []byte{byte(a), byte(b)})
			checkGet(t, []byte{byte(a), byte(b), 0})
			checkGet(t, []byte{byte(a), byte(b), 128, 1})
		}
	}
}

func TestGetOfBytesThatAreNoNumber(t *testing.T) {
	for long := range 14 {
		for _, x := range []byte{128, 129, 255} {
			more := bytes.Repeat([]byte{x}, long)
			checkGet(t, more)
			for last := range 256 {
				checkGet(t, append(slices.Clone(more), byte(last)))
				checkGet(t, append(slices.Clone(more), byte(last), 1, 2))
			}
		}
	}
	for _, b := range [][]byte{{}, {128}, {128, 0}, {255, 128, 0}, {128, 128, 128, 128, 128, 128, 128, 128, 128, 2}, {255, 255, 255, 255, 255, 255, 255, 255, 255, 3}, {128, 128, 128, 128, 128, 128, 128, 128, 128, 128, 1}} {
		want := api.ErrForm
		if len(b) == 0 {
			want = api.ErrRange
		}
		if n, k, e := pack.Get(b); n != 0 || k != 0 || e != want {
			t.Errorf("%v: %d %d %v", b, n, k, e)
		}
	}
}

// P3.3

// wantZig is what Zig has to answer, told in numbers of any size.
func wantZig(n int) uint64 {
	x := big.NewInt(int64(n))
	if n >= 0 {
		return x.Lsh(x, 1).Uint64()
	}
	x.Abs(x).Sub(x, big.NewInt(1)).Lsh(x, 1).Add(x, big.NewInt(1))
	return x.Uint64()
}

func TestZigAndZag(t *testing.T) {
	for i, n := range []int{0, -1, 1, -2, 2, -3, 3} {
		if w := pack.Zig(n); w != uint64(i) {
			t.Errorf("%d: %d", n, w)
		}
	}
	if a, b := pack.Zig(math.MaxInt), pack.Zig(math.MinInt); a != math.MaxUint64-1 || b != math.MaxUint64 {
		t.Error(a, b)
	}
	for _, n := range edgeInts() {
		w := pack.Zig(n)
		if w != wantZig(n) || pack.Zag(w) != n {
			t.Errorf("%d: %d, back %d", n, w, pack.Zag(w))
		}
	}
	for _, w := range append(edgeWords(), mixed(1000)...) {
		if n := pack.Zag(w); pack.Zig(n) != w || wantZig(n) != w {
			t.Errorf("%d: %d, back %d", w, n, pack.Zig(n))
		}
	}
}

// P3.4

func TestHash(t *testing.T) {
	if h := pack.Hash(""); h != 2166136261 {
		t.Error(h)
	}
	long := strings.Repeat("structure M = struct end\x00\xff é ", 1000)
	for _, s := range []string{"", "a", "\x00", "\xff", "ab", "ba", "foobar", long} {
		f := fnv.New32a()
		f.Write([]byte(s))
		if h := pack.Hash(s); h != f.Sum32() {
			t.Errorf("%.20q: %d, not %d", s, h, f.Sum32())
		}
	}
	for b := range 256 {
		if h := pack.Hash(string([]byte{byte(b)})); h != uint32(uint64(2166136261^uint32(b))*16777619%(1<<32)) {
			t.Errorf("%d: %d", b, h)
		}
	}
}

// P3.6

// lists is lists of numbers, short ones and a long one.
func lists() [][]int {
	all := [][]int{nil, {}, {0}, {0, 0}, {1, -1}, {math.MinInt, math.MaxInt}, edgeInts()}
	for n := range 300 {
		all = append(all, make([]int, n))
	}
	for _, n := range edgeInts() {
		all = append(all, []int{n}, []int{n, 5, n})
	}
	return all
}

// wantBytes is what Bytes has to answer, told by the library.
func wantBytes(l []int) []byte {
	out := binary.AppendUvarint(nil, uint64(len(l)))
	for _, n := range l {
		out = binary.AppendVarint(out, int64(n))
	}
	return out
}

func TestBytesAndInts(t *testing.T) {
	if b := pack.Bytes(nil); !bytes.Equal(b, []byte{0}) {
		t.Error(b)
	}
	if b := pack.Bytes([]int{-3, 64, 0}); !bytes.Equal(b, []byte{3, 5, 128, 1, 0}) {
		t.Error(b)
	}
	for _, l := range lists() {
		was := slices.Clone(l)
		b := pack.Bytes(l)
		if !bytes.Equal(b, wantBytes(l)) || !slices.Equal(l, was) {
			t.Fatal(l, b)
		}
		back, e := pack.Ints(b)
		if e != api.OK || !slices.Equal(back, l) {
			t.Fatal(l, back, e)
		}
	}
}

// checkInts: b is of a list, or ErrForm is told.
func checkInts(t *testing.T, b []byte) {
	t.Helper()
	was := slices.Clone(b)
	l, e := pack.Ints(b)
	if !bytes.Equal(b, was) {
		t.Fatalf("%v has become %v", was, b)
	}
	want, ok := wantInts(b)
	if !ok && (len(l) != 0 || e != api.ErrForm) {
		t.Fatalf("%v: %v %v", b, l, e)
	}
	if ok && (!slices.Equal(l, want) || e != api.OK) {
		t.Fatalf("%v: %v %v, not %v", b, l, e, want)
	}
}

// wantInts: the list that b is the bytes of: it is read by the library, and held against b when it is written again.
func wantInts(b []byte) ([]int, bool) {
	count, k := binary.Uvarint(b)
	if k <= 0 || count > uint64(len(b)) {
		return nil, false
	}
	var l []int
	rest := b[k:]
	for range count {
		n, k := binary.Varint(rest)
		if k <= 0 {
			return nil, false
		}
		l = append(l, int(n))
		rest = rest[k:]
	}
	return l, bytes.Equal(wantBytes(l), b)
}

func TestIntsOfAllShortBytes(t *testing.T) {
	some := []byte{0, 1, 2, 3, 4, 127, 128, 129, 255}
	all := [][]byte{nil}
	for i := 0; i < len(all); i++ { // all grows: each is made longer by each byte
		checkInts(t, all[i])
		for _, x := range some {
			if len(all[i]) < 5 {
				all = append(all, append(slices.Clone(all[i]), x))
			}
		}
	}
}

func TestIntsOfBytesThatAreNearlyAList(t *testing.T) {
	for _, l := range lists() {
		b := pack.Bytes(l)
		for n := range min(len(b), 50) {
			checkInts(t, b[:n])
			checkInts(t, b[:len(b)-1-n])
		}
		for _, more := range [][]byte{{0}, {1}, {128}, {128, 0}, {0, 0}} {
			checkInts(t, append(slices.Clone(b), more...))
		}
		for i := range min(len(b), 50) {
			for bit := range 8 {
				other := slices.Clone(b)
				other[i] ^= 1 << bit
				checkInts(t, other)
			}
		}
	}
	for _, b := range [][]byte{{}, {1}, {0, 0}, {2, 1}, {128, 0}, {1, 128, 0}, {1, 128}, binary.AppendUvarint(nil, math.MaxUint64), binary.AppendUvarint(nil, 1<<63), binary.AppendUvarint(nil, 1<<40), append(binary.AppendUvarint(nil, 1<<62), 1, 2, 3)} {
		if l, e := pack.Ints(b); len(l) != 0 || e != api.ErrForm {
			t.Errorf("%v: %v %v", b, l, e)
		}
	}
}

func TestBytesAndIntsShareNothing(t *testing.T) {
	l := []int{5, -6, 70000}
	b := pack.Bytes(l)
	was := slices.Clone(b)
	one, _ := pack.Ints(b)
	two, _ := pack.Ints(b)
	clear(one[:cap(one)])
	if !slices.Equal(two, l) || !bytes.Equal(b, was) {
		t.Error(two, b)
	}
	clear(b[:cap(b)])
	if !slices.Equal(two, []int{5, -6, 70000}) || !slices.Equal(l, []int{5, -6, 70000}) {
		t.Error(two, l)
	}
}

// P3.7

func TestPlacesRise(t *testing.T) {
	var places [][3]int
	for _, f := range []int{0, 1, 2, 255, 256, 32767, 32768, 65535} {
		for _, a := range []int{0, 1, 255, 65536, 8388608, 16777215} {
			for _, l := range []int{0, 1, 255, 65536, 8388608, 16777215} {
				places = append(places, [3]int{f, a, l})
			}
		}
	}
	for _, p := range places {
		w, _ := pack.Place(p[0], p[1], p[2])
		if f, a, l := pack.Parts(w); p != [3]int{f, a, l} {
			t.Fatal(p, f, a, l)
		}
		for _, q := range places {
			v, _ := pack.Place(q[0], q[1], q[2])
			if cmp.Compare(w, v) != slices.Compare(p[:], q[:]) {
				t.Fatal(p, q, w, v)
			}
		}
	}
}
