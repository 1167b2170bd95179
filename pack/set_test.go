package pack_test

import (
	"math"
	"slices"
	"testing"

	"oriel/pack"
)

// asked is the numbers that Has is asked of: all that may be in a set, some about them, and the least and the greatest.
func asked() []int {
	all := []int{math.MinInt, math.MinInt + 1, -65536, -65535, -65, -64, -63, -2, -1}
	for n := range 65536 + 130 {
		all = append(all, n)
	}
	return append(all, 1<<32, 1<<32+1, math.MaxInt-64, math.MaxInt)
}

// members is those of l that may be in a set, once each, rising.
func members(l []int) []int {
	var out []int
	for _, n := range l {
		if n >= 0 && n <= 65535 {
			out = append(out, n)
		}
	}
	slices.Sort(out)
	return slices.Compact(out)
}

// checkSet: s says what the list want says, which rises and has no number twice.
func checkSet(t *testing.T, s pack.Set, want []int) {
	t.Helper()
	if l := s.List(); !slices.Equal(l, want) {
		t.Fatalf("List: %v, not %v", l, want)
	}
	if n := s.Len(); n != len(want) {
		t.Fatalf("Len: %d, not %d", n, len(want))
	}
	for _, n := range want {
		if !s.Has(n) {
			t.Fatalf("has no %d", n)
		}
	}
}

// someLists is lists of numbers, not all of which may be in a set.
func someLists() [][]int {
	all := [][]int{
		nil, {}, {0}, {63}, {64}, {65535}, {0, 63, 64, 65535}, {65535, 64, 63, 0, 0, 64}, {1, 64}, {65, 1, 129, 1},
		{-1}, {65536}, {math.MinInt}, {math.MaxInt}, {-1, 5, 65536, 6, math.MinInt, 5}, {-64, -63, 65599}, {1 << 32}, {1<<32 + 7, 7},
		{62, 63, 64, 65, 126, 127, 128, 129}, {65471, 65472, 65534}, {3000},
	}
	for i, n := range mixed(12) {
		var l []int
		for _, m := range mixed(int(n%40) + 1 + i*100) {
			l = append(l, int(m>>i%70000)-100)
		}
		all = append(all, l)
	}
	return all
}

// someSets is sets beside what they say: sets of no word, of fewer words and of more, with words of zero behind, and with bits beyond the first 1024 words.
func someSets() ([]pack.Set, [][]int) {
	var sets []pack.Set
	var says [][]int
	for _, l := range someLists() {
		want := members(l)
		bare := pack.Of(l...)
		zeros := append(slices.Clone(bare), 0, 0, 0)
		over := append(slices.Clone(bare), make(pack.Set, 1024-len(bare))...)
		over = append(over, math.MaxUint64, 0, 1)
		sets = append(sets, bare, zeros, over)
		says = append(says, want, want, want)
	}
	return sets, says
}

// P3.5

func TestSetsByTheirWords(t *testing.T) {
	high := make(pack.Set, 1025)
	high[0], high[1023], high[1024] = 1<<63|1, 1<<63, math.MaxUint64
	for _, x := range []struct {
		s    pack.Set
		want []int
	}{
		{nil, nil},
		{pack.Set{}, nil},
		{pack.Set{0, 0}, nil},
		{pack.Set{2, 1}, []int{1, 64}},
		{pack.Set{1 << 63, 1, 0}, []int{63, 64}},
		{high, []int{0, 63, 65535}},
	} {
		checkSet(t, x.s, x.want)
		for _, n := range asked() {
			if x.s.Has(n) != slices.Contains(x.want, n) {
				t.Fatal(x.want, n)
			}
		}
	}
	full := slices.Repeat(pack.Set{math.MaxUint64}, 1030)
	if full.Len() != 65536 || len(full.List()) != 65536 || full.Has(65536) || full.Has(-1) || !full.Has(65535) {
		t.Error(full.Len(), len(full.List()))
	}
}

func TestOf(t *testing.T) {
	if s := pack.Of(1, 64); !slices.Equal(s, pack.Set{2, 1}) {
		t.Error(s)
	}
	for _, l := range someLists() {
		was := slices.Clone(l)
		s := pack.Of(l...)
		checkSet(t, s, members(was))
		if !slices.Equal(l, was) {
			t.Fatal(l, was)
		}
	}
}

// P3.8

func TestHas(t *testing.T) {
	for _, l := range someLists() {
		s := pack.Of(l...)
		in := map[int]bool{}
		for _, n := range members(l) {
			in[n] = true
		}
		for _, n := range asked() {
			if s.Has(n) != in[n] {
				t.Fatal(l, n)
			}
		}
	}
}

func TestWithAndWithout(t *testing.T) {
	sets, says := someSets()
	some := []int{0, 1, 63, 64, 65, 127, 128, 3000, 65534, 65535, -1, -64, 65536, 65600, 1 << 32, math.MinInt, math.MaxInt}
	for i, s := range sets {
		was := slices.Clone(s)
		for _, n := range some {
			with, without := s.With(n), s.Without(n)
			checkSet(t, with, members(append(slices.Clone(says[i]), n)))
			checkSet(t, without, slices.DeleteFunc(slices.Clone(says[i]), func(m int) bool { return m == n }))
			if (n < 0 || n > 65535) && (!slices.Equal(with, was) || !slices.Equal(without, was)) {
				t.Fatal(n, with, without)
			}
			if !slices.Equal(s, was) {
				t.Fatal("changed", n)
			}
			clear(with[:cap(with)])
			clear(without[:cap(without)])
			if !slices.Equal(s, was) {
				t.Fatal("memory that is shared", n)
			}
		}
	}
}

func TestJoinAndRest(t *testing.T) {
	sets, says := someSets()
	for i, s := range sets {
		for j, u := range sets {
			was, wasU := slices.Clone(s), slices.Clone(u)
			join, rest := s.Join(u), s.Rest(u)
			checkSet(t, join, members(slices.Concat(says[i], says[j])))
			checkSet(t, rest, lacking(says[i], says[j]))
			clear(join[:cap(join)])
			clear(rest[:cap(rest)])
			if !slices.Equal(s, was) || !slices.Equal(u, wasU) {
				t.Fatal("changed", i, j)
			}
		}
	}
}

// lacking is those of l that are not in m.
func lacking(l, m []int) []int {
	in := map[int]bool{}
	for _, n := range m {
		in[n] = true
	}
	return slices.DeleteFunc(slices.Clone(l), func(n int) bool { return in[n] })
}

func TestSetsWithRoomBehindTheirEnd(t *testing.T) {
	room := pack.Set{1, 2, 4, 8}
	s := room[:1]
	for _, o := range []pack.Set{s.With(64), s.With(200), s.Without(0), s.Join(pack.Set{0, 1}), s.Rest(pack.Set{0, 1}), pack.Set{0, 1}.Join(s)} {
		clear(o[:cap(o)])
	}
	if !slices.Equal(room, pack.Set{1, 2, 4, 8}) {
		t.Error(room)
	}
	checkSet(t, s.With(64), []int{0, 64})
	checkSet(t, s.With(128), []int{0, 128})
}

func TestSetsDoNotKeepWhatTheyAreGiven(t *testing.T) {
	l := []int{3, 70}
	s := pack.Of(l...)
	one, two := s.List(), s.List()
	l[0], one[0] = 9, 9
	if !slices.Equal(two, []int{3, 70}) {
		t.Error(two)
	}
	checkSet(t, s, []int{3, 70})
}
