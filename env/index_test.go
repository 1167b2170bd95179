package env

import (
	"slices"
	"strconv"
	"testing"
)

// sound counts the links of n, and tells whether they stand in order between low and high, and no side of a node is higher than the other by more than one.
func sound(n *node, low, high *Key) (int, bool) {
	if n == nil {
		return 0, true
	}
	k := n.at.key
	if low != nil && order(*low, k) >= 0 || high != nil && order(k, *high) >= 0 {
		return 0, false
	}
	left, okLeft := sound(n.left, low, &k)
	right, okRight := sound(n.right, &k, high)
	lean := n.left.height() - n.right.height()
	ok := -1 <= lean && lean <= 1 && n.high == 1+max(n.left.height(), n.right.height())
	return left + 1 + right, ok && okLeft && okRight
}

// checkIndex holds the index of the environment that binds keys of these numbers, one behind the other, and of all that it was made of.
func checkIndex(t *testing.T, numbers []int) {
	t.Helper()
	var e *Env
	var made []*Env
	for i, n := range numbers {
		e = e.With(Key{n % 2, strconv.Itoa(n)}, Item{Decl: i})
		made = append(made, e)
	}
	for i, e := range made {
		met := slices.Clone(numbers[:i+1])
		slices.Sort(met)
		if n, ok := sound(e.index, nil, nil); !ok || n != len(slices.Compact(met)) {
			t.Fatalf("%v: %d %v", numbers[:i+1], n, ok)
		}
	}
}

// All orders of up to seven keys, and longer ones, leave the index in order and balanced.
func TestIndex(t *testing.T) {
	var orders func(done, left []int)
	orders = func(done, left []int) {
		if len(left) == 0 {
			checkIndex(t, done)
		}
		for i, n := range left {
			orders(append(slices.Clone(done), n), slices.Delete(slices.Clone(left), i, i+1))
		}
	}
	for n := range 8 {
		var all []int
		for i := range n {
			all = append(all, i)
		}
		orders(nil, all)
	}
	for _, step := range []int{1, 2, 3, 7, 100, 253, 499} {
		var l []int
		for i := range 600 {
			l = append(l, i*step%500)
		}
		checkIndex(t, l)
	}
}

// Keys come by their spaces first, then by their names, byte by byte.
func TestOrder(t *testing.T) {
	l := []Key{{-1, "z"}, {0, ""}, {1, ""}, {1, "A"}, {1, "a"}, {1, "a'"}, {1, "aa"}, {1, "\xff"}, {2, ""}, {2, "B"}}
	for i, a := range l {
		for j, b := range l {
			if got := order(a, b); (got < 0) != (i < j) || (got > 0) != (i > j) {
				t.Errorf("%v %v: %d", a, b, got)
			}
		}
	}
}
