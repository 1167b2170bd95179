package env

import "cmp"

// node is links, one for each key, as a balanced tree in the order of their keys: a project may bind so many names that going through all of them for each use would take too long. A node is never changed: environments share most of their trees.
type node struct {
	at          *link
	left, right *node
	high        int // how many nodes the longest way down has
}

// order says which of two keys comes first in an index.
func order(a, b Key) int {
	return cmp.Or(cmp.Compare(a.Space, b.Space), cmp.Compare(a.Name, b.Name))
}

// find is the link that is asked for; nil, if it is not there. Of each key that is met, side says whether the one that is asked for comes ahead of it (below 0), behind it (above 0), or is that.
func (n *node) find(side func(Key) int) *link {
	for n != nil {
		switch s := side(n.at.key); {
		case s < 0:
			n = n.left
		case s > 0:
			n = n.right
		default:
			return n.at
		}
	}
	return nil
}

// with is n, and b in the place of the link that has its key.
func (n *node) with(b *link) *node {
	if n == nil {
		return join(nil, b, nil)
	}
	switch s := order(b.key, n.at.key); {
	case s < 0:
		return balance(n.left.with(b), n.at, n.right)
	case s > 0:
		return balance(n.left, n.at, n.right.with(b))
	}
	return join(n.left, b, n.right)
}

// join is b, with what comes ahead of it and what comes behind it.
func join(left *node, b *link, right *node) *node {
	return &node{b, left, right, 1 + max(left.height(), right.height())}
}

// balance is join, of two sides of which one may be higher than the other by two.
func balance(left *node, b *link, right *node) *node {
	switch lean := left.height() - right.height(); {
	case lean > 1 && left.left.height() >= left.right.height():
		return join(left.left, left.at, join(left.right, b, right))
	case lean > 1:
		mid := left.right
		return join(join(left.left, left.at, mid.left), mid.at, join(mid.right, b, right))
	case lean < -1 && right.right.height() >= right.left.height():
		return join(join(left, b, right.left), right.at, right.right)
	case lean < -1:
		mid := right.left
		return join(join(left, b, mid.left), mid.at, join(mid.right, right.at, right.right))
	}
	return join(left, b, right)
}

func (n *node) height() int {
	if n == nil {
		return 0
	}
	return n.high
}
