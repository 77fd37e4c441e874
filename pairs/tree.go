package pairs

import (
	"iter"
	"strings"

	"footbridge/api"
)

// node is a tree of pairs in the order of their keys; the empty tree is nil. The heights of its two sides
// differ by at most 1, so that the way down to any pair is short whatever the order of the changes was.
// A node is never changed after it was made: trees share nodes with those that they were made from.
type node struct {
	left   *node
	pair   api.Pair
	right  *node
	height int
}

// tall returns the number of nodes on the longest way down.
func (n *node) tall() int {
	if n == nil {
		return 0
	}
	return n.height
}

// get returns the value of a key, and whether the key is present.
func (n *node) get(key string) (string, bool) {
	for n != nil {
		switch strings.Compare(key, n.pair.Key) {
		case -1:
			n = n.left
		case 1:
			n = n.right
		default:
			return n.pair.Value, true
		}
	}
	return "", false
}

// with returns the tree that has the pair too, in the place of one with the same key.
func (n *node) with(pair api.Pair) *node {
	if n == nil {
		return join(nil, pair, nil)
	}
	switch strings.Compare(pair.Key, n.pair.Key) {
	case -1:
		return balance(n.left.with(pair), n.pair, n.right)
	case 1:
		return balance(n.left, n.pair, n.right.with(pair))
	}
	return join(n.left, pair, n.right)
}

// without returns the tree that has no such key.
func (n *node) without(key string) *node {
	if n == nil {
		return nil
	}
	switch strings.Compare(key, n.pair.Key) {
	case -1:
		return balance(n.left.without(key), n.pair, n.right)
	case 1:
		return balance(n.left, n.pair, n.right.without(key))
	}
	return merge(n.left, n.right)
}

// from returns the pairs whose keys are not less than low, in increasing order of the keys.
func (n *node) from(low string) iter.Seq2[string, string] {
	return func(yield func(string, string) bool) { n.walk(low, yield) }
}

// walk yields those pairs until it is told to stop; it reports whether it was not told so.
func (n *node) walk(low string, yield func(string, string) bool) bool {
	if n == nil {
		return true
	}
	if n.pair.Key < low {
		return n.right.walk(low, yield)
	}
	return n.left.walk(low, yield) && yield(n.pair.Key, n.pair.Value) && n.right.walk(low, yield)
}

// join returns the tree of two sides and the pair between them.
func join(left *node, pair api.Pair, right *node) *node {
	return &node{left: left, pair: pair, right: right, height: 1 + max(left.tall(), right.tall())}
}

// balance is join for sides whose heights may differ by 2: one change on one side makes it no more than that.
// A side that is too tall by its inner part is turned first, because a turn leaves the inner part as deep as it was.
func balance(left *node, pair api.Pair, right *node) *node {
	switch left.tall() - right.tall() {
	case 2:
		if left.left.tall() < left.right.tall() {
			left = turnLeft(left.left, left.pair, left.right)
		}
		return turnRight(left, pair, right)
	case -2:
		if right.right.tall() < right.left.tall() {
			right = turnRight(right.left, right.pair, right.right)
		}
		return turnLeft(left, pair, right)
	}
	return join(left, pair, right)
}

// turnLeft joins the sides with the right one's pair on top.
func turnLeft(left *node, pair api.Pair, right *node) *node {
	return join(join(left, pair, right.left), right.pair, right.right)
}

// turnRight joins the sides with the left one's pair on top.
func turnRight(left *node, pair api.Pair, right *node) *node {
	return join(left.left, left.pair, join(left.right, pair, right))
}

// merge returns the tree of two sides whose heights differ by at most 1, and no pair between them.
func merge(left, right *node) *node {
	if right == nil {
		return left
	}
	next := right
	for next.left != nil {
		next = next.left
	}
	return balance(left, next.pair, right.without(next.pair.Key))
}
