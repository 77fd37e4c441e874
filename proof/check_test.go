package proof_test

import (
	"fmt"
	"math"
	"slices"
	"strings"
	"testing"

	"footbridge/api"
	"footbridge/merkle"
	"footbridge/proof"
)

// clone returns a proof that can be changed on its own.
func clone(x api.Proof) api.Proof {
	x.Near, x.Paths = slices.Clone(x.Near), slices.Clone(x.Paths)
	for i := range x.Paths {
		x.Paths[i] = slices.Clone(x.Paths[i])
	}
	return x
}

// changes returns proofs that differ from x in one thing each.
func changes(x api.Proof) map[string]api.Proof {
	all := map[string]api.Proof{}
	change := func(what string, do func(y *api.Proof)) {
		y := clone(x)
		do(&y)
		all[what] = y
	}
	for _, d := range []int{-1, 1, 2, 1 << 40, math.MaxInt, math.MinInt} {
		change(fmt.Sprint("N by ", d), func(y *api.Proof) { y.N += d })
		change(fmt.Sprint("At by ", d), func(y *api.Proof) { y.At += d })
	}
	change("There", func(y *api.Proof) { y.There = !y.There })
	change("a pair more", func(y *api.Proof) { y.Near = append(y.Near, api.Pair{Key: "key/99999"}) })
	change("a pair more in front", func(y *api.Proof) { y.Near = slices.Insert(y.Near, 0, api.Pair{}) })
	change("a path more", func(y *api.Proof) { y.Paths = append(y.Paths, nil) })
	if len(x.Paths) > 0 {
		change("no paths", func(y *api.Proof) { y.Paths = nil })
	}
	for k := range x.Near {
		change(fmt.Sprint("pair away ", k), func(y *api.Proof) { y.Near = slices.Delete(y.Near, k, k+1) })
		change(fmt.Sprint("pair and path away ", k), func(y *api.Proof) {
			y.Near, y.Paths = slices.Delete(y.Near, k, k+1), slices.Delete(y.Paths, k, k+1)
		})
		change(fmt.Sprint("key of ", k), func(y *api.Proof) { y.Near[k].Key += "\x00" })
		change(fmt.Sprint("value of ", k), func(y *api.Proof) { y.Near[k].Value += "\x00" })
		change(fmt.Sprint("pair twice ", k), func(y *api.Proof) {
			y.Near, y.Paths = slices.Insert(y.Near, k, y.Near[k]), slices.Insert(y.Paths, k, y.Paths[k])
		})
	}
	if len(x.Near) == 2 {
		change("pairs turned", func(y *api.Proof) { slices.Reverse(y.Near) })
		change("paths turned", func(y *api.Proof) { slices.Reverse(y.Paths) })
		change("both turned", func(y *api.Proof) { slices.Reverse(y.Near); slices.Reverse(y.Paths) })
	}
	for k, path := range x.Paths {
		change(fmt.Sprint("path longer ", k), func(y *api.Proof) { y.Paths[k] = append(y.Paths[k], strings.Repeat("\x00", 32)) })
		change(fmt.Sprint("path longer by nothing ", k), func(y *api.Proof) { y.Paths[k] = append(y.Paths[k], "") })
		change(fmt.Sprint("path longer in front ", k), func(y *api.Proof) { y.Paths[k] = slices.Insert(y.Paths[k], 0, "") })
		for i := range path {
			change(fmt.Sprint("path shorter ", k, i), func(y *api.Proof) { y.Paths[k] = slices.Delete(y.Paths[k], i, i+1) })
			change(fmt.Sprint("hash ", k, i), func(y *api.Proof) { y.Paths[k][i] = "x" + y.Paths[k][i][1:] })
			change(fmt.Sprint("hash cut ", k, i), func(y *api.Proof) { y.Paths[k][i] = y.Paths[k][i][:31] })
			change(fmt.Sprint("hash longer ", k, i), func(y *api.Proof) { y.Paths[k][i] += "\x00" })
			change(fmt.Sprint("no hash ", k, i), func(y *api.Proof) { y.Paths[k][i] = "" })
		}
	}
	return all
}

// Promise 12.3: what Build returns proves that a key is there with its value, or that it is not, and nothing else.
func TestBuiltProofsHold(t *testing.T) {
	for _, count := range []int{0, 1, 2, 3, 4, 5, 6, 7, 8, 9, 13, 16, 17, 33} {
		l := numbered(count)
		root := merkle.Root(l)
		for n := range 2*count + 1 {
			x := proof.Build(l, keyOf(n))
			for other := range 2*count + 1 {
				there := n == other && n%2 == 1
				for _, p := range l {
					if got := proof.Has(root, api.Pair{Key: keyOf(other), Value: p.Value}, x); got != (there && p == l[n/2]) {
						t.Errorf("%d pairs: the proof for %d has %d with %s: %v", count, n, other, p.Value, got)
					}
				}
				if got := proof.Lacks(root, keyOf(other), x); got != (n == other && n%2 == 0) {
					t.Errorf("%d pairs: the proof for %d lacks %d: %v", count, n, other, got)
				}
			}
		}
	}
}

// Promise 12.3: a proof that was changed in any one thing does not hold any more.
func TestChangedProofsFail(t *testing.T) {
	for _, count := range []int{0, 1, 2, 3, 4, 5, 7, 8, 11} {
		l := numbered(count)
		root := merkle.Root(l)
		for n := range 2*count + 1 {
			x := proof.Build(l, keyOf(n))
			var p api.Pair
			if x.There {
				p = l[x.At]
			}
			for what, y := range changes(x) {
				if proof.Has(root, p, y) || proof.Lacks(root, keyOf(n), y) {
					t.Errorf("%d pairs: the proof for %d holds after a change of %s", count, n, what)
				}
			}
		}
	}
}

// Promise 12.3: the root is that of the list, whole; a hash below it is none.
func TestOtherRoots(t *testing.T) {
	l := numbered(5)
	root := merkle.Root(l)
	there, absent := proof.Build(l, keyOf(5)), proof.Build(l, keyOf(6))
	last := there.Paths[0][len(there.Paths[0])-1]
	for _, other := range []string{"", root[:31], root + "\x00", "x" + root[1:], last, merkle.Leaf(l[2]), merkle.Root(l[:4]), merkle.Root(nil), merkle.Root(numbered(6))} {
		if proof.Has(other, l[2], there) || proof.Lacks(other, keyOf(6), absent) {
			t.Errorf("a proof holds under the root %x", other)
		}
	}
	four := merkle.Node(merkle.Node(merkle.Leaf(l[0]), merkle.Leaf(l[1])), merkle.Node(merkle.Leaf(l[2]), merkle.Leaf(l[3])))
	if tree := merkle.Node(four, merkle.Leaf(l[4])); merkle.Top(5, tree) != root || proof.Has(tree, l[2], there) || proof.Has(merkle.Top(4, tree), l[2], there) {
		t.Error("a proof holds under the tree hash, or under the top of another number")
	}
}

// Promise 12.3: a node of the tree cannot be taken for a leaf, and the number of pairs cannot be told as a smaller one.
func TestNodesAreNoLeaves(t *testing.T) {
	l := numbered(4)
	root := merkle.Root(l)
	left, right := merkle.Node(merkle.Leaf(l[0]), merkle.Leaf(l[1])), merkle.Node(merkle.Leaf(l[2]), merkle.Leaf(l[3]))
	for _, p := range []api.Pair{{Key: merkle.Leaf(l[0]), Value: merkle.Leaf(l[1])}, {Key: left}, l[0]} {
		for n := range 5 {
			if proof.Has(root, p, api.Proof{N: n, There: true, Paths: [][]string{{right}}}) {
				t.Errorf("half a path leads to the root, of %d", n)
			}
		}
	}
}

// Promise 12.3, Lacks: neighbours that are not next to each other, only one of two, or the wrong one of two, do not prove that a key is absent.
func TestNeighboursMustBeNext(t *testing.T) {
	l := numbered(6)
	root, key := merkle.Root(l), l[2].Key
	path := func(i int) []string { return proof.Build(l, l[i].Key).Paths[0] }
	for at := -1; at <= len(l)+1; at++ {
		for a := range l {
			one := api.Proof{N: len(l), At: at, Near: []api.Pair{l[a]}, Paths: [][]string{path(a)}}
			if proof.Lacks(root, key, one) {
				t.Errorf("pair %d alone proves at %d that a key that is there is absent", a, at)
			}
			for b := range l {
				two := api.Proof{N: len(l), At: at, Near: []api.Pair{l[a], l[b]}, Paths: [][]string{path(a), path(b)}}
				if proof.Lacks(root, key, two) {
					t.Errorf("pairs %d and %d prove at %d that a key that is there is absent", a, b, at)
				}
				if got := proof.Lacks(root, keyOf(6), two); got != (at == 3 && a == 2 && b == 3) {
					t.Errorf("pairs %d and %d prove at %d that a key is absent: %v", a, b, at, got)
				}
			}
		}
	}
}

// Promise 12.3, Lacks: at both ends of the list there is one neighbour, and its key is held against the key; a key is not absent beside itself.
func TestLacksAtTheEnds(t *testing.T) {
	for count := 1; count < 9; count++ {
		l := numbered(count)
		root, first, last := merkle.Root(l), l[0].Key, l[count-1].Key
		before, after := proof.Build(l, ""), proof.Build(l, "z")
		if before.At != 0 || after.At != count || len(before.Near) != 1 || len(after.Near) != 1 {
			t.Fatalf("%d pairs: %+v and %+v", count, before, after)
		}
		for _, key := range []string{"", first[:8], first, first + "\x00", keyOf(count), last, last + "\x00", "z"} {
			if got := proof.Lacks(root, key, before); got != (key < first) {
				t.Errorf("%d pairs: %q stands before the first one: %v", count, key, got)
			}
			if got := proof.Lacks(root, key, after); got != (key > last) {
				t.Errorf("%d pairs: %q stands after the last one: %v", count, key, got)
			}
		}
	}
}

// Promise 12.3, Lacks: each key is absent from a tree without pairs, and only the root of no pairs has that proof.
func TestLacksOfNone(t *testing.T) {
	empty := api.Proof{Near: []api.Pair{}, Paths: [][]string{}}
	for _, key := range []string{"", "a", strings.Repeat("k", api.MaxText+1)} {
		if !proof.Lacks(merkle.Top(0, ""), key, api.Proof{}) || !proof.Lacks(merkle.Root(nil), key, empty) {
			t.Errorf("an empty tree does not lack %.20q", key)
		}
		for _, root := range []string{"", merkle.Top(0, "")[:31], merkle.Top(0, "a"), merkle.Top(1, ""), merkle.Root(numbered(1)), merkle.Root(numbered(7))} {
			if proof.Lacks(root, key, api.Proof{}) {
				t.Errorf("the tree with the root %x lacks %.20q by the proof of no pairs", root, key)
			}
		}
		for _, x := range []api.Proof{{There: true}, {At: 1}, {At: -1}, {N: -1}, {N: -1, At: -1}, {Paths: [][]string{nil}}, {Near: []api.Pair{{}}}, {Near: []api.Pair{{}}, Paths: [][]string{nil}}} {
			if proof.Lacks(merkle.Top(0, ""), key, x) || proof.Has(merkle.Top(0, ""), api.Pair{}, x) {
				t.Errorf("%+v proves something of an empty tree", x)
			}
		}
	}
}

// Promise 12.3: the trees of no and of negative numbers of pairs have no leaf, even under a root that Top gives for them.
func TestNoLeafOfNoTree(t *testing.T) {
	p := api.Pair{Key: "a"}
	for _, n := range []int{0, -1, -2, math.MinInt} {
		for _, at := range []int{n - 1, n, n + 1, -1, 0, 1} {
			for _, root := range []string{merkle.Top(n, ""), merkle.Top(n, merkle.Leaf(p))} {
				if proof.Has(root, p, api.Proof{N: n, At: at, There: true, Paths: [][]string{nil}}) {
					t.Errorf("position %d of %d has a leaf", at, n)
				}
				for _, key := range []string{"", "b"} {
					if x := (api.Proof{N: n, At: at, Near: []api.Pair{p}, Paths: [][]string{nil}}); proof.Lacks(root, key, x) {
						t.Errorf("position %d of %d has a neighbour", at, n)
					}
				}
			}
		}
	}
}

// Promises 12.1 and 12.3, rule R6: any number of pairs has its tree, also one that no list can have; beyond MaxNum it has no bytes in the root.
func TestGreatTrees(t *testing.T) {
	p := api.Pair{Key: "m", Value: "v"}
	for _, n := range []int{1 << 20, 1<<20 + 1, api.MaxNum, api.MaxNum + 1, 1 << 62, 1<<62 + 1, math.MaxInt} {
		for _, at := range []int{0, 1, n / 3, merkle.Split(n) - 1, merkle.Split(n), n - 2, n - 1} {
			tree, path := merkle.Leaf(p), []string(nil)
			for _, left := range turns(at, n) {
				beside := fmt.Sprint("hash ", len(path))
				path = append(path, beside)
				if left {
					tree = merkle.Node(tree, beside)
				} else {
					tree = merkle.Node(beside, tree)
				}
			}
			root := merkle.Top(n, tree)
			x := api.Proof{N: n, At: at, There: true, Paths: [][]string{path}}
			if !proof.Has(root, p, x) {
				t.Errorf("position %d of %d does not lead to its root", at, n)
			}
			for what, y := range map[string]api.Proof{
				"shorter": {N: n, At: at, There: true, Paths: [][]string{path[:len(path)-1]}},
				"longer":  {N: n, At: at, There: true, Paths: [][]string{append(slices.Clone(path), "")}},
				"beyond":  {N: n, At: n, There: true, Paths: [][]string{path}},
				"below":   {N: n, At: -1, There: true, Paths: [][]string{path}},
			} {
				if proof.Has(root, p, y) {
					t.Errorf("position %d of %d, %s, leads to the root", at, n, what)
				}
			}
			if last := (api.Proof{N: n, At: n, Near: []api.Pair{p}, Paths: [][]string{path}}); proof.Lacks(root, "n", last) != (at == n-1) {
				t.Errorf("position %d of %d as the last one: %v", at, n, at != n-1)
			}
			if first := (api.Proof{N: n, Near: []api.Pair{p}, Paths: [][]string{path}}); proof.Lacks(root, "l", first) != (at == 0) {
				t.Errorf("position %d of %d as the first one: %v", at, n, at != 0)
			}
		}
	}
}

// turns tells, from the leaf up to the tree, whether position i of n stands in the left half.
func turns(i, n int) []bool {
	var down []bool
	for n > 1 {
		s := merkle.Split(n)
		down = append(down, i < s)
		if i < s {
			n = s
		} else {
			i, n = i-s, n-s
		}
	}
	slices.Reverse(down)
	return down
}

// Rule R1: paths of any length and proofs of any shape get an answer.
func TestWildProofs(t *testing.T) {
	root := merkle.Root(numbered(3))
	wild := make([]string, 100000)
	for _, n := range []int{math.MinInt, -1, 0, 1, 2, 3, math.MaxInt} {
		for _, at := range []int{math.MinInt, -1, 0, 1, 2, 3, math.MaxInt} {
			for _, near := range [][]api.Pair{nil, {{}}, {{}, {Key: "z"}}, make([]api.Pair, 1000)} {
				for _, paths := range [][][]string{nil, {nil}, {wild}, {wild, wild}, {nil, nil}, make([][]string, 1000)} {
					for _, there := range []bool{false, true} {
						x := api.Proof{N: n, At: at, There: there, Near: near, Paths: paths}
						if proof.Has(root, api.Pair{}, x) || proof.Lacks(root, "k", x) {
							t.Errorf("a proof of %d and %d, with %d pairs and %d paths, holds", n, at, len(near), len(paths))
						}
					}
				}
			}
		}
	}
}
