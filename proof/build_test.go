package proof_test

import (
	"fmt"
	"slices"
	"strings"
	"testing"

	"footbridge/api"
	"footbridge/merkle"
	"footbridge/proof"
	"footbridge/sha"
)

// keyOf writes numbers so that the keys stand in the order of the numbers.
func keyOf(n int) string { return fmt.Sprintf("key/%05d", n) }

// numbered returns that many pairs; their keys have the odd numbers, so that each even number is absent.
func numbered(count int) []api.Pair {
	var l []api.Pair
	for i := range count {
		l = append(l, api.Pair{Key: keyOf(2*i + 1), Value: fmt.Sprintf("value %d", i*i)})
	}
	return l
}

func same(a, b api.Proof) bool {
	return a.N == b.N && a.At == b.At && a.There == b.There && slices.Equal(a.Near, b.Near) && slices.EqualFunc(a.Paths, b.Paths, slices.Equal)
}

func mustPut(t *testing.T, x api.Proof) string {
	t.Helper()
	s, err := proof.Put(x)
	if err != api.OK {
		t.Fatalf("Put(%+v) = %d", x, err)
	}
	return s
}

// fromBelow works paths out in another way: on each level neighbours are joined, and one that is left alone goes up as it is.
func fromBelow(l []api.Pair, i int) []string {
	var level, path []string
	for _, p := range l {
		level = append(level, merkle.Leaf(p))
	}
	for len(level) > 1 {
		if beside := i ^ 1; beside < len(level) {
			path = append(path, level[beside])
		}
		var above []string
		for two := range slices.Chunk(level, 2) {
			if len(two) == 2 {
				two = []string{merkle.Node(two[0], two[1])}
			}
			above = append(above, two[0])
		}
		level, i = above, i/2
	}
	return path
}

// Promise 12.1: the path written out for each position of a tree of seven pairs: the lowest hash first.
func TestPathsOfSeven(t *testing.T) {
	l := numbered(7)
	var h []string
	for _, p := range l {
		h = append(h, merkle.Leaf(p))
	}
	two, next := merkle.Node(h[0], h[1]), merkle.Node(h[2], h[3])
	four, last := merkle.Node(two, next), merkle.Node(h[4], h[5])
	three := merkle.Node(last, h[6])
	for i, want := range [][]string{
		{h[1], next, three},
		{h[0], next, three},
		{h[3], two, three},
		{h[2], two, three},
		{h[5], h[6], four},
		{h[4], h[6], four},
		{last, four},
	} {
		if got := proof.Build(l, l[i].Key).Paths; len(got) != 1 || !slices.Equal(got[0], want) {
			t.Errorf("the path of %d is %x; want %x", i, got, want)
		}
	}
}

// Promise 12.1: all positions of all small trees and of some greater ones, against paths that are built from below.
func TestPathsFromBelow(t *testing.T) {
	for count := 1; count < 70; count++ {
		l := numbered(count)
		for i := range l {
			if got := proof.Build(l, l[i].Key).Paths; len(got) != 1 || !slices.Equal(got[0], fromBelow(l, i)) {
				t.Errorf("the path of %d of %d is %x", i, count, got)
			}
		}
	}
	for _, count := range []int{255, 256, 257, 1000} {
		l := numbered(count)
		for _, i := range []int{0, 1, 127, 128, 254, count - 2, count - 1} {
			if got := proof.Build(l, l[i].Key).Paths; len(got) != 1 || !slices.Equal(got[0], fromBelow(l, i)) {
				t.Errorf("the path of %d of %d is %x", i, count, got)
			}
		}
	}
}

// Promise 12.2: the chapter's example.
func TestExample(t *testing.T) {
	a, c := api.Pair{Key: "a", Value: "1"}, api.Pair{Key: "c", Value: "2"}
	want := api.Proof{N: 2, At: 1, Near: []api.Pair{a, c}, Paths: [][]string{{merkle.Leaf(c)}, {merkle.Leaf(a)}}}
	if got := proof.Build([]api.Pair{a, c}, "b"); !same(got, want) {
		t.Errorf("Build = %+v; want %+v", got, want)
	}
}

// Promise 12.2: each field, for each key that is there and each place of a key that is not, in lists of all small lengths.
func TestBuild(t *testing.T) {
	for count := range 40 {
		l := numbered(count)
		for n := range 2*count + 1 {
			want := api.Proof{N: count, At: n / 2, There: n%2 == 1}
			if want.There {
				want.Paths = [][]string{fromBelow(l, want.At)}
			}
			for _, i := range []int{want.At - 1, want.At} {
				if !want.There && i >= 0 && i < count {
					want.Near = append(want.Near, l[i])
					want.Paths = append(want.Paths, fromBelow(l, i))
				}
			}
			if got := proof.Build(l, keyOf(n)); !same(got, want) {
				t.Errorf("Build of %d pairs for %d = %+v; want %+v", count, n, got, want)
			}
		}
	}
}

// Promise 12.2: keys are compared byte by byte; an empty key is one, and a key is above those that it begins with.
func TestBuildComparesBytes(t *testing.T) {
	l := []api.Pair{{Key: ""}, {Key: "\x00"}, {Key: "B"}, {Key: "a"}, {Key: "a\x00"}, {Key: "ab"}, {Key: "\x80"}, {Key: "\xff"}, {Key: "\xff\xff"}}
	for i, p := range l {
		if got := proof.Build(l, p.Key); !got.There || got.At != i || got.N != len(l) {
			t.Errorf("Build for %q = %+v; want it at %d", p.Key, got, i)
		}
	}
	for key, at := range map[string]int{"\x00\x00": 2, "A": 2, "C": 3, "a\x00\x00": 5, "aa": 5, "é": 7, "\xff\x00": 8, "\xff\xff\x00": 9} {
		if got := proof.Build(l, key); got.There || got.At != at || got.N != len(l) {
			t.Errorf("Build for %q = %+v; want it absent at %d", key, got, at)
		}
	}
}

// Promise 12.2: an empty list, and one of a single pair, whose path is empty.
func TestBuildOfNoneAndOne(t *testing.T) {
	for _, l := range [][]api.Pair{nil, {}, numbered(3)[:0]} {
		for _, key := range []string{"", "a"} {
			if got := proof.Build(l, key); !same(got, api.Proof{}) {
				t.Errorf("Build of an empty list = %+v", got)
			}
		}
	}
	p := api.Pair{Key: "k", Value: "v"}
	for key, want := range map[string]api.Proof{
		"k": {N: 1, There: true, Paths: [][]string{nil}},
		"j": {N: 1, Near: []api.Pair{p}, Paths: [][]string{nil}},
		"l": {N: 1, At: 1, Near: []api.Pair{p}, Paths: [][]string{nil}},
	} {
		if got := proof.Build([]api.Pair{p}, key); !same(got, want) {
			t.Errorf("Build of one pair for %q = %+v; want %+v", key, got, want)
		}
	}
}

// Promise 12.2: the keys must be strictly increasing; wherever they are not, and whatever the key is, there is no proof.
func TestBuildOfOtherLists(t *testing.T) {
	for _, keys := range []string{"aa", "ba", "aab", "abb", "aba", "bac", "acb", "cba", "abcdd", "aabcd", "abccd", "abced", "bacde", "abcda"} {
		var l []api.Pair
		for i, key := range strings.Split(keys, "") {
			l = append(l, api.Pair{Key: key, Value: fmt.Sprint(i)})
		}
		for _, key := range []string{"", "a", "aa", "b", "c", "d", "e", "z"} {
			if got := proof.Build(l, key); !same(got, api.Proof{}) {
				t.Errorf("Build of the keys %s for %q = %+v; want the zero proof", keys, key, got)
			}
		}
	}
	for i := range 9 {
		l := numbered(10)
		l[i].Key = l[i+1].Key
		if got := proof.Build(l, keyOf(4)); !same(got, api.Proof{}) {
			t.Errorf("Build with two equal keys at %d = %+v; want the zero proof", i, got)
		}
	}
}

// Promise 12.2: the values need not be in any order, and a text that is too long has the leaf that merkle gives it.
func TestBuildWithAnyValues(t *testing.T) {
	long := strings.Repeat("v", api.MaxText+1)
	l := []api.Pair{{Key: "a", Value: "z"}, {Key: "b", Value: long}, {Key: "c", Value: "z"}, {Key: long}}
	for i := range l {
		if x := proof.Build(l, l[i].Key); !x.There || !slices.Equal(x.Paths[0], fromBelow(l, i)) || !proof.Has(merkle.Root(l), l[i], x) {
			t.Errorf("Build for %.20q = %.200v", l[i].Key, x)
		}
	}
	if x := proof.Build(l, "bb"); !slices.Equal(x.Near, l[1:3]) || !proof.Lacks(merkle.Root(l), "bb", x) {
		t.Error("the neighbour with a long value does not prove that a key is absent")
	}
}

// Promises 12.2 and 12.4: proofs for keys that are there (odd) and absent (even), as another program builds and encodes them.
func TestBuiltByAnotherProgram(t *testing.T) {
	for _, c := range []struct {
		count, key int
		want       string
	}{
		{0, 0, "8855508aade16ec573d21e6a485dfd0a7624085c1a14b5ecdd6485de0c6839a4"},
		{1, 0, "0641d10337260bc39d860d6d9422190995d08ae7db6acee30677f82c31f0ca43"},
		{1, 1, "ca535ffcfd5e742c8dc7b866c8173165ed1ab1472bf4416d43b32d1164fa6294"},
		{1, 2, "83ffc4788f8bffa60a3d81cfcc8e3faada8e33020f6d7f1adad88c056a0d9ae2"},
		{2, 1, "7d5feaafd83dd8d481fca4d3ea40d526fe764e0a85435a68d38e309d3f872228"},
		{2, 2, "889cc32d04b6debdbe81522fd2360b46a616b49ceb98860b4aa6fffff00cbc72"},
		{2, 3, "2e5ef267057fb3263eca769b6307c20eb3d71de851227238604c4a75c86c7f7b"},
		{5, 9, "0c9019d1e473feb593712a38c65ada3f27730a0357e9713e621b6bfd970881bf"},
		{5, 10, "1d456deef8c64ed7890dc45d141c2abfe86608898b4ff7d67e52f326ec379696"},
		{6, 8, "5577f7767ed464b14fa16313e190024fed298d6c0d5f15df9e3f36b64b7cbae7"},
		{7, 13, "2ce05e6389fa1a3fd96cc2b7441a2651c4caeb02e7288add7fc7f6d845ca4735"},
		{8, 8, "241ea37a6683a81c6df89d4f32ba61b732c68506edb388c48aeb7bc1a039c4d3"},
		{9, 17, "109dfea0acaaa33b38c82213080aece09457bd75807fa34f76dbecf9314b3871"},
		{9, 16, "c482cac3d6d727b4e473c21bd691e5835d79efd3e4781e8ad2004b1129483900"},
		{100, 77, "accb7895dab2a975b3cb7e9fe77cb584a5c2ca5af8738c4cfc47502e78d32128"},
		{100, 128, "4e62e337e69655e3f82cb5b16050b5a8ba6febae15e4b312de5d431d8cee13cf"},
		{1000, 1025, "78a5001d667ebb612adae8c26d0bd454d06171698b9e5c160487c0ae11639457"},
		{1000, 1024, "d8b57467d59307c6e192fabc25b0e04014f93b977a8126eab78309e049180c20"},
		{4097, 8193, "cca49c1f5406568b7fc089294e75da56e9c62ca29e6283b431729be5bca5d090"},
		{4097, 8192, "ace395124d4ad3368cd00fdade5411db916086392345b2b0e86bcf923868b136"},
	} {
		s := mustPut(t, proof.Build(numbered(c.count), keyOf(c.key)))
		if got := fmt.Sprintf("%x", sha.Sum(s)); got != c.want {
			t.Errorf("the proof of %d pairs for %d has the hash %s; want %s", c.count, c.key, got, c.want)
		}
	}
	var all strings.Builder
	for count := range 41 {
		l := numbered(count)
		for n := range 2*count + 1 {
			all.WriteString(mustPut(t, proof.Build(l, keyOf(n))))
		}
	}
	if got := fmt.Sprintf("%x", sha.Sum(all.String())); got != "eaa91507b9027a8f2535e5ddf0060177f8ee68b0bdc724c3d581fdb083a87c39" {
		t.Errorf("all proofs of up to 40 pairs have the hash %s", got)
	}
}

// Rules R4 and R5: the list is not changed and what stands behind its end does not count; what is done to an answer does not get back into the list.
func TestBuildIsAlone(t *testing.T) {
	l := numbered(20)
	for n := range 30 {
		x := proof.Build(l[:13], keyOf(n))
		if !same(x, proof.Build(slices.Clone(l[:13]), keyOf(n))) {
			t.Errorf("the same list has another proof for %d the second time", n)
		}
		for i := range x.Near {
			x.Near[i].Value = "another"
		}
		x.Near = append(x.Near, api.Pair{Key: "another"})
		for _, path := range x.Paths {
			clear(path)
		}
		if !slices.Equal(l, numbered(20)) {
			t.Fatalf("the list was changed by way of the proof for %d", n)
		}
	}
}
