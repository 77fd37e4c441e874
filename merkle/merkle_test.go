package merkle_test

import (
	"fmt"
	"math"
	"slices"
	"strings"
	"testing"

	"footbridge/api"
	"footbridge/merkle"
	"footbridge/sha"
)

// mustHash holds a hash against one that was worked out by another program, in hexadecimal digits.
func mustHash(t *testing.T, what, got, want string) {
	t.Helper()
	if hex := fmt.Sprintf("%x", got); hex != want {
		t.Errorf("%s = %s; want %s", what, hex, want)
	}
}

// numbered returns that many pairs, each different from the others.
func numbered(count int) []api.Pair {
	var l []api.Pair
	for i := range count {
		l = append(l, api.Pair{Key: fmt.Sprintf("key/%d", i), Value: fmt.Sprintf("value %d", i*i)})
	}
	return l
}

// Promise 11.1, Split: the chapter's example, each small number, and the ends of int.
func TestSplit(t *testing.T) {
	for _, c := range []struct{ n, want int }{
		{5, 4},
		{0, 0}, {1, 0}, {2, 1}, {3, 2}, {4, 2}, {6, 4}, {7, 4}, {8, 4}, {9, 8}, {16, 8}, {17, 16}, {1000, 512}, {1024, 512}, {1025, 1024},
		{-1, 0}, {-2, 0}, {-5, 0}, {-1 << 32, 0}, {math.MinInt + 1, 0}, {math.MinInt, 0},
		{1 << 62, 1 << 61}, {1<<62 + 1, 1 << 62}, {math.MaxInt - 1, 1 << 62}, {math.MaxInt, 1 << 62},
	} {
		if got := merkle.Split(c.n); got != c.want {
			t.Errorf("Split(%d) = %d; want %d", c.n, got, c.want)
		}
	}
}

// Promise 11.1, Split: below n and at least half of it there is one power of two; that is the one.
func TestSplitIsTheLargestPower(t *testing.T) {
	check := func(n int) {
		s := merkle.Split(n)
		if s < 1 || s&(s-1) != 0 || s >= n || n-s > s {
			t.Errorf("Split(%d) = %d", n, s)
		}
	}
	for n := 2; n < 10000; n++ {
		check(n)
	}
	for k := 14; k < 63; k++ {
		for d := -2; d <= 2; d++ {
			check(1<<k + d)
		}
	}
}

// Promise 11.1, Leaf: ordinary and empty pairs, any bytes, and the same bytes divided in another way.
func TestLeaf(t *testing.T) {
	for _, c := range []struct{ key, value, want string }{
		{"a", "1", "ce782ee0e287dba79fe70cbd68f70f2fd2506b57443fbfb311433c56f71db569"},
		{"", "", "709e80c88487a2411e1ee4dfb9f22a861492d20c4765150c0c794abd70f8147c"},
		{"k", "", "e6bad380af4df855be8cb250c48dab0fb534d16c5a4da6e9c707222e2bb6b3d6"},
		{"", "k", "abd796f7210c8c1bf9c50bd02ff6dd5b1d26c21c84ba689896e20236f10ad840"},
		{"token/a%sb/c", "\x00\xff\x80\n", "e3ff27270c9b310d6ee8bf85f302865c339bf151443e6b6417a253d03b1ff14d"},
		{"ab", "", "e80acaedcfd47c6c7c8df10450967ba9bb1770a672d474d87bfeecc945accc67"},
		{"a", "b", "ecea5dea570dce431ead69d27abe6b7d7bc09035b2843f627119791a090fb3c0"},
		{strings.Repeat("k", 255), strings.Repeat("v", 256), "f8d52493bda796ae01fc5c53da91346e261cf4e24156c05808ec3c106c8bfb79"},
	} {
		mustHash(t, fmt.Sprintf("Leaf of %.20q and %.20q", c.key, c.value), merkle.Leaf(api.Pair{Key: c.key, Value: c.value}), c.want)
	}
}

// Promise 11.1, Leaf: a text of MaxText bytes is hashed, one of a byte more contributes nothing, not even its length.
func TestLeafOfLongTexts(t *testing.T) {
	for _, c := range []struct {
		key, value int
		want       string
	}{
		{api.MaxText, 1, "66760b8e82f64c01e371bd9d32d8bf003e18c7537c45dd759110504d25b6ec5f"},
		{1, api.MaxText, "c8afd711a94656f3dd3ddbf2a9fa895c33605c0d720ced5a44718642bb277aa1"},
		{api.MaxText, api.MaxText, "0a2a6e766eab5ac4f6a6f3f3ccc7a1a29de3532b02d615471abfcc5f641642a7"},
		{api.MaxText + 1, 1, "dc46e57f0f3720c692f44606445b0e76cf8280d5addfd104935633c102c17f49"},
		{1, api.MaxText + 1, "d30581d629b74d657b022ce62e76f4371e9bb7efaa4eabf6ef0e7c53eb53396b"},
		{api.MaxText + 1, api.MaxText + 1, "6e340b9cffb37a989ca544e6bb780a2c78901d3fb33738768511a30617afa01d"},
		{3 * api.MaxText, 2 * api.MaxText, "6e340b9cffb37a989ca544e6bb780a2c78901d3fb33738768511a30617afa01d"},
	} {
		p := api.Pair{Key: strings.Repeat("k", c.key), Value: strings.Repeat("v", c.value)}
		mustHash(t, fmt.Sprintf("Leaf of %d and %d bytes", c.key, c.value), merkle.Leaf(p), c.want)
	}
	long := strings.Repeat("k", api.MaxText+1)
	if merkle.Leaf(api.Pair{Key: long, Value: "v"}) != sha.Sum("\x00\x01\x01v") {
		t.Error("beside a long key, the value's text is not all that is hashed")
	}
	if merkle.Leaf(api.Pair{Key: "k", Value: long}) != sha.Sum("\x00\x01\x01k") {
		t.Error("beside a long value, the key's text is not all that is hashed")
	}
	if merkle.Leaf(api.Pair{Key: long}) == merkle.Leaf(api.Pair{}) {
		t.Error("a long key is hashed as an empty one, which has a length")
	}
}

// Promise 11.1, Node: strings of any length, as they are, one after the other, the first one first.
func TestNode(t *testing.T) {
	for _, c := range []struct{ a, b, want string }{
		{"", "", "4bf5122f344554c53bde2ebb8cd2b7e3d1600ad631c385a5d7cce23c7785459a"},
		{"a", "b", "170404e05440f45062c423052d5adcfb2c9d546ecfcb2022d6c34af474dbaf18"},
		{"b", "a", "93e8524f6850d96e808135a49f4ce62657c68ec6240abc28a40b331e9a3858d8"},
		{"ab", "", "170404e05440f45062c423052d5adcfb2c9d546ecfcb2022d6c34af474dbaf18"},
		{strings.Repeat("\x00", 32), strings.Repeat("\xff", 32), "bc6b943b820c449acf880d293c216a24a8066b153f87f2361fae2beda3a72641"},
		{strings.Repeat("x", 100), strings.Repeat("y", 31), "8184033674bab4b992c70fdcee6f83446e574521083d1bcdebcd5e3435e98968"},
	} {
		mustHash(t, fmt.Sprintf("Node(%.20q, %.20q)", c.a, c.b), merkle.Node(c.a, c.b), c.want)
	}
	long := strings.Repeat("z", 2*api.MaxText)
	if merkle.Node(long, "b") != sha.Sum("\x01"+long+"b") || merkle.Node("a", long) != sha.Sum("\x01a"+long) {
		t.Error("Node does not hash a long string as it is")
	}
}

// Promise 11.1, Top: numbers in range and at both ends, and numbers out of range, which contribute no bytes.
func TestTop(t *testing.T) {
	const out = "e3993528729dc56e2c694f61c34c2e286b178167cf736b80f98552be51c07660"
	for _, c := range []struct {
		n    int
		tree string
		want string
	}{
		{0, "", "99be5efb88ca2013bd8e4eb035fd42d5245468fe9afa70d8ba9c1c419a48c4e8"},
		{1, "", "da4d3da1daaceba9b72635459fd6a17da13e7530d53a4932535e6dc1d49bde3d"},
		{0, "a", "7b171e569d7d6b7a1a9188f7957f9692ad56530549112235e3381f60f12b6d98"},
		{1, strings.Repeat("\x00", 32), "ac1e03a34b3a5c4bf0ab1c2449ddb09b54d5e019f51a5e7454645bd012c19af1"},
		{255, "t", "67981850d1ae7b9b3d15b6407cd29355dadd0a60706d4a387f28323d414d900b"},
		{256, "t", "5e82b6d3b59b37cc2144d55b797b6e82c8033a4c4fb9817a1a8734f93922c11e"},
		{65536, "t", "dc32968485803b813bcca5900e2ba27c6d16d234f0de9a87f3b50fe0c9ca6c24"},
		{api.MaxNum - 1, "t", "5f3401485f77003bd81695ce9c0b93c433fb415b376e61fc446b433da5d55b21"},
		{api.MaxNum, "t", "7454b39c94df90777729ed212b27e676a0f2f82a6684b5a13d8292abff7bfac9"},
		{api.MaxNum + 1, "t", out},
		{math.MaxInt, "t", out},
		{-1, "t", out},
		{math.MinInt, "t", out},
		{-1, "", "dbc1b4c900ffe48d575b5da5c638040125f65db0fe3e24494b76ea986457d986"},
	} {
		mustHash(t, fmt.Sprintf("Top(%d, %.20q)", c.n, c.tree), merkle.Top(c.n, c.tree), c.want)
	}
	long := strings.Repeat("t", 2*api.MaxText)
	if merkle.Top(3, long) != sha.Sum("\x02\x01\x03"+long) {
		t.Error("Top does not hash a long string as it is")
	}
}

// Promise 11.1, Root: lists of the lengths about which the shape of the tree changes; the roots were worked out by another program.
func TestRoot(t *testing.T) {
	for _, c := range []struct {
		count int
		want  string
	}{
		{0, "99be5efb88ca2013bd8e4eb035fd42d5245468fe9afa70d8ba9c1c419a48c4e8"},
		{1, "642699b59b7169203b0f32e4bf950e82d41babf8ab2cfc7235d863a7b47d3c9f"},
		{2, "5a12f60b48f6347f65ecbe8e445b3fd30993258627d4ed425da8342404cf445b"},
		{3, "6d3499f975d7d079d4a82919632d717d700a825c1413de72805f1ebf66f25b04"},
		{4, "12c0e4624a6cfbf45ba47806aaea5f4fc6df55324b9358d60c2b8b5d809f4714"},
		{5, "34b79f8d6bc26e83ab31733dab371741bfed753122624685f34aa53345cbbc44"},
		{6, "29d9405f8c966ae699c7ec05abd9e075ae8cea6d45f5290d016eede4939b23e7"},
		{7, "ebbf3011c5a83e030ea31953d862a32deac3dc5d78ef669a01e9257ffa0fd0ae"},
		{8, "345c307e9cc131ab756b866095e1effe0ba061c5afdfc2d2aca0f2805087abb2"},
		{9, "9e0bf992f73e93834f483ac6bc718933f9dce9671634620f893a4ba0659c7a2f"},
		{15, "ca156c4603b5827a88a494151b3678ff8ef3f89813ae277ff1c6e28070600f9c"},
		{16, "9397daae804a237b9b28aa8d6bd084c6ef9d7e3f306c722d75540fc182faa8cf"},
		{17, "47d44d010ab215386d49608b30ff3c84b65b484af9164f837cbdd7092528c962"},
		{255, "82cda5237fe0e7ab46ce3849f4ff98e535991c34e78f9067bd803b2d66c9ede0"},
		{256, "f321a23e9e49b40ed04179eb2af1be1f562199f391e37f8dddcde5ca9e74598f"},
		{257, "03cb835862c661e3e0508904258ef672b162c5be98a358aabca37728c6d63044"},
		{1000, "20f1d04f078856b03c761dc30d62b41a9b118208167aeaaf41b372ff720dd7cc"},
		{65537, "d4097a6864b0130acf63f7ca5037ebdc9aad8e7f069619c2d108e87c954f0dcb"},
	} {
		mustHash(t, fmt.Sprintf("Root of %d pairs", c.count), merkle.Root(numbered(c.count)), c.want)
	}
}

// Promise 11.1, Root: all lengths up to 299; the result was worked out by another program.
func TestManyRoots(t *testing.T) {
	l := numbered(300)
	var all strings.Builder
	for count := range 300 {
		all.WriteString(merkle.Root(l[:count]))
	}
	mustHash(t, "the hash of all roots", sha.Sum(all.String()), "bd02e72727a4cd313ac56ef6bf303fbdd6b7868c20e352fd7c3e25f7f391cdfe")
}

// byLevels works a root out from below: on each level neighbours are joined, and one that is left alone goes up as it is.
func byLevels(l []api.Pair) string {
	level := []string{}
	for _, p := range l {
		level = append(level, merkle.Leaf(p))
	}
	for len(level) > 1 {
		var above []string
		for two := range slices.Chunk(level, 2) {
			if len(two) == 2 {
				two = []string{merkle.Node(two[0], two[1])}
			}
			above = append(above, two[0])
		}
		level = above
	}
	return merkle.Top(len(l), strings.Join(level, ""))
}

// Promise 11.1, Root: the tree has the same hash when it is built from below.
func TestRootByLevels(t *testing.T) {
	l := numbered(550)
	for count := range l {
		if merkle.Root(l[:count]) != byLevels(l[:count]) {
			t.Errorf("the root of %d pairs is not that of the levels", count)
		}
	}
}

// Promise 11.1, Root: written out for small trees, so that the order of the hashes in a node and the number in the top are seen.
func TestSmallTrees(t *testing.T) {
	l := numbered(7)
	var h []string
	for _, p := range l {
		h = append(h, merkle.Leaf(p))
	}
	two, four := merkle.Node(h[0], h[1]), merkle.Node(merkle.Node(h[0], h[1]), merkle.Node(h[2], h[3]))
	for count, tree := range []string{
		"",
		h[0],
		two,
		merkle.Node(two, h[2]),
		four,
		merkle.Node(four, h[4]),
		merkle.Node(four, merkle.Node(h[4], h[5])),
		merkle.Node(four, merkle.Node(merkle.Node(h[4], h[5]), h[6])),
	} {
		if merkle.Root(l[:count]) != merkle.Top(count, tree) {
			t.Errorf("the root of %d pairs is not the top of its tree", count)
		}
	}
}

// Promise 11.1, Root: the order is that of the list, which need not be sorted; each order has a root of its own.
func TestOrderCounts(t *testing.T) {
	seen := map[string][]api.Pair{}
	var permute func(l []api.Pair, from int)
	permute = func(l []api.Pair, from int) {
		if from == len(l) {
			root := merkle.Root(l)
			if other := seen[root]; other != nil {
				t.Errorf("%q and %q have one root", other, l)
			}
			seen[root] = slices.Clone(l)
			return
		}
		for i := from; i < len(l); i++ {
			l[from], l[i] = l[i], l[from]
			permute(l, from+1)
			l[from], l[i] = l[i], l[from]
		}
	}
	permute(numbered(5), 0)
	if len(seen) != 120 {
		t.Errorf("%d orders have %d roots", 120, len(seen))
	}
}

// Promise 11.1, Root: pairs that occur several times count each time, and lists that differ in any way have different roots.
func TestDifferentListsHaveDifferentRoots(t *testing.T) {
	texts := []string{"", "a", "b", "ab"}
	var all []api.Pair
	for _, key := range texts {
		for _, value := range texts {
			all = append(all, api.Pair{Key: key, Value: value})
		}
	}
	seen := map[string]int{}
	count := 0
	var grow func(l []api.Pair)
	grow = func(l []api.Pair) {
		seen[merkle.Root(l)]++
		count++
		if len(l) == 3 {
			return
		}
		for _, p := range all {
			grow(append(slices.Clone(l), p))
		}
	}
	grow(nil)
	if len(seen) != count {
		t.Errorf("%d lists have %d roots", count, len(seen))
	}
	same := slices.Repeat(numbered(1), 40)
	for n := range same {
		if merkle.Root(same[:n]) == merkle.Root(same[:n+1]) {
			t.Errorf("one pair %d times has the root of the same pair %d times", n, n+1)
		}
	}
}

// Promise 11.1, Root: each pair of a list counts, in its key and in its value, wherever it stands.
func TestEachPairCounts(t *testing.T) {
	for _, count := range []int{1, 2, 3, 8, 13, 64, 65} {
		seen := map[string]bool{merkle.Root(numbered(count)): true}
		for i := range count {
			l := numbered(count)
			l[i].Key += "\x00"
			seen[merkle.Root(l)] = true
			l = numbered(count)
			l[i].Value += "\x00"
			seen[merkle.Root(l)] = true
			seen[merkle.Root(slices.Delete(numbered(count), i, i+1))] = true
		}
		if len(seen) != 1+3*count {
			t.Errorf("%d pairs: %d roots; want %d", count, len(seen), 1+3*count)
		}
	}
}

// Promise 11.1, Root: a pair with a text that is too long is a pair of the list, with the leaf that Leaf gives it.
func TestRootWithLongTexts(t *testing.T) {
	long := api.Pair{Key: "k", Value: strings.Repeat("v", api.MaxText+1)}
	for _, count := range []int{1, 2, 3, 5} {
		for i := range count {
			l := numbered(count)
			l[i] = long
			if merkle.Root(l) != byLevels(l) {
				t.Errorf("%d pairs with a long one at %d have another root", count, i)
			}
		}
	}
}

// Promise 11.1: the first byte keeps leaves, nodes and tops of the same bytes apart.
func TestKindsAreApart(t *testing.T) {
	// A leaf of two empty texts hashes a 0 and the bytes 0 and 0; a node and a top can be given the same two bytes.
	hashes := []string{merkle.Leaf(api.Pair{}), merkle.Node("\x00", "\x00"), merkle.Top(0, "\x00")}
	for i, want := range []string{"\x00\x00\x00", "\x01\x00\x00", "\x02\x00\x00"} {
		if hashes[i] != sha.Sum(want) {
			t.Errorf("kind %d is not the hash of %q", i, want)
		}
	}
	one := numbered(1)
	if merkle.Root(one) == merkle.Leaf(one[0]) {
		t.Error("the root of one pair is its leaf")
	}
	two := numbered(2)
	if merkle.Root(two) == merkle.Node(merkle.Leaf(two[0]), merkle.Leaf(two[1])) {
		t.Error("the root of two pairs is their node")
	}
}

// Rule R3: nil and an empty list are the same.
func TestNilListIsEmptyList(t *testing.T) {
	for _, l := range [][]api.Pair{nil, {}, numbered(3)[:0]} {
		if merkle.Root(l) != merkle.Top(0, "") {
			t.Error("an empty list has another root")
		}
	}
}

// Rules R4 and R5: the list is not changed, what stands behind its end does not count, and the same list has the same root again.
func TestCallsAreAlone(t *testing.T) {
	l := numbered(20)
	once := merkle.Root(l[:13])
	merkle.Root(l[2:])
	l[13].Key = "another"
	if merkle.Root(l[:13]) != once || merkle.Root(slices.Clone(l[:13])) != once {
		t.Error("the same list has another root the second time")
	}
	l[13].Key = "key/13"
	if !slices.Equal(l, numbered(20)) {
		t.Error("the list was changed")
	}
}

// Promise 11.1 and rule R1: whatever the texts and the numbers are, the calls end and answer what the promise's words give.
func FuzzAgainstTheWords(f *testing.F) {
	f.Add("", "", 0)
	f.Add("a,b,c", "1", 5)
	f.Add("\x00\xff,,", "\n", -1)
	f.Add("k", strings.Repeat("v", api.MaxText+1), api.MaxNum+1)
	f.Fuzz(func(t *testing.T, keys, value string, n int) {
		var l []api.Pair
		for key := range strings.SplitSeq(keys, ",") {
			l = append(l, api.Pair{Key: key, Value: value})
		}
		if got := merkle.Root(l); len(got) != 32 || got != byLevels(l) {
			t.Errorf("Root(%q) = %x; want %x", l, got, byLevels(l))
		}
		if got := merkle.Node(keys, value); got != sha.Sum("\x01"+keys+value) {
			t.Errorf("Node(%q, %q) = %x", keys, value, got)
		}
		if out := n < 0 || n > api.MaxNum; out != (merkle.Top(n, keys) == sha.Sum("\x02"+keys)) {
			t.Errorf("Top(%d, %q): out of range is %v", n, keys, out)
		}
		if s := merkle.Split(n); n < 2 && s != 0 || n >= 2 && (s < 1 || s&(s-1) != 0 || s >= n || n-s > s) {
			t.Errorf("Split(%d) = %d", n, s)
		}
	})
}
