package merkle

import "testing"

// Promise 11.1, the tree hash: the first Split(n) elements are the left half and the others the right one, in each half again.
func TestShape(t *testing.T) {
	leaf := func(r rune) string { return string(r) }
	node := func(a, b string) string { return "(" + a + b + ")" }
	for letters, want := range map[string]string{
		"":            "",
		"a":           "a",
		"ab":          "(ab)",
		"abc":         "((ab)c)",
		"abcd":        "((ab)(cd))",
		"abcde":       "(((ab)(cd))e)",
		"abcdef":      "(((ab)(cd))(ef))",
		"abcdefg":     "(((ab)(cd))((ef)g))",
		"abcdefgh":    "(((ab)(cd))((ef)(gh)))",
		"abcdefghi":   "((((ab)(cd))((ef)(gh)))i)",
		"abcdefghijk": "((((ab)(cd))((ef)(gh)))((ij)k))",
	} {
		if got := combine([]rune(letters), leaf, node); got != want {
			t.Errorf("the tree of %q is %s; want %s", letters, got, want)
		}
	}
}

// Promise 11.1, the tree hash: each element has one leaf, and n elements have n-1 nodes and as few levels as can be.
func TestLeavesNodesAndLevels(t *testing.T) {
	for count := 1; count < 600; count++ {
		leaves, nodes := 0, 0
		levels := combine(make([]bool, count), func(bool) int {
			leaves++
			return 0
		}, func(a, b int) int {
			nodes++
			return 1 + max(a, b)
		})
		if leaves != count || nodes != count-1 || 1<<levels < count || 1<<levels >= 2*count {
			t.Errorf("%d elements have %d leaves, %d nodes and %d levels", count, leaves, nodes, levels)
		}
	}
}
