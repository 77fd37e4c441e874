package proof_test

import (
	"math"
	"slices"
	"strings"
	"testing"

	"footbridge/api"
	"footbridge/merkle"
	"footbridge/proof"
	"footbridge/wire"
)

// num encodes a number that is in range.
func num(n int) string {
	s, _ := wire.Num(n)
	return s
}

// Promise 12.4: proofs and their bytes, both ways.
func TestBytes(t *testing.T) {
	full := strings.Repeat("v", api.MaxText)
	many := slices.Repeat([]string{"h"}, api.MaxList)
	for _, c := range []struct {
		x    api.Proof
		want string
	}{
		{api.Proof{}, "\x00\x00\x00\x00\x00"},
		{api.Proof{N: 1}, "\x01\x01\x00\x00\x00\x00"},
		{api.Proof{At: 300}, "\x00\x02\x01\x2c\x00\x00\x00"},
		{api.Proof{There: true}, "\x00\x00\x01\x01\x00\x00"},
		{api.Proof{N: api.MaxNum, At: api.MaxNum}, "\x07\x20\x00\x00\x00\x00\x00\x00\x07\x20\x00\x00\x00\x00\x00\x00\x00\x00\x00"},
		{api.Proof{N: 1, There: true, Paths: [][]string{nil}}, "\x01\x01\x00\x01\x01\x00\x01\x01\x00"},
		{api.Proof{N: 2, At: 1, There: true, Paths: [][]string{{"xyz"}}}, "\x01\x02\x01\x01\x01\x01\x00\x01\x01\x01\x01\x01\x03xyz"},
		{api.Proof{N: 5, At: 5, Near: []api.Pair{{Key: "k", Value: "vw"}}, Paths: [][]string{{"a", "", "b"}}},
			"\x01\x05\x01\x05\x00\x01\x01\x01\x01k\x01\x02vw\x01\x01\x01\x03\x01\x01a\x00\x01\x01b"},
		{api.Proof{N: 3, At: 1, Near: []api.Pair{{Key: "a"}, {Value: "\x00"}}, Paths: [][]string{{"p"}, {"q", "r"}}},
			"\x01\x03\x01\x01\x00\x01\x02\x01\x01a\x00\x00\x01\x01\x00\x01\x02\x01\x01\x01\x01p\x01\x02\x01\x01q\x01\x01r"},
		// The encoding does not ask whether a proof can be true.
		{api.Proof{N: 1, At: 9, There: true, Paths: [][]string{nil, nil}}, "\x01\x01\x01\x09\x01\x01\x00\x01\x02\x00\x00"},
		{api.Proof{Near: []api.Pair{{}, {}}}, "\x00\x00\x00\x01\x02\x00\x00\x00\x00\x00"},
		{api.Proof{Near: []api.Pair{{Key: full, Value: full}}}, "\x00\x00\x00\x01\x01\x03\x01\x00\x00" + full + "\x03\x01\x00\x00" + full + "\x00"},
		{api.Proof{Paths: [][]string{many, {full}}}, "\x00\x00\x00\x00\x01\x02\x02\x01\x00" + strings.Repeat("\x01\x01h", 256) + "\x01\x01\x03\x01\x00\x00" + full},
	} {
		if got, err := proof.Put(c.x); got != c.want || err != api.OK {
			t.Errorf("Put(%.100v) = %.100q, %d; want %.100q", c.x, got, err, c.want)
		}
		if got, err := proof.Read(c.want); !same(got, c.x) || err != api.OK {
			t.Errorf("Read(%.100q) = %.100v, %d; want %.100v", c.want, got, err, c.x)
		}
	}
}

// Promise 12.4: the example's two proofs, as another program encodes them.
func TestExampleBytes(t *testing.T) {
	l := []api.Pair{{Key: "a", Value: "1"}, {Key: "c", Value: "2"}}
	a, c := merkle.Leaf(l[0]), merkle.Leaf(l[1])
	if a[:4] != "\xce\x78\x2e\xe0" || c[:4] != "\x88\x8f\xf8\xea" {
		t.Fatalf("the leaves are %x and %x", a, c)
	}
	for key, want := range map[string]string{
		"b": "\x01\x02\x01\x01\x00\x01\x02\x01\x01a\x01\x011\x01\x01c\x01\x012\x01\x02\x01\x01\x01\x20" + c + "\x01\x01\x01\x20" + a,
		"c": "\x01\x02\x01\x01\x01\x01\x00\x01\x01\x01\x01\x01\x20" + a,
	} {
		if got := mustPut(t, proof.Build(l, key)); got != want {
			t.Errorf("the proof for %s is %q; want %q", key, got, want)
		}
	}
}

// Promise 12.4, Put: each error, and the first one of several.
func TestPutErrors(t *testing.T) {
	long := strings.Repeat("v", api.MaxText+1)
	wide := make([]string, api.MaxList+1)
	over := api.MaxNum + 1
	for _, c := range []struct {
		what string
		x    api.Proof
		want api.Errno
	}{
		{"There beside a pair", api.Proof{There: true, Near: []api.Pair{{}}}, api.ErrForm},
		{"There beside two pairs and a path", api.Proof{N: 3, At: 1, There: true, Near: []api.Pair{{Key: "a"}, {Key: "b"}}, Paths: [][]string{{"p"}}}, api.ErrForm},
		{"N below 0", api.Proof{N: -1}, api.ErrRange},
		{"N at the least", api.Proof{N: math.MinInt}, api.ErrRange},
		{"N too great", api.Proof{N: over}, api.ErrRange},
		{"At below 0", api.Proof{At: -1}, api.ErrRange},
		{"At too great", api.Proof{At: over}, api.ErrRange},
		{"At at the greatest", api.Proof{N: 5, At: math.MaxInt, There: true, Paths: [][]string{nil}}, api.ErrRange},
		{"a long key", api.Proof{Near: []api.Pair{{Key: long}}}, api.ErrLong},
		{"a long value", api.Proof{Near: []api.Pair{{Value: long}}}, api.ErrLong},
		{"a long key behind", api.Proof{Near: []api.Pair{{}, {Key: long}}}, api.ErrLong},
		{"a long value behind", api.Proof{Near: []api.Pair{{}, {Value: long}}}, api.ErrLong},
		{"a long path", api.Proof{Paths: [][]string{wide}}, api.ErrLong},
		{"a long second path", api.Proof{There: true, Paths: [][]string{nil, wide}}, api.ErrLong},
		{"a long hash", api.Proof{There: true, Paths: [][]string{{"", long}}}, api.ErrLong},
		{"a long hash behind", api.Proof{Paths: [][]string{{}, {long}}}, api.ErrLong},
		{"There beside a pair, with all others", api.Proof{N: -1, At: -1, There: true, Near: []api.Pair{{Key: long}}, Paths: [][]string{wide}}, api.ErrForm},
		{"N ahead of a long key", api.Proof{N: -1, Near: []api.Pair{{Key: long}}}, api.ErrRange},
		{"At ahead of a long path", api.Proof{At: over, Paths: [][]string{wide}}, api.ErrRange},
		{"a long value ahead of a long path", api.Proof{Near: []api.Pair{{Value: long}}, Paths: [][]string{wide}}, api.ErrLong},
	} {
		if got, err := proof.Put(c.x); got != "" || err != c.want {
			t.Errorf("%s: Put = %.100q, %d; want \"\", %d", c.what, got, err, c.want)
		}
	}
}

// Promise 12.4, Put: there are no limits of its own to pairs and paths, though Read has them.
func TestPutOfMany(t *testing.T) {
	for _, c := range []struct {
		x    api.Proof
		want string
	}{
		{api.Proof{Near: make([]api.Pair, 3)}, "\x00\x00\x00\x01\x03\x00\x00\x00\x00\x00\x00\x00"},
		{api.Proof{Paths: make([][]string, 3)}, "\x00\x00\x00\x00\x01\x03\x00\x00\x00"},
		{api.Proof{There: true, Paths: make([][]string, 300)}, "\x00\x00\x01\x01\x00\x02\x01\x2c" + strings.Repeat("\x00", 300)},
		{api.Proof{Near: make([]api.Pair, 300)}, "\x00\x00\x00\x02\x01\x2c" + strings.Repeat("\x00", 600) + "\x00"},
	} {
		if got, err := proof.Put(c.x); got != c.want || err != api.OK {
			t.Errorf("Put = %.40q, %d; want %.40q", got, err, c.want)
		}
		if got, err := proof.Read(c.want); !same(got, api.Proof{}) || err != api.ErrForm {
			t.Errorf("Read(%.40q) = %.100v, %d; want ErrForm", c.want, got, err)
		}
	}
}

// Promise 12.4, Read: each error at each place, and the first one of several.
func TestReadErrors(t *testing.T) {
	const head = "\x00\x00\x00\x00" // N, At, absent, no pairs
	const pair = "\x00\x00\x00\x01\x01"
	tooLong, tooMany := num(api.MaxText+1), num(api.MaxList+1)
	for _, c := range []struct {
		what, s string
		want    api.Errno
	}{
		{"nothing", "", api.ErrCut},
		{"N malformed", "\x08", api.ErrForm},
		{"N with a leading zero", "\x01\x00\x00\x00\x00\x00", api.ErrForm},
		{"N too great", "\x07\x20\x00\x00\x00\x00\x00\x01\x00\x00\x00\x00", api.ErrRange},
		{"At missing", "\x00", api.ErrCut},
		{"At malformed", "\x00\xff", api.ErrForm},
		{"At too great", "\x00\x07\xff\xff\xff\xff\xff\xff\xff\x00\x00\x00", api.ErrRange},
		{"the third number missing", "\x00\x00", api.ErrCut},
		{"the third number is 2", "\x00\x00\x01\x02\x00\x00", api.ErrForm},
		{"the third number is great", "\x00\x00" + num(api.MaxNum) + "\x00\x00", api.ErrForm},
		{"the third number is 2 and the fourth missing", "\x00\x00\x01\x02", api.ErrCut},
		{"the third number is 2 and the fourth too great", "\x00\x00\x01\x02\x07\x20\x00\x00\x00\x00\x00\x01", api.ErrRange},
		{"the fourth number missing", "\x00\x00\x00", api.ErrCut},
		{"three pairs", "\x00\x00\x00\x01\x03", api.ErrForm},
		{"three pairs, whole", "\x00\x00\x00\x01\x03\x00\x00\x00\x00\x00\x00\x00", api.ErrForm},
		{"very many pairs", "\x00\x00\x00" + num(api.MaxNum), api.ErrForm},
		{"there beside a pair", "\x00\x00\x01\x01\x01\x01\x00\x00\x00", api.ErrForm},
		{"there beside a pair that is cut", "\x00\x00\x01\x01\x01\x01", api.ErrForm},
		{"there beside two pairs", "\x00\x00\x01\x01\x01\x02\x00\x00\x00\x00\x00", api.ErrForm},
		{"a key missing", pair, api.ErrCut},
		{"a key cut", pair + "\x01\x02k", api.ErrCut},
		{"a key too long", pair + tooLong, api.ErrLong},
		{"a key's length malformed", pair + "\x01\x00", api.ErrForm},
		{"a value missing", pair + "\x01\x01k", api.ErrCut},
		{"a value too long", pair + "\x01\x01k" + tooLong + strings.Repeat("v", api.MaxText+1) + "\x00", api.ErrLong},
		{"the second pair missing", "\x00\x00\x00\x01\x02\x00\x00", api.ErrCut},
		{"the second pair's value malformed", "\x00\x00\x00\x01\x02\x00\x00\x00\x09", api.ErrForm},
		{"the number of paths missing", head, api.ErrCut},
		{"the number of paths missing behind a pair", pair + "\x00\x00", api.ErrCut},
		{"the number of paths malformed", head + "\x08", api.ErrForm},
		{"the number of paths too great", head + "\x07\x20\x00\x00\x00\x00\x00\x01", api.ErrRange},
		{"three paths", head + "\x01\x03", api.ErrForm},
		{"three paths, whole", head + "\x01\x03\x00\x00\x00", api.ErrForm},
		{"very many paths", head + num(api.MaxNum), api.ErrForm},
		{"three paths, malformed", head + "\x01\x03\x07\x20\x00\x00\x00\x00\x00\x01", api.ErrForm},
		{"a path missing", head + "\x01\x01", api.ErrCut},
		{"a path too long", head + "\x01\x01" + tooMany, api.ErrLong},
		{"a path's hash missing", head + "\x01\x01\x01\x02\x00", api.ErrCut},
		{"a path's hash too long", head + "\x01\x01\x01\x01" + tooLong, api.ErrLong},
		{"the second path missing", head + "\x01\x02\x00", api.ErrCut},
		{"the second path too long", head + "\x01\x02\x00" + tooMany, api.ErrLong},
		{"a byte too many", head + "\x00\x00", api.ErrForm},
		{"a byte too many behind a path", head + "\x01\x01\x00x", api.ErrForm},
		{"two proofs", head + "\x00" + head + "\x00", api.ErrForm},
	} {
		if got, err := proof.Read(c.s); !same(got, api.Proof{}) || err != c.want {
			t.Errorf("%s: Read = %.100v, %d; want the zero proof, %d", c.what, got, err, c.want)
		}
	}
}

// Promise 12.4: a proof that is built is read back as it was; cut anywhere it is ErrCut, and with anything behind it ErrForm.
func TestBuiltProofsAreReadBack(t *testing.T) {
	for _, count := range []int{0, 1, 2, 3, 7, 8, 9, 100} {
		l := numbered(count)
		for n := range 2*count + 1 {
			x := proof.Build(l, keyOf(n))
			s := mustPut(t, x)
			y, err := proof.Read(s)
			if !same(x, y) || err != api.OK {
				t.Fatalf("Read = %+v, %d; want %+v", y, err, x)
			}
			if x.There && !proof.Has(merkle.Root(l), l[x.At], y) || !x.There && !proof.Lacks(merkle.Root(l), keyOf(n), y) {
				t.Errorf("%d pairs: the proof for %d that was read back does not hold", count, n)
			}
			for i := range s {
				if got, err := proof.Read(s[:i]); !same(got, api.Proof{}) || err != api.ErrCut {
					t.Fatalf("Read of the first %d bytes = %+v, %d; want ErrCut", i, got, err)
				}
			}
			for _, more := range []string{"\x00", "x", s} {
				if got, err := proof.Read(s + more); !same(got, api.Proof{}) || err != api.ErrForm {
					t.Fatalf("Read with %q behind = %+v, %d; want ErrForm", more, got, err)
				}
			}
		}
	}
}

// Rule R3: nil and empty lists have the same bytes.
func TestEmptyListsAreNil(t *testing.T) {
	a := mustPut(t, api.Proof{N: 1, There: true, Paths: [][]string{nil}})
	b := mustPut(t, api.Proof{N: 1, There: true, Near: []api.Pair{}, Paths: [][]string{{}}})
	if a != b || !proof.Has(merkle.Root(numbered(1)), numbered(1)[0], api.Proof{N: 1, There: true, Near: []api.Pair{}, Paths: [][]string{{}}}) {
		t.Error("an empty list is not what nil is")
	}
}

// Rule R4: arguments are not changed.
func TestArgumentsStay(t *testing.T) {
	l := numbered(9)
	for n := range 19 {
		x := proof.Build(l, keyOf(n))
		kept := clone(x)
		mustPut(t, x)
		proof.Has(merkle.Root(l), l[0], x)
		proof.Lacks(merkle.Root(l), keyOf(n), x)
		if !same(x, kept) {
			t.Errorf("the proof for %d was changed", n)
		}
	}
}

// Promise 12.4 and rule R1: whatever is read, the call ends, and a proof that is read has these bytes and no others.
func FuzzRead(f *testing.F) {
	f.Add("")
	f.Add("\x00\x00\x00\x00\x00")
	f.Add("\x01\x02\x01\x01\x01\x01\x00\x01\x01\x01\x01\x01\x03xyz")
	f.Add("\x01\x03\x01\x01\x00\x01\x02\x01\x01a\x00\x00\x01\x01\x00\x01\x02\x01\x01\x01\x01p\x01\x02\x01\x01q\x01\x01r")
	f.Add("\x00\x00\x01\x02\x00\x00")
	f.Fuzz(func(t *testing.T, s string) {
		x, err := proof.Read(s)
		if err != api.OK {
			if !same(x, api.Proof{}) {
				t.Errorf("Read(%q) = %+v beside the error %d", s, x, err)
			}
			return
		}
		if got, err := proof.Put(x); got != s || err != api.OK {
			t.Errorf("Put(Read(%q)) = %q, %d", s, got, err)
		}
		proof.Has(merkle.Root(nil), api.Pair{}, x)
		if proof.Lacks(merkle.Root(nil), "", x) != same(x, api.Proof{}) {
			t.Errorf("%+v: whether it proves that a tree without pairs is one", x)
		}
	})
}

// Promises 12.2 to 12.4 and rule R1: any list has a proof for any key, or none; the proof holds, before and after it was encoded.
func FuzzBuild(f *testing.F) {
	f.Add("", "")
	f.Add("a,c", "b")
	f.Add("a,b,c,d,e", "c")
	f.Add("b,a", "a")
	f.Add(",\x00,\xff", "\x80")
	f.Fuzz(func(t *testing.T, keys, key string) {
		if len(keys)+len(key) > api.MaxText {
			t.Skip("a text that is too long has no encoding")
		}
		var l []api.Pair
		for k := range strings.SplitSeq(keys, ",") {
			l = append(l, api.Pair{Key: k, Value: k + key})
		}
		x := proof.Build(l, key)
		for i := 1; i < len(l); i++ {
			if l[i].Key <= l[i-1].Key {
				if !same(x, api.Proof{}) {
					t.Errorf("Build(%q) = %+v; want the zero proof", keys, x)
				}
				return
			}
		}
		y, err := proof.Read(mustPut(t, x))
		if err != api.OK || !same(x, y) {
			t.Fatalf("the proof %+v is read back as %+v, %d", x, y, err)
		}
		there := slices.ContainsFunc(l, func(p api.Pair) bool { return p.Key == key })
		root, p := merkle.Root(l), api.Pair{Key: key, Value: key + key}
		if proof.Has(root, p, y) != there || proof.Lacks(root, key, y) == there {
			t.Errorf("%q: the proof for %q does not hold: %+v", keys, key, y)
		}
	})
}
