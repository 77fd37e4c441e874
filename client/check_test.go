package client_test

import (
	"fmt"
	"math"
	"strings"
	"testing"

	"footbridge/api"
	"footbridge/client"
	"footbridge/journal"
	"footbridge/merkle"
	"footbridge/proof"
)

// states tells what the chain left had at the heights 1, 2 and so on. No two of them have a proof in common.
func states() [][]api.Pair {
	return [][]api.Pair{
		nil,
		list("a", "1"),
		list("a", "2", "b", "5"),
		list("a", "1", "c", ""),
		list("", "0", "a", "1", "b", "2", "c", "3", "d/%", "4"),
	}
}

// knowing returns a journal whose client-0 has seen all states.
func knowing(t *testing.T) *journal.Journal {
	t.Helper()
	j := ofLeft(t)
	for i, l := range states() {
		mustUpdate(t, j, "client-0", head(t, i+1, 10*i, merkle.Root(l)))
	}
	return j
}

// Promise 14.4: each statement about each height is confirmed if it is true and its proof is of this key and this height, and is ErrProof otherwise.
func TestHasAndLacks(t *testing.T) {
	j := knowing(t)
	keys := []string{"", "a", "aa", "b", "c", "d/%", "e"}
	values := []string{"", "0", "1", "2", "3", "4"}
	for proved, l := range states() {
		for _, key := range keys {
			where := at(t, 0, l, key)
			for told := range states() {
				where.Height = told + 1
				mustConfirm(t, j, where, key, keys, values, told == proved)
			}
		}
	}
}

// mustConfirm holds what a proof of a key confirms against the state of its height; if it was not built of that state, that is nothing.
func mustConfirm(t *testing.T, j *journal.Journal, where api.At, proved string, keys, values []string, own bool) {
	t.Helper()
	state := map[string]string{}
	for _, p := range states()[where.Height-1] {
		state[p.Key] = p.Value
	}
	for _, key := range keys {
		was, there := state[key]
		for _, value := range values {
			want := api.ErrProof
			if own && key == proved && there && value == was {
				want = api.OK
			}
			if got := client.Has(j, "client-0", where, api.Pair{Key: key, Value: value}); got != want {
				t.Errorf("height %d, proof of %q (%t): Has(%q, %q) = %d; want %d", where.Height, proved, own, key, value, got, want)
			}
		}
		if _, proves := state[proved]; own && !proves && !there && key != proved {
			continue // both keys may stand between the same neighbours
		}
		want := api.ErrProof
		if own && key == proved && !there {
			want = api.OK
		}
		if got := client.Lacks(j, "client-0", where, key); got != want {
			t.Errorf("height %d, proof of %q (%t): Lacks(%q) = %d; want %d", where.Height, proved, own, key, got, want)
		}
	}
}

// Promise 14.4: a proof that two neighbours stand next to each other is one for all keys between them, and for no other.
func TestLacksBetween(t *testing.T) {
	j := knowing(t)
	where := at(t, 5, states()[4], "bb")
	for _, c := range []struct {
		key  string
		want api.Errno
	}{
		{"bb", api.OK}, {"b\x00", api.OK}, {"b" + long(), api.OK}, {"bzz", api.OK},
		{"b", api.ErrProof}, {"c", api.ErrProof}, {"a", api.ErrProof}, {"", api.ErrProof}, {"cc", api.ErrProof},
	} {
		if got := client.Lacks(j, "client-0", where, c.key); got != c.want {
			t.Errorf("Lacks(%.20q) = %d; want %d", c.key, got, c.want)
		}
	}
}

// Promise 14.4, ErrHeight: a height of which no header was accepted, ahead of a wrong proof.
func TestCheckHeights(t *testing.T) {
	j := knowing(t)
	l := states()[1]
	for _, height := range []int{math.MinInt, -2, -1, 0, 6, 7, api.MaxCount, api.MaxCount + 1, 99999999999999, api.MaxNum, math.MaxInt} {
		for _, where := range []api.At{at(t, height, l, "a"), at(t, height, l, "b"), {Height: height}, {Height: height, Proof: "x"}} {
			if err := client.Has(j, "client-0", where, l[0]); err != api.ErrHeight {
				t.Errorf("Has at %d = %d; want ErrHeight", height, err)
			}
			if err := client.Lacks(j, "client-0", where, "b"); err != api.ErrHeight {
				t.Errorf("Lacks at %d = %d; want ErrHeight", height, err)
			}
		}
	}
}

// Promise 14.4, ErrProof: strings that are no encoded proofs, whatever error proof.Read has for them.
func TestNoProof(t *testing.T) {
	j := knowing(t)
	good, none := at(t, 2, states()[1], "a").Proof, at(t, 2, states()[1], "b").Proof
	wrong := []string{
		"", "x", "\x08", "\x01\x01", good + "\x00", none + "x", good + good,
		"\x01\x01\x00\x01\x02\x00\x01\x01\x00", "\x07\x20\x00\x00\x00\x00\x00\x01\x00\x00\x00\x00",
		"\x01\x01\x00\x00\x01\x01\x03\x01\x00\x01" + long(), "\x01\x01\x00\x00\x01\x03", "\x01\x01\x00\x00\x00\x01\x03",
	}
	for i := range good {
		wrong = append(wrong, good[:i])
	}
	for i := range none {
		wrong = append(wrong, none[:i])
	}
	// At height 1 there was no pair, so that the zero proof, which is read beside an error, would prove that any key is absent.
	for _, height := range []int{1, 2} {
		for _, s := range wrong {
			where := api.At{Height: height, Proof: s}
			if err := client.Has(j, "client-0", where, list("a", "1")[0]); err != api.ErrProof {
				t.Errorf("Has at %d with %.60q = %d; want ErrProof", height, s, err)
			}
			if err := client.Lacks(j, "client-0", where, "b"); err != api.ErrProof {
				t.Errorf("Lacks at %d with %.60q = %d; want ErrProof", height, s, err)
			}
		}
	}
}

// Promise 14.4: a proof of which any one byte is changed confirms nothing any more.
func TestChangedProof(t *testing.T) {
	j := knowing(t)
	l := states()[4]
	for _, key := range []string{"", "a", "c", "d/%", "aa", "e"} {
		where := at(t, 5, l, key)
		x := proof.Build(l, key)
		var p api.Pair
		if x.There {
			p = l[x.At]
		}
		for i := range where.Proof {
			for _, change := range []byte{1, 128, 255} {
				turned := []byte(where.Proof)
				turned[i] ^= change
				other := api.At{Height: 5, Proof: string(turned)}
				if has, lacks := client.Has(j, "client-0", other, p), client.Lacks(j, "client-0", other, key); has != api.ErrProof || lacks != api.ErrProof {
					t.Errorf("the proof of %q with byte %d changed: Has = %d, Lacks = %d", key, i, has, lacks)
				}
			}
		}
	}
}

// Promise 14.4: a root that is none of a list of pairs, as any signed header may tell, confirms nothing.
func TestStrangeRoots(t *testing.T) {
	j := ofLeft(t)
	l := list("a", "1", "c", "3")
	good := merkle.Root(l)
	for i, root := range []string{"", "r", good[:31], good + "\x00", "x" + good[1:], strings.Repeat("\x00", 32), merkle.Leaf(l[0]), merkle.Node(merkle.Leaf(l[0]), merkle.Leaf(l[1]))} {
		mustUpdate(t, j, "client-0", head(t, i+1, 0, root))
		if err := client.Has(j, "client-0", at(t, i+1, l, "a"), l[0]); err != api.ErrProof {
			t.Errorf("Has under the root %q = %d; want ErrProof", root, err)
		}
		if err := client.Lacks(j, "client-0", at(t, i+1, l, "b"), "b"); err != api.ErrProof {
			t.Errorf("Lacks under the root %q = %d; want ErrProof", root, err)
		}
		if err := client.Lacks(j, "client-0", at(t, i+1, nil, "b"), "b"); err != api.ErrProof {
			t.Errorf("Lacks with no pairs under the root %q = %d; want ErrProof", root, err)
		}
	}
}

// Rule R5 and the rules of answers: checks change nothing, and answer the same each time.
func TestChecksChangeNothing(t *testing.T) {
	j := knowing(t)
	mustNotChange(t, "checks", j, func() {
		first := fmt.Sprintf("%q", checks(t, j))
		for range 3 {
			if again := fmt.Sprintf("%q", checks(t, j)); again != first {
				t.Errorf("first %s, then %s", first, again)
			}
		}
	})
}

// checks calls everything that only looks, and returns the answers.
func checks(t *testing.T, j *journal.Journal) []any {
	t.Helper()
	var all []any
	for _, id := range []string{"client-0", "client-1"} {
		c, err := client.Get(j, id)
		all = append(all, c, err)
		for i, l := range states() {
			seen, err := client.See(j, id, i+1)
			all = append(all, seen, err, client.Has(j, id, at(t, i+1, l, "a"), api.Pair{Key: "a", Value: "1"}), client.Lacks(j, id, at(t, i+1, l, "b"), "b"))
		}
	}
	return all
}
