package client_test

import (
	"fmt"
	"slices"
	"strings"
	"testing"

	"footbridge/api"
	"footbridge/client"
	"footbridge/header"
	"footbridge/journal"
	"footbridge/merkle"
	"footbridge/pairs"
	"footbridge/proof"
)

// long is a text that has no encoding; full is the longest that has one, but no room for anything beside it in a value.
func long() string { return strings.Repeat("l", api.MaxText+1) }
func full() string { return strings.Repeat("f", api.MaxText) }

// over returns a journal with keys and values, given one after the other.
func over(texts ...string) *journal.Journal {
	s := pairs.New()
	for i := 0; i < len(texts); i += 2 {
		s.Set(texts[i], texts[i+1])
	}
	return journal.New(s)
}

// list returns pairs of keys and values, given one after the other.
func list(texts ...string) []api.Pair {
	var l []api.Pair
	for i := 0; i < len(texts); i += 2 {
		l = append(l, api.Pair{Key: texts[i], Value: texts[i+1]})
	}
	return l
}

// show tells pairs in a failure's message, without the rest of long ones.
func show(l []api.Pair) string {
	var b strings.Builder
	for _, p := range l {
		fmt.Fprintf(&b, "[%.60q %.60q]", p.Key, p.Value)
	}
	return b.String()
}

// told is a client with its long texts cut.
func told(c api.Client) string {
	return fmt.Sprintf("{%.40q %.40q %d %t}", c.Chain, c.Key, c.Height, c.Frozen)
}

// mustHold holds everything that is stored against what should be, in the order of the keys.
func mustHold(t *testing.T, j *journal.Journal, texts ...string) {
	t.Helper()
	if got, want := j.List(), list(texts...); !slices.Equal(got, want) {
		t.Errorf("stored: %s\nwant: %s", show(got), show(want))
	}
}

// mustNotChange does something and holds what is stored, and how many levels are open, against what was there before.
func mustNotChange(t *testing.T, what string, j *journal.Journal, do func()) {
	t.Helper()
	before, depth := j.List(), j.Depth()
	do()
	if after := j.List(); !slices.Equal(after, before) || j.Depth() != depth {
		t.Errorf("%s: stored before, at depth %d: %s\nand after, at depth %d: %s", what, depth, show(before), j.Depth(), show(after))
	}
}

func mustNew(t *testing.T, j *journal.Journal, chain, key, want string) {
	t.Helper()
	if id, err := client.New(j, chain, key); id != want || err != api.OK {
		t.Fatalf("New(%.40q, %.40q) = %q, %d; want %q", chain, key, id, err, want)
	}
}

func mustGet(t *testing.T, j *journal.Journal, id string, want api.Client) {
	t.Helper()
	if c, err := client.Get(j, id); c != want || err != api.OK {
		t.Errorf("Get(%.40q) = %s, %d; want %s", id, told(c), err, told(want))
	}
}

func mustSee(t *testing.T, j *journal.Journal, id string, height int, want api.Seen) {
	t.Helper()
	if seen, err := client.See(j, id, height); seen != want || err != api.OK {
		t.Errorf("See(%.40q, %d) = {%d %.40q}, %d; want {%d %.40q}", id, height, seen.Time, seen.Root, err, want.Time, want.Root)
	}
}

func mustNotSee(t *testing.T, j *journal.Journal, id string, height int, want api.Errno) {
	t.Helper()
	if seen, err := client.See(j, id, height); seen != (api.Seen{}) || err != want {
		t.Errorf("See(%.40q, %d) = {%d %.40q}, %d; want the zero Seen, %d", id, height, seen.Time, seen.Root, err, want)
	}
}

// sign encodes a header that is signed with the key.
func sign(t *testing.T, key string, h api.Header) string {
	t.Helper()
	signed, err := header.Sign(key, h)
	if err != api.OK {
		t.Fatalf("Sign: error %d", err)
	}
	raw, err := header.Put(signed)
	if err != api.OK {
		t.Fatalf("Put: error %d", err)
	}
	return raw
}

// head encodes a header of the chain left, signed with its key k.
func head(t *testing.T, height, time int, root string) string {
	t.Helper()
	return sign(t, "k", api.Header{Chain: "left", Height: height, Time: time, Root: root})
}

func mustUpdate(t *testing.T, j *journal.Journal, id, raw string) {
	t.Helper()
	if err := client.Update(j, id, raw); err != api.OK {
		t.Fatalf("Update(%q): error %d", id, err)
	}
}

// mustReject updates a client and wants an error, and nothing changed.
func mustReject(t *testing.T, what string, j *journal.Journal, id, raw string, want api.Errno) {
	t.Helper()
	mustNotChange(t, what, j, func() {
		t.Helper()
		if err := client.Update(j, id, raw); err != want {
			t.Errorf("%s: Update(%.40q, %.60q) = %d; want %d", what, id, raw, err, want)
		}
	})
}

// ofLeft returns a journal with the client client-0 of the chain left, whose key is k.
func ofLeft(t *testing.T) *journal.Journal {
	t.Helper()
	j := journal.New(nil)
	mustNew(t, j, "left", "k", "client-0")
	return j
}

// at returns the proof for a key and pairs, to be held against the header of a height.
func at(t *testing.T, height int, l []api.Pair, key string) api.At {
	t.Helper()
	s, err := proof.Put(proof.Build(l, key))
	if err != api.OK {
		t.Fatalf("Put: error %d", err)
	}
	return api.At{Height: height, Proof: s}
}

// Promises 14.1 to 14.4, from end to end: what the other chain has told is believed, and nothing else.
func TestWhole(t *testing.T) {
	j := ofLeft(t)
	one, two := list("a", "1", "c", "3"), list("a", "2", "b", "1", "c", "3")
	mustUpdate(t, j, "client-0", head(t, 1, 10, merkle.Root(one)))
	mustUpdate(t, j, "client-0", head(t, 2, 20, merkle.Root(two)))
	for i, err := range []api.Errno{
		client.Has(j, "client-0", at(t, 1, one, "a"), one[0]),
		client.Lacks(j, "client-0", at(t, 1, one, "b"), "b"),
		client.Has(j, "client-0", at(t, 2, two, "a"), two[0]),
		client.Has(j, "client-0", at(t, 2, two, "b"), two[1]),
		client.Lacks(j, "client-0", at(t, 2, two, "d"), "d"),
	} {
		if err != api.OK {
			t.Errorf("true statement %d: error %d", i, err)
		}
	}
	mustGet(t, j, "client-0", api.Client{Chain: "left", Key: "k", Height: 2})
	mustSee(t, j, "client-0", 1, api.Seen{Time: 10, Root: merkle.Root(one)})
	mustReject(t, "the same header again", j, "client-0", head(t, 2, 20, merkle.Root(two)), api.ErrExists)
}

// Rule R1: on a nil journal each function returns ErrNil, ahead of any other error.
func TestNilJournal(t *testing.T) {
	for _, chain := range []string{"left", "", long()} {
		for _, key := range []string{"k", "", long()} {
			if id, err := client.New(nil, chain, key); id != "" || err != api.ErrNil {
				t.Errorf("New(nil, %.40q, %.40q) = %q, %d", chain, key, id, err)
			}
		}
	}
	for _, id := range []string{"client-0", "", "x"} {
		if c, err := client.Get(nil, id); c != (api.Client{}) || err != api.ErrNil {
			t.Errorf("Get(nil, %q) = %s, %d", id, told(c), err)
		}
		for _, height := range []int{0, 1, -1} {
			mustNotSee(t, nil, id, height, api.ErrNil)
			if err := client.Has(nil, id, api.At{Height: height}, api.Pair{}); err != api.ErrNil {
				t.Errorf("Has(nil, %q, %d) = %d", id, height, err)
			}
			if err := client.Lacks(nil, id, api.At{Height: height}, ""); err != api.ErrNil {
				t.Errorf("Lacks(nil, %q, %d) = %d", id, height, err)
			}
		}
		for _, raw := range []string{"", "x", head(t, 1, 1, "r")} {
			if err := client.Update(nil, id, raw); err != api.ErrNil {
				t.Errorf("Update(nil, %q, %.40q) = %d", id, raw, err)
			}
		}
	}
}
