package client_test

import (
	"strings"
	"testing"

	"footbridge/api"
	"footbridge/client"
	"footbridge/header"
	"footbridge/journal"
	"footbridge/merkle"
	"footbridge/pairs"
)

// Promise 14.3: headers of increasing, decreasing and far heights, with times in any order; the height of the client is the greatest one.
func TestUpdate(t *testing.T) {
	j := ofLeft(t)
	greatest := 0
	for i, height := range []int{3, 4, 1, 2, 300, 5, api.MaxCount - 1, 299, api.MaxCount, 6} {
		time := []int{50, 7, 50, 0, api.MaxNum}[i%5]
		mustUpdate(t, j, "client-0", head(t, height, time, "root"))
		greatest = max(greatest, height)
		mustGet(t, j, "client-0", api.Client{Chain: "left", Key: "k", Height: greatest})
		mustSee(t, j, "client-0", height, api.Seen{Time: time, Root: "root"})
	}
}

// Promise 14.3: a header is accepted under the key of its client alone, however long the key and the chain's name are.
func TestUpdateKeys(t *testing.T) {
	keys := []string{"", "k", "kk", "\x00", strings.Repeat("k", 64), strings.Repeat("k", 65), full()[:60000]}
	chain := strings.Repeat("z", api.MaxName)
	for _, own := range keys {
		j := journal.New(nil)
		mustNew(t, j, chain, own, "client-0")
		for _, key := range keys {
			// HMAC fills a short key with zero bytes.
			if own != "" && own != "\x00" || key != "" && key != "\x00" {
				raw := sign(t, key, api.Header{Chain: chain, Height: 1, Time: 1, Root: "r"})
				if key != own {
					mustReject(t, "another key", j, "client-0", raw, api.ErrMac)
				}
			}
		}
		mustUpdate(t, j, "client-0", sign(t, own, api.Header{Chain: chain, Height: 1, Time: 1, Root: "r"}))
	}
}

// Promise 14.3, ErrExists: a header that says the same as one before, at the greatest height and below it, as often as it comes.
func TestUpdateAgain(t *testing.T) {
	j := ofLeft(t)
	raws := []string{head(t, 2, 5, "two"), head(t, 1, 5, "one"), head(t, 3, 0, ""), head(t, api.MaxCount, 5, "two")}
	for i, raw := range raws {
		mustUpdate(t, j, "client-0", raw)
		for _, again := range raws[:i+1] {
			mustReject(t, "again", j, "client-0", again, api.ErrExists)
			mustReject(t, "once more", j, "client-0", again, api.ErrExists)
		}
	}
}

// Promise 14.3: a header that is rejected, each error, and the first of several.
func TestUpdateErrors(t *testing.T) {
	raw := head(t, 2, 20, "two")
	of := func(key, chain string, height int) string {
		return sign(t, key, api.Header{Chain: chain, Height: height, Time: 20, Root: "two"})
	}
	unsigned, _ := header.Put(api.Header{Chain: "left", Height: 2, Time: 20, Root: "two"})
	signed, _ := header.Sign("k", api.Header{Chain: "left", Height: 2, Time: 20, Root: "two"})
	changed := func(change func(*api.Header)) string {
		h := signed
		change(&h)
		s, _ := header.Put(h)
		return s
	}
	for _, c := range []struct {
		what, raw string
		want      api.Errno
	}{
		{"nothing", "", api.ErrCut},
		{"a header cut", raw[:len(raw)-1], api.ErrCut},
		{"a byte left over", raw + "\x00", api.ErrForm},
		{"a header twice", raw + raw, api.ErrForm},
		{"a malformed number", "\x08", api.ErrForm},
		{"a height that is no number", "\x01\x04left\x07\x20\x00\x00\x00\x00\x00\x01\x00\x00\x00", api.ErrRange},
		{"a long root", "\x01\x04left\x01\x02\x00\x03\x01\x00\x01" + long() + "\x00", api.ErrLong},
		{"no code", unsigned, api.ErrMac},
		{"another key", of("l", "left", 2), api.ErrMac},
		{"no key", of("", "left", 2), api.ErrMac},
		{"another chain", of("k", "right", 2), api.ErrMac},
		{"no chain", of("k", "", 2), api.ErrMac},
		{"a chain that begins the same", of("k", "lef", 2), api.ErrMac},
		{"a chain in capitals", of("k", "LEFT", 2), api.ErrMac},
		{"another chain and another key", of("l", "right", 2), api.ErrMac},
		{"the code cut", changed(func(h *api.Header) { h.Mac = h.Mac[:31] }), api.ErrMac},
		{"the code longer", changed(func(h *api.Header) { h.Mac += "\x00" }), api.ErrMac},
		{"the code of another header", changed(func(h *api.Header) { h.Height = 3 }), api.ErrMac},
		{"the code of another time", changed(func(h *api.Header) { h.Time = 21 }), api.ErrMac},
		{"the code of another root", changed(func(h *api.Header) { h.Root = "too" }), api.ErrMac},
		{"a height of 0", of("k", "left", 0), api.ErrHeight},
		{"a height beyond MaxCount", of("k", "left", api.MaxCount+1), api.ErrHeight},
		{"the greatest number as a height", of("k", "left", api.MaxNum), api.ErrHeight},
		{"another key ahead of a height of 0", of("l", "left", 0), api.ErrMac},
		{"another chain ahead of a height beyond MaxCount", of("k", "right", api.MaxCount+1), api.ErrMac},
		{"another chain, cut", of("k", "right", 2)[:9], api.ErrCut},
		{"a height of 0, with a byte left over", of("k", "left", 0) + "x", api.ErrForm},
		{"another key for a height that was seen", of("l", "left", 1), api.ErrMac},
		{"another chain for a height that was seen", of("k", "right", 1), api.ErrMac},
	} {
		j := ofLeft(t)
		mustReject(t, c.what, j, "client-0", c.raw, c.want)
		mustUpdate(t, j, "client-0", head(t, 1, 10, "one"))
		mustReject(t, c.what+", later", j, "client-0", c.raw, c.want)
		mustUpdate(t, j, "client-0", raw)
		mustReject(t, c.what+", later still", j, "client-0", c.raw, c.want)
	}
}

// frozen returns a client that has seen two heights and is frozen by another header of the given one.
func frozen(t *testing.T, height, time int, root string) *journal.Journal {
	t.Helper()
	j := ofLeft(t)
	mustNew(t, j, "left", "k", "client-1")
	mustUpdate(t, j, "client-0", head(t, 1, 10, merkle.Root(list("a", "1"))))
	mustUpdate(t, j, "client-0", head(t, 2, 20, "two"))
	mustUpdate(t, j, "client-1", head(t, 1, 11, "else"))
	mustUpdate(t, j, "client-0", head(t, height, time, root))
	return j
}

// Promise 14.3: two headers of one height that differ in their time, in their root or in both freeze the client, which keeps what it has.
func TestFreeze(t *testing.T) {
	root := merkle.Root(list("a", "1"))
	for _, c := range []struct {
		height, time int
		root         string
	}{
		{1, 11, root}, {1, 10, "two"}, {1, 20, "two"}, {1, 0, root}, {1, 10, ""}, {2, 21, "two"}, {2, 20, "two\x00"}, {2, 10, root},
		{1, 11, "else"}, {1, 10, full()},
	} {
		j := frozen(t, c.height, c.time, c.root)
		mustGet(t, j, "client-0", api.Client{Chain: "left", Key: "k", Height: 2, Frozen: true})
		mustSee(t, j, "client-0", 1, api.Seen{Time: 10, Root: root})
		mustSee(t, j, "client-0", 2, api.Seen{Time: 20, Root: "two"})
		mustNotSee(t, j, "client-0", 3, api.ErrHeight)
		mustGet(t, j, "client-1", api.Client{Chain: "left", Key: "k", Height: 1})
		mustUpdate(t, j, "client-1", head(t, 2, 20, "two"))
		mustNew(t, j, "left", "k", "client-2")
		mustUpdate(t, j, "client-2", head(t, c.height, 5, "five"))
	}
}

// Promises 14.3 and 14.4: a frozen client takes nothing, right or wrong, and confirms nothing.
func TestFrozen(t *testing.T) {
	l := list("a", "1")
	j := frozen(t, 2, 21, "two")
	other := sign(t, "l", api.Header{Chain: "right", Height: 3})
	for _, raw := range []string{
		head(t, 3, 30, "three"), head(t, 1, 10, merkle.Root(l)), head(t, 2, 20, "two"), head(t, 2, 21, "two"), head(t, 1, 11, "one"),
		head(t, 0, 0, ""), other, "", "\x08", "x",
	} {
		mustReject(t, "a frozen client", j, "client-0", raw, api.ErrFrozen)
	}
	for _, where := range []api.At{at(t, 1, l, "a"), at(t, 2, l, "a"), at(t, 3, l, "a"), at(t, 1, l, "b"), {Height: 1}, {Height: -1, Proof: "x"}} {
		for _, p := range []api.Pair{l[0], {Key: "b"}, {}} {
			if err := client.Has(j, "client-0", where, p); err != api.ErrFrozen {
				t.Errorf("Has(%d, %q) = %d; want ErrFrozen", where.Height, p, err)
			}
			if err := client.Lacks(j, "client-0", where, p.Key); err != api.ErrFrozen {
				t.Errorf("Lacks(%d, %q) = %d; want ErrFrozen", where.Height, p.Key, err)
			}
		}
	}
}

// Promise 14.3 and rule R2: a header whose root, or a client whose height, is too long for the journal is refused, and nothing of it stays.
func TestUpdateTooLongToStore(t *testing.T) {
	j := ofLeft(t)
	// Beside the root stand a time of one or two bytes and the root's length.
	longest := api.MaxText - 1 - 3
	mustReject(t, "the longest root that has an encoding", j, "client-0", head(t, 1, 0, full()), api.ErrLong)
	mustReject(t, "a root that is too long by one", j, "client-0", head(t, 1, 0, full()[:longest+1]), api.ErrLong)
	mustReject(t, "a root that is too long beside its time", j, "client-0", head(t, 1, 1, full()[:longest]), api.ErrLong)
	mustUpdate(t, j, "client-0", head(t, 1, 0, full()[:longest]))
	mustSee(t, j, "client-0", 1, api.Seen{Root: full()[:longest]})

	// Beside the key stand the chain, the key's length, and a height and a flag of one byte each.
	key := full()[:api.MaxText-2-4-3-2]
	j = journal.New(nil)
	mustNew(t, j, "left", key, "client-0")
	raw := sign(t, key, api.Header{Chain: "left", Height: 1, Time: 1, Root: "r"})
	mustReject(t, "a client that has no room for a height", j, "client-0", raw, api.ErrLong)
	mustNotSee(t, j, "client-0", 1, api.ErrHeight)
	j.Begin()
	mustReject(t, "the same in an open level", j, "client-0", raw, api.ErrLong)

	j = journal.New(nil)
	mustNew(t, j, "left", key[1:], "client-0")
	mustUpdate(t, j, "client-0", sign(t, key[1:], api.Header{Chain: "left", Height: 255, Time: 1, Root: "r"}))
	mustUpdate(t, j, "client-0", sign(t, key[1:], api.Header{Chain: "left", Height: 1, Time: 1, Root: "r"}))
	mustReject(t, "a client that has no room for a greater height", j, "client-0",
		sign(t, key[1:], api.Header{Chain: "left", Height: 256, Time: 1, Root: "r"}), api.ErrLong)
	mustReject(t, "a client that has no room for a longer flag", j, "client-0",
		sign(t, key[1:], api.Header{Chain: "left", Height: 1, Time: 2, Root: "r"}), api.ErrLong)
}

// Promise 14.3: a header that is not higher leaves the client as it is stored, even where the journal itself would not take it.
func TestLowerHeightLeavesClient(t *testing.T) {
	value := "\x01\x04left\x03\x01\x00\x00" + full() + "\x01\x05\x00"
	s := pairs.New()
	s.Set("client/client-0", value)
	j := journal.New(s)
	mustUpdate(t, j, "client-0", sign(t, full(), api.Header{Chain: "left", Height: 5, Time: 1, Root: "r"}))
	mustUpdate(t, j, "client-0", sign(t, full(), api.Header{Chain: "left", Height: 4, Time: 1, Root: "r"}))
	mustHold(t, j, "client/client-0", value, "seen/client-0/00000000000004", "\x01\x01\x01\x01r", "seen/client-0/00000000000005", "\x01\x01\x01\x01r")
}

// Promise 14.1: in an open level the state is part of that level, and the levels stay as they are.
func TestLevels(t *testing.T) {
	j := ofLeft(t)
	before := j.List()
	j.Begin()
	mustNew(t, j, "right", "l", "client-1")
	mustUpdate(t, j, "client-0", head(t, 1, 10, "one"))
	j.Begin()
	mustUpdate(t, j, "client-0", head(t, 1, 11, "one"))
	if j.Depth() != 2 {
		t.Errorf("Depth() = %d; want 2", j.Depth())
	}
	mustReject(t, "a frozen client", j, "client-0", head(t, 2, 20, "two"), api.ErrFrozen)
	j.Rollback()
	mustUpdate(t, j, "client-0", head(t, 2, 20, "two"))
	mustGet(t, j, "client-0", api.Client{Chain: "left", Key: "k", Height: 2})
	c := j.Copy()
	j.Rollback()
	mustHold(t, j, before[0].Key, before[0].Value, before[1].Key, before[1].Value)
	c.Commit()
	mustGet(t, c, "client-0", api.Client{Chain: "left", Key: "k", Height: 2})
	mustGet(t, c, "client-1", api.Client{Chain: "right", Key: "l"})
	mustNew(t, j, "right", "l", "client-1")
	if j.Depth() != 0 || c.Depth() != 0 {
		t.Errorf("Depth() = %d and %d; want 0", j.Depth(), c.Depth())
	}
}
