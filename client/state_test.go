package client_test

import (
	"math"
	"strings"
	"testing"

	"footbridge/api"
	"footbridge/client"
	"footbridge/journal"
)

// first is the key of what the header of height 1 said to client-0.
const first = "seen/client-0/00000000000001"

// Promise 14.1: the keys and values of clients and of what they have seen, with their bytes written out.
func TestStored(t *testing.T) {
	j := journal.New(nil)
	mustHold(t, j)
	mustNew(t, j, "left", "key", "client-0")
	mustHold(t, j, "client/client-0", "\x01\x04left\x01\x03key\x00\x00", "next/client", "\x01\x01")
	mustNew(t, j, "r", "", "client-1")
	zero := "\x01\x04left\x01\x03key\x00\x00"
	mustHold(t, j, "client/client-0", zero, "client/client-1", "\x01\x01r\x00\x00\x00", "next/client", "\x01\x02")
	mustUpdate(t, j, "client-1", sign(t, "", api.Header{Chain: "r", Height: 300, Time: 65536, Root: "ab"}))
	mustHold(t, j, "client/client-0", zero, "client/client-1", "\x01\x01r\x00\x02\x01\x2c\x00", "next/client", "\x01\x02",
		"seen/client-1/00000000000300", "\x03\x01\x00\x00\x01\x02ab")
	mustUpdate(t, j, "client-1", sign(t, "", api.Header{Chain: "r", Height: 7}))
	mustHold(t, j, "client/client-0", zero, "client/client-1", "\x01\x01r\x00\x02\x01\x2c\x00", "next/client", "\x01\x02",
		"seen/client-1/00000000000007", "\x00\x00", "seen/client-1/00000000000300", "\x03\x01\x00\x00\x01\x02ab")
	mustUpdate(t, j, "client-1", sign(t, "", api.Header{Chain: "r", Height: 7, Time: 1}))
	mustHold(t, j, "client/client-0", zero, "client/client-1", "\x01\x01r\x00\x02\x01\x2c\x01\x01", "next/client", "\x01\x02",
		"seen/client-1/00000000000007", "\x00\x00", "seen/client-1/00000000000300", "\x03\x01\x00\x00\x01\x02ab")
}

// Promise 14.1: what is stored is all that counts, so that a copy of the pairs knows the same.
func TestStateIsStored(t *testing.T) {
	j := over("client/client-0", "\x01\x04left\x01\x01k\x01\x05\x00", "next/client", "\x02\x01\x00", first, "\x01\x09\x01\x01r")
	mustGet(t, j, "client-0", api.Client{Chain: "left", Key: "k", Height: 5})
	mustSee(t, j, "client-0", 1, api.Seen{Time: 9, Root: "r"})
	mustNotSee(t, j, "client-0", 5, api.ErrHeight)
	mustReject(t, "the header that is stored", j, "client-0", head(t, 1, 9, "r"), api.ErrExists)
	mustNew(t, j, "left", "k", "client-256")
}

// Promise 14.2, New: ids in their order, for chains and keys of all lengths that there are; clients of one chain are clients of their own.
func TestNew(t *testing.T) {
	j := journal.New(nil)
	for _, c := range []struct{ chain, key, id string }{
		{"left", "k", "client-0"},
		{"left", "k", "client-1"},
		{"a", "", "client-2"},
		{strings.Repeat("z", api.MaxName), "\x00\xff/%", "client-3"},
		{"A.b_c-9", strings.Repeat("k", 32), "client-4"},
		{"client-0", strings.Repeat("k", 255), "client-5"},
		{"-", strings.Repeat("k", 256), "client-6"},
		{"right", strings.Repeat("k", 65535-20), "client-7"},
		{"left", "other", "client-8"},
		{"left", "k", "client-9"},
		{"left", "k", "client-10"},
	} {
		mustNew(t, j, c.chain, c.key, c.id)
		mustGet(t, j, c.id, api.Client{Chain: c.chain, Key: c.key})
		mustNotSee(t, j, c.id, 0, api.ErrHeight)
		mustNotSee(t, j, c.id, 1, api.ErrHeight)
	}
	mustGet(t, j, "client-0", api.Client{Chain: "left", Key: "k"})
	mustUpdate(t, j, "client-1", head(t, 3, 4, "r"))
	mustGet(t, j, "client-0", api.Client{Chain: "left", Key: "k"})
	mustNotSee(t, j, "client-0", 3, api.ErrHeight)
	mustNotSee(t, j, "client-10", 3, api.ErrHeight)
	mustSee(t, j, "client-1", 3, api.Seen{Time: 4, Root: "r"})
}

// Promise 14.2, New: each error, the first of two, and nothing changed.
func TestNewErrors(t *testing.T) {
	j := ofLeft(t)
	for _, c := range []struct {
		what, chain, key string
		want             api.Errno
	}{
		{"no chain", "", "k", api.ErrName},
		{"a chain of 65 letters", strings.Repeat("z", api.MaxName+1), "k", api.ErrName},
		{"a long chain", long(), "k", api.ErrName},
		{"a slash", "a/b", "k", api.ErrName},
		{"a space", "left ", "k", api.ErrName},
		{"a byte that is no letter", "left\x00", "k", api.ErrName},
		{"a letter beyond a to z", "l\u00e9ft", "k", api.ErrName},
		{"a long key", "left", long(), api.ErrLong},
		{"a key that is longer still", "left", long() + long(), api.ErrLong},
		{"a chain that is no name ahead of a long key", "a/b", long(), api.ErrName},
	} {
		mustNotChange(t, c.what, j, func() {
			if id, err := client.New(j, c.chain, c.key); id != "" || err != c.want {
				t.Errorf("%s: New = %q, %d; want \"\", %d", c.what, id, err, c.want)
			}
		})
	}
	mustNew(t, j, "left", "k", "client-1")
}

// Promise 14.2 and rule R2: a key for which there is an encoding, but whose client is too long for the journal, is refused and changes nothing.
func TestNewTooLongToStore(t *testing.T) {
	// Beside the key stand the length and the letter of the chain, the length of the key, and two zeros.
	longest := api.MaxText - 2 - 1 - 3 - 2
	j := journal.New(nil)
	for _, key := range []string{full(), full()[:longest+1]} {
		mustNotChange(t, "a key that is too long to be stored", j, func() {
			if id, err := client.New(j, "l", key); id != "" || err != api.ErrLong {
				t.Errorf("New with a key of %d bytes = %q, %d; want \"\", ErrLong", len(key), id, err)
			}
		})
	}
	mustNew(t, j, "l", full()[:longest], "client-0")
	mustGet(t, j, "client-0", api.Client{Chain: "l", Key: full()[:longest]})
}

// Promise 14.2, New: the last number that names.Make takes, and none behind it.
func TestNewNumbers(t *testing.T) {
	j := over("next/client", "\x06\x01\x00\x00\x00\x00\x00")
	mustNew(t, j, "left", "k", "client-1099511627776")
	mustHold(t, j, "client/client-1099511627776", "\x01\x04left\x01\x01k\x00\x00", "next/client", "\x06\x01\x00\x00\x00\x00\x01")
	for _, more := range []*journal.Journal{j, over("next/client", "\x07\x20\x00\x00\x00\x00\x00\x00")} {
		mustNotChange(t, "too many clients", more, func() {
			if id, err := client.New(more, "left", "k"); id != "" || err != api.ErrRange {
				t.Errorf("New = %q, %d; want \"\", ErrRange", id, err)
			}
		})
	}
	if id, err := client.New(j, "left", long()); id != "" || err != api.ErrLong {
		t.Errorf("New with a long key = %q, %d; want \"\", ErrLong", id, err)
	}
}

// Promise 14.1: a number of clients that is not encoded as it must be counts as none.
func TestMalformedNumber(t *testing.T) {
	for _, value := range []string{"", "\x01", "\x08", "\x01\x00", "\x02\x00\x01", "\x01\x05\x00", "\x01\x05x", "5",
		"\x07\x20\x00\x00\x00\x00\x00\x01", "\x02\x01"} {
		j := over("next/client", value)
		mustNew(t, j, "left", "k", "client-0")
		mustHold(t, j, "client/client-0", "\x01\x04left\x01\x01k\x00\x00", "next/client", "\x01\x01")
	}
	j := over("next/client", "\x00")
	mustNew(t, j, "left", "k", "client-0")
}

// absent tells values that are no encoding of a client.
func absent() []string {
	return []string{
		"", "\x00", "\x00\x00", "\x00\x00\x00", "\x01\x04left\x01\x01k\x00",
		"\x01\x04left\x01\x01k\x00\x00\x00", "\x01\x04left\x01\x01k\x00\x01\x01x",
		"\x01\x04left\x01\x01k\x00\x01\x02", "\x01\x04left\x01\x01k\x00\x01\xff", "\x01\x04left\x01\x01k\x00\x02\x01\x00",
		"\x01\x04left\x01\x01k\x00\x01\x00", "\x01\x04left\x01\x01k\x01\x00\x00", "\x02\x00\x04left\x01\x01k\x00\x00",
		"\x01\x04left\x01\x01k\x08\x00", "\x01\x04left\x01\x01k\x07\x20\x00\x00\x00\x00\x00\x01\x00",
		"\x01\x05left", "\x03\x01\x00\x01" + long() + "\x00\x00\x00", "left",
	}
}

// Promises 14.1 and 14.2, Get: a client that is not stored, or not as it must be, does not exist, for any function.
func TestNoClient(t *testing.T) {
	raw := head(t, 1, 9, "r")
	none := func(j *journal.Journal, id string) {
		t.Helper()
		mustNotChange(t, "no client", j, func() {
			t.Helper()
			if c, err := client.Get(j, id); c != (api.Client{}) || err != api.ErrNone {
				t.Errorf("Get(%.40q) = %s, %d; want the zero Client, ErrNone", id, told(c), err)
			}
			for _, height := range []int{math.MinInt, -1, 0, 1, 2} {
				mustNotSee(t, j, id, height, api.ErrNone)
			}
			for _, s := range []string{raw, ""} {
				if err := client.Update(j, id, s); err != api.ErrNone {
					t.Errorf("Update(%.40q, %.40q) = %d; want ErrNone", id, s, err)
				}
				if err := client.Has(j, id, api.At{Height: 1, Proof: s}, api.Pair{}); err != api.ErrNone {
					t.Errorf("Has(%.40q) = %d; want ErrNone", id, err)
				}
				if err := client.Lacks(j, id, api.At{Height: 1, Proof: s}, ""); err != api.ErrNone {
					t.Errorf("Lacks(%.40q) = %d; want ErrNone", id, err)
				}
			}
		})
	}
	j := ofLeft(t)
	for _, id := range []string{"", "client-1", "client-00", "client-", "client", "Client-0", "client-0 ", " client-0", "client-0/", "/client-0", "0", long()} {
		none(j, id)
	}
	for _, value := range absent() {
		none(over("client/client-0", value, first, "\x01\x09\x01\x01r"), "client-0")
	}
}

// Promise 14.1: clients with any fields that have an encoding are there.
func TestGetStored(t *testing.T) {
	for _, c := range []struct {
		value string
		want  api.Client
	}{
		{"\x00\x00\x00\x00", api.Client{}},
		{"\x00\x00\x00\x01\x01", api.Client{Frozen: true}},
		{"\x01\x04left\x01\x01k\x02\x01\x2c\x01\x01", api.Client{Chain: "left", Key: "k", Height: 300, Frozen: true}},
		{"\x01\x01l\x00\x07\x20\x00\x00\x00\x00\x00\x00\x00", api.Client{Chain: "l", Height: api.MaxNum}},
	} {
		mustGet(t, over("client/client-0", c.value), "client-0", c.want)
	}
}

// Promise 14.2, See: what each header said, of no other height and no other client.
func TestSee(t *testing.T) {
	j := ofLeft(t)
	mustNew(t, j, "left", "k", "client-1")
	heights := map[int]api.Seen{
		1: {Time: 10, Root: "one"}, 2: {}, 9: {Time: api.MaxNum, Root: strings.Repeat("r", 32)}, 10: {Root: "\x00/%"},
		100: {Time: 1}, 1 << 32: {Root: "r"}, api.MaxCount - 1: {Time: 3}, api.MaxCount: {Time: 2, Root: "last"},
	}
	for height, seen := range heights {
		mustUpdate(t, j, "client-0", head(t, height, seen.Time, seen.Root))
	}
	for height, seen := range heights {
		mustSee(t, j, "client-0", height, seen)
		mustNotSee(t, j, "client-1", height, api.ErrHeight)
	}
	for _, height := range []int{math.MinInt, -api.MaxCount, -1, 0, 3, 11, 99, 1<<32 + 1, api.MaxCount - 2, api.MaxCount + 1,
		99999999999999, 100000000000000, api.MaxNum, api.MaxNum + 1, math.MaxInt} {
		mustNotSee(t, j, "client-0", height, api.ErrHeight)
	}
}

// Promises 14.1 and 14.2, See: a value that is no encoding counts as absent, so that a header of this height is accepted once more.
func TestMalformedSeen(t *testing.T) {
	for _, value := range []string{"", "\x01", "\x01\x09", "\x01\x09\x01", "\x01\x09\x01\x02r", "\x01\x09\x01\x01r\x00", "\x01\x09\x01\x01rx",
		"\x01\x00\x00", "\x02\x00\x09\x00", "\x01\x09\x02\x00\x01r", "\x08\x00", "\x07\x20\x00\x00\x00\x00\x00\x01\x00", "\x00\x03\x01\x00\x01" + long()} {
		j := over("client/client-0", "\x01\x04left\x01\x01k\x01\x05\x00", first, value)
		mustNotSee(t, j, "client-0", 1, api.ErrHeight)
		if err := client.Lacks(j, "client-0", at(t, 1, nil, "a"), "a"); err != api.ErrHeight {
			t.Errorf("Lacks with %.40q stored = %d; want ErrHeight", value, err)
		}
		mustUpdate(t, j, "client-0", head(t, 1, 9, "r"))
		mustHold(t, j, "client/client-0", "\x01\x04left\x01\x01k\x01\x05\x00", first, "\x01\x09\x01\x01r")
	}
}

// Promise 14.2: heights that are the key of another one, or that no header has, are not seen, whatever is stored.
func TestSeeOutside(t *testing.T) {
	j := over("client/client-0", "\x01\x04left\x01\x01k\x00\x00", "seen/client-0/00000000000000", "\x00\x00", "seen/client-0/99999999999999", "\x00\x00")
	for _, height := range []int{math.MinInt, -1, api.MaxNum, math.MaxInt} {
		mustNotSee(t, j, "client-0", height, api.ErrHeight)
	}
}
