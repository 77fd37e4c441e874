package conn_test

import (
	"fmt"
	"slices"
	"strings"
	"testing"

	"footbridge/api"
	"footbridge/client"
	"footbridge/conn"
	"footbridge/header"
	"footbridge/journal"
	"footbridge/merkle"
	"footbridge/pairs"
	"footbridge/proof"
)

// long is a text that has no encoding; full is the longest that has one, but no room for anything beside it in a value.
func long() string { return strings.Repeat("l", api.MaxText+1) }
func full() string { return strings.Repeat("f", api.MaxText) }

// over returns a journal with keys and values, given one after the other.
func over(texts ...string) *journal.Journal {
	s := pairs.New()
	for i := 0; i < len(texts); i += 2 {
		s.Set(texts[i], texts[i+1])
	}
	return journal.New(s)
}

// list returns pairs of keys and values, given one after the other in the order of the keys.
func list(texts ...string) []api.Pair { return over(texts...).List() }

// show tells pairs in a failure's message, without the rest of long ones.
func show(l []api.Pair) string {
	var b strings.Builder
	for _, p := range l {
		fmt.Fprintf(&b, "[%.60q %.60q]", p.Key, p.Value)
	}
	return b.String()
}

// told is an end with its long texts cut.
func told(c api.Conn) string {
	return fmt.Sprintf("{%d %.40q %.40q %.40q}", c.State, c.Client, c.Other, c.OtherClient)
}

// mustHold holds the pairs of a word, and how many ends were created, against what should be stored, in the order of the keys.
func mustHold(t *testing.T, j *journal.Journal, texts ...string) {
	t.Helper()
	var got []api.Pair
	for _, p := range j.List() {
		if strings.HasPrefix(p.Key, "conn") || p.Key == "next/conn" {
			got = append(got, p)
		}
	}
	if want := list(texts...); !slices.Equal(got, want) {
		t.Errorf("stored: %s\nwant: %s", show(got), show(want))
	}
}

// mustNotChange does something and holds what is stored, and how many levels are open, against what was there before.
func mustNotChange(t *testing.T, what string, j *journal.Journal, do func()) {
	t.Helper()
	before, depth := j.List(), j.Depth()
	do()
	if after := j.List(); !slices.Equal(after, before) || j.Depth() != depth {
		t.Errorf("%s: stored before, at depth %d: %s\nand after, at depth %d: %s", what, depth, show(before), j.Depth(), show(after))
	}
}

func mustGet(t *testing.T, j *journal.Journal, id string, want api.Conn) {
	t.Helper()
	if c, err := conn.Get(j, id); c != want || err != api.OK {
		t.Errorf("Get(%.40q) = %s, %d; want %s", id, told(c), err, told(want))
	}
}

func mustNotGet(t *testing.T, j *journal.Journal, id string, want api.Errno) {
	t.Helper()
	if c, err := conn.Get(j, id); c != (api.Conn{}) || err != want {
		t.Errorf("Get(%.40q) = %s, %d; want the zero Conn, %d", id, told(c), err, want)
	}
}

func mustInit(t *testing.T, j *journal.Journal, c api.Conn, want string) {
	t.Helper()
	if id, err := conn.Init(j, c); id != want || err != api.OK {
		t.Fatalf("Init(%s) = %q, %d; want %q", told(c), id, err, want)
	}
}

func mustTry(t *testing.T, j *journal.Journal, c api.Conn, where api.At, want string) {
	t.Helper()
	if id, err := conn.Try(j, c, where); id != want || err != api.OK {
		t.Fatalf("Try(%s) = %q, %d; want %q", told(c), id, err, want)
	}
}

func mustAck(t *testing.T, j *journal.Journal, id, other string, where api.At) {
	t.Helper()
	if err := conn.Ack(j, id, other, where); err != api.OK {
		t.Fatalf("Ack(%.40q, %q): error %d", id, other, err)
	}
}

func mustDone(t *testing.T, j *journal.Journal, id string, where api.At) {
	t.Helper()
	if err := conn.Done(j, id, where); err != api.OK {
		t.Fatalf("Done(%.40q): error %d", id, err)
	}
}

// The following four want an error, no id beside it, and nothing changed.

func mustNotInit(t *testing.T, what string, j *journal.Journal, c api.Conn, want api.Errno) {
	t.Helper()
	mustNotChange(t, what, j, func() {
		t.Helper()
		if id, err := conn.Init(j, c); id != "" || err != want {
			t.Errorf("%s: Init(%s) = %q, %d; want \"\", %d", what, told(c), id, err, want)
		}
	})
}

func mustNotTry(t *testing.T, what string, j *journal.Journal, c api.Conn, where api.At, want api.Errno) {
	t.Helper()
	mustNotChange(t, what, j, func() {
		t.Helper()
		if id, err := conn.Try(j, c, where); id != "" || err != want {
			t.Errorf("%s: Try(%s) = %q, %d; want \"\", %d", what, told(c), id, err, want)
		}
	})
}

func mustNotAck(t *testing.T, what string, j *journal.Journal, id, other string, where api.At, want api.Errno) {
	t.Helper()
	mustNotChange(t, what, j, func() {
		t.Helper()
		if err := conn.Ack(j, id, other, where); err != want {
			t.Errorf("%s: Ack(%.40q, %.40q) = %d; want %d", what, id, other, err, want)
		}
	})
}

func mustNotDone(t *testing.T, what string, j *journal.Journal, id string, where api.At, want api.Errno) {
	t.Helper()
	mustNotChange(t, what, j, func() {
		t.Helper()
		if err := conn.Done(j, id, where); err != want {
			t.Errorf("%s: Done(%.40q) = %d; want %d", what, id, err, want)
		}
	})
}

// addClient creates a client of the chain left, whose headers are signed with the key.
func addClient(t *testing.T, j *journal.Journal, key, want string) {
	t.Helper()
	if id, err := client.New(j, "left", key); id != want || err != api.OK {
		t.Fatalf("client.New = %q, %d; want %q", id, err, want)
	}
}

// ofLeft returns a journal with the client client-0 of the chain left, whose key is k.
func ofLeft(t *testing.T) *journal.Journal {
	t.Helper()
	j := journal.New(nil)
	addClient(t, j, "k", "client-0")
	return j
}

// tell lets client-0 know what the chain left has at a height.
func tell(t *testing.T, j *journal.Journal, height int, l []api.Pair) {
	t.Helper()
	tellClient(t, j, "client-0", "k", height, l)
}

func tellClient(t *testing.T, j *journal.Journal, id, key string, height int, l []api.Pair) {
	t.Helper()
	h, err := header.Sign(key, api.Header{Chain: "left", Height: height, Time: height, Root: merkle.Root(l)})
	if err != api.OK {
		t.Fatalf("Sign: error %d", err)
	}
	raw, err := header.Put(h)
	if err != api.OK {
		t.Fatalf("Put: error %d", err)
	}
	if err := client.Update(j, id, raw); err != api.OK {
		t.Fatalf("client.Update(%q) at height %d: error %d", id, height, err)
	}
}

// freeze lets client-0 see two headers of one height.
func freeze(t *testing.T, j *journal.Journal) {
	t.Helper()
	tell(t, j, api.MaxCount, nil)
	tell(t, j, api.MaxCount, list("a", "1"))
}

// at returns the proof for a key and pairs, to be held against the header of a height.
func at(t *testing.T, height int, l []api.Pair, key string) api.At {
	t.Helper()
	s, err := proof.Put(proof.Build(l, key))
	if err != api.OK {
		t.Fatalf("Put: error %d", err)
	}
	return api.At{Height: height, Proof: s}
}

// shown lets client-0 know a state of the chain left, and returns the proof for one of its keys.
func shown(t *testing.T, j *journal.Journal, height int, l []api.Pair, key string) api.At {
	t.Helper()
	tell(t, j, height, l)
	return at(t, height, l, key)
}

// Promises 15.1 and 15.2, from end to end: both ends are open after the four steps, each proved by what the other chain has then.
func TestWhole(t *testing.T) {
	here, there := ofLeft(t), ofLeft(t)
	mustInit(t, here, api.Conn{Client: "client-0", OtherClient: "client-0"}, "connection-0")

	// So that the two sides have different ids, there is an end there already.
	mustInit(t, there, api.Conn{Client: "client-0", OtherClient: "client-3"}, "connection-0")
	try := api.Conn{Client: "client-0", Other: "connection-0", OtherClient: "client-0"}
	mustTry(t, there, try, shown(t, there, 1, here.List(), "conn/connection-0"), "connection-1")

	mustAck(t, here, "connection-0", "connection-1", shown(t, here, 1, there.List(), "conn/connection-1"))
	mustDone(t, there, "connection-1", shown(t, there, 2, here.List(), "conn/connection-0"))

	mustGet(t, here, "connection-0", api.Conn{State: api.StateOpen, Client: "client-0", Other: "connection-1", OtherClient: "client-0"})
	mustGet(t, there, "connection-1", api.Conn{State: api.StateOpen, Client: "client-0", Other: "connection-0", OtherClient: "client-0"})
	mustGet(t, there, "connection-0", api.Conn{State: api.StateInit, Client: "client-0", OtherClient: "client-3"})
}

// Promise 15.2: the two chains may know each other by clients of different numbers.
func TestWholeClients(t *testing.T) {
	here, there := ofLeft(t), journal.New(nil)
	for i, key := range []string{"a", "b", "k"} {
		addClient(t, there, key, fmt.Sprintf("client-%d", i))
	}
	mustInit(t, here, api.Conn{Client: "client-0", OtherClient: "client-2"}, "connection-0")

	tellClient(t, there, "client-2", "k", 1, here.List())
	try := api.Conn{Client: "client-2", Other: "connection-0", OtherClient: "client-0"}
	mustTry(t, there, try, at(t, 1, here.List(), "conn/connection-0"), "connection-0")

	mustAck(t, here, "connection-0", "connection-0", shown(t, here, 1, there.List(), "conn/connection-0"))

	tellClient(t, there, "client-2", "k", 2, here.List())
	mustDone(t, there, "connection-0", at(t, 2, here.List(), "conn/connection-0"))

	mustGet(t, here, "connection-0", api.Conn{State: api.StateOpen, Client: "client-0", Other: "connection-0", OtherClient: "client-2"})
	mustGet(t, there, "connection-0", api.Conn{State: api.StateOpen, Client: "client-2", Other: "connection-0", OtherClient: "client-0"})
}

// Rule R1: without a journal each function returns ErrNil, ahead of any other error.
func TestNilJournal(t *testing.T) {
	for _, text := range []string{"", "x", "client-0", "connection-0", long()} {
		c := api.Conn{State: len(text), Client: text, Other: text, OtherClient: text}
		good := api.Conn{Client: text, Other: "connection-0", OtherClient: "client-0"}
		mustNotGet(t, nil, text, api.ErrNil)
		for _, c := range []api.Conn{c, good} {
			mustNotInit(t, "no journal", nil, c, api.ErrNil)
			mustNotTry(t, "no journal", nil, c, api.At{Height: 1, Proof: text}, api.ErrNil)
		}
		mustNotAck(t, "no journal", nil, text, text, api.At{}, api.ErrNil)
		mustNotAck(t, "no journal", nil, text, "connection-0", api.At{}, api.ErrNil)
		mustNotDone(t, "no journal", nil, text, api.At{}, api.ErrNil)
	}
}
