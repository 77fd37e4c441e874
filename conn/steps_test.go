package conn_test

import (
	"fmt"
	"math"
	"strings"
	"testing"

	"footbridge/api"
	"footbridge/conn"
	"footbridge/journal"
)

// ours and theirs are the ends of one connection, as seen from here; each test gives them the states that it needs.
func ours(state int) api.Conn {
	return api.Conn{State: state, Client: "client-0", Other: "connection-7", OtherClient: "client-5"}
}

func theirs(state int) api.Conn {
	return api.Conn{State: state, Client: "client-5", Other: "connection-2", OtherClient: "client-0"}
}

// without returns an end that does not know the other one's id.
func without(c api.Conn) api.Conn {
	c.Other = ""
	return c
}

// theirKey is the key of theirs on the chain left.
const theirKey = "conn/connection-7"

// having returns a journal with a client and an end, connection-2.
func having(c api.Conn) *journal.Journal {
	return over("client/client-0", left, "conn/connection-2", conn.Put(c), "next/conn", "\x01\x03")
}

// others tells ends that differ from c in one field.
func others(c api.Conn) []api.Conn {
	var l []api.Conn
	for _, state := range []int{0, 1, 2, 3, 4, 5, 256 + c.State} {
		if state != c.State {
			l = append(l, api.Conn{State: state, Client: c.Client, Other: c.Other, OtherClient: c.OtherClient})
		}
	}
	for _, text := range []string{"", "client-0", "client-1", "client-5", "client-50", "connection-2", "connection-7", "connection-3", "x"} {
		for _, other := range []api.Conn{
			{State: c.State, Client: text, Other: c.Other, OtherClient: c.OtherClient},
			{State: c.State, Client: c.Client, Other: text, OtherClient: c.OtherClient},
			{State: c.State, Client: c.Client, Other: c.Other, OtherClient: text},
		} {
			if other != c {
				l = append(l, other)
			}
		}
	}
	return l
}

// noConn and noClient tell strings that are no names of a connection and of a client.
func noConn() []string   { return noNames("connection-", "client-0", "channel-0") }
func noClient() []string { return noNames("client-", "connection-0", "channel-0") }

func noNames(start string, more ...string) []string {
	for _, end := range []string{"", "00", "07", "-1", "+1", "x", "1 ", "1/", "1099511627777", "99999999999999999999", strings.Repeat("1", 100)} {
		more = append(more, start+end)
	}
	return append(more, "", "x", "0", "/", strings.ToUpper(start)+"0", " "+start+"0", long())
}

// Promise 15.2, Init: ids in their order, and of the end that comes in only the two clients.
func TestInit(t *testing.T) {
	j := ofLeft(t)
	addClient(t, j, "k", "client-1")
	for i, c := range []api.Conn{
		{Client: "client-0", OtherClient: "client-0"},
		{Client: "client-1", OtherClient: "client-0"},
		{Client: "client-0", OtherClient: "client-1099511627776"},
		{Client: "client-0", OtherClient: "client-0"},
		{State: api.StateOpen, Client: "client-0", Other: "connection-1", OtherClient: "client-5"},
		{State: -1, Client: "client-1", Other: long(), OtherClient: "client-5"},
		{State: math.MaxInt, Client: "client-0", Other: "x", OtherClient: "client-5"},
	} {
		id := fmt.Sprintf("connection-%d", i)
		mustInit(t, j, c, id)
		mustGet(t, j, id, api.Conn{State: api.StateInit, Client: c.Client, OtherClient: c.OtherClient})
	}
	mustGet(t, j, "connection-0", api.Conn{State: api.StateInit, Client: "client-0", OtherClient: "client-0"})
}

// Promise 15.2, Init: each error, and the first of several.
func TestInitErrors(t *testing.T) {
	fine, ice := ofLeft(t), ofLeft(t)
	freeze(t, ice)
	for _, text := range noClient() {
		mustNotInit(t, "no name", fine, api.Conn{Client: "client-0", OtherClient: text}, api.ErrName)
		mustNotInit(t, "no name, ahead of no client", fine, api.Conn{Client: "client-1", OtherClient: text}, api.ErrName)
		mustNotInit(t, "no name, ahead of a frozen client", ice, api.Conn{Client: "client-0", OtherClient: text}, api.ErrName)
		mustNotInit(t, "no client", fine, api.Conn{Client: text, OtherClient: "client-5"}, api.ErrNone)
		mustNotInit(t, "no client, though another one is frozen", ice, api.Conn{Client: text, OtherClient: "client-5"}, api.ErrNone)
	}
	mustNotInit(t, "no client of this number", fine, api.Conn{Client: "client-1", OtherClient: "client-0"}, api.ErrNone)
	mustNotInit(t, "a frozen client", ice, api.Conn{Client: "client-0", OtherClient: "client-5"}, api.ErrFrozen)
	addClient(t, ice, "k", "client-1")
	mustInit(t, ice, api.Conn{Client: "client-1", OtherClient: "client-0"}, "connection-0")
	mustInit(t, fine, api.Conn{Client: "client-0", OtherClient: "client-5"}, "connection-0")
}

// Promise 15.2, Try: ids in their order, of ends of both kinds; the state that comes in does not matter.
func TestTry(t *testing.T) {
	j := ofLeft(t)
	addClient(t, j, "l", "client-1")
	mustInit(t, j, without(ours(0)), "connection-0")
	number := 1
	for _, other := range []string{"connection-7", "connection-0", "connection-1", "connection-1099511627776"} {
		for _, id := range []string{"client-0", "client-1"} {
			for _, state := range []int{0, api.StateInit, api.StateOpen, -1, math.MaxInt} {
				c := api.Conn{State: state, Client: id, Other: other, OtherClient: "client-5"}
				l := list("conn/"+other, conn.Put(api.Conn{State: api.StateInit, Client: "client-5", OtherClient: id}))
				tellClient(t, j, id, map[string]string{"client-0": "k", "client-1": "l"}[id], number, l)
				made := fmt.Sprintf("connection-%d", number)
				mustTry(t, j, c, at(t, number, l, "conn/"+other), made)
				c.State = api.StateTry
				mustGet(t, j, made, c)
				number++
			}
		}
	}
	mustGet(t, j, "connection-0", without(ours(api.StateInit)))
}

// Promise 15.2, Try: one end of the other chain may be answered more than once, as long as it can be proved.
func TestTryAgain(t *testing.T) {
	j := ofLeft(t)
	l := list(theirKey, conn.Put(without(theirs(api.StateInit))))
	where := shown(t, j, 1, l, theirKey)
	for i := range 3 {
		mustTry(t, j, ours(0), where, fmt.Sprintf("connection-%d", i))
	}
}

// Promise 15.2, Try: each error, and the first of several.
func TestTryErrors(t *testing.T) {
	fine, ice := ofLeft(t), ofLeft(t)
	l := list(theirKey, conn.Put(without(theirs(api.StateInit))))
	good := shown(t, fine, 1, l, theirKey)
	tell(t, ice, 1, l)
	freeze(t, ice)
	bad := api.At{Height: 2, Proof: "x"}
	with := func(own, other, client string) api.Conn {
		return api.Conn{Client: own, Other: other, OtherClient: client}
	}
	for _, text := range noClient() {
		mustNotTry(t, "no name of a client", fine, with("client-0", "connection-7", text), good, api.ErrName)
		mustNotTry(t, "no name of a client, ahead of all else", ice, with("client-1", "connection-7", text), bad, api.ErrName)
		mustNotTry(t, "no client", fine, with(text, "connection-7", "client-5"), good, api.ErrNone)
		mustNotTry(t, "no client, ahead of a bad proof", ice, with(text, "connection-7", "client-5"), bad, api.ErrNone)
	}
	for _, text := range noConn() {
		mustNotTry(t, "no name of a connection", fine, with("client-0", text, "client-5"), good, api.ErrName)
		mustNotTry(t, "no name of a connection, ahead of all else", ice, with("client-1", text, "client-5"), bad, api.ErrName)
	}
	mustNotTry(t, "no client", fine, with("client-1", "connection-7", "client-5"), good, api.ErrNone)
	mustNotTry(t, "a frozen client", ice, ours(0), good, api.ErrFrozen)
	mustNotTry(t, "a frozen client, ahead of a bad proof", ice, ours(0), bad, api.ErrFrozen)
	mustNotTry(t, "another connection", fine, with("client-0", "connection-8", "client-5"), good, api.ErrProof)
	mustNotTry(t, "another client there", fine, with("client-0", "connection-7", "client-6"), good, api.ErrProof)
	wrongProofs(t, good, func(what string, where api.At, want api.Errno) {
		t.Helper()
		mustNotTry(t, what, fine, ours(0), where, want)
	})
	mustTry(t, fine, ours(0), good, "connection-0")
}

// wrongProofs tries heights that were not seen, and proofs that are none or are of another key, beside one that is good at height 1.
func wrongProofs(t *testing.T, good api.At, try func(what string, where api.At, want api.Errno)) {
	t.Helper()
	for _, height := range []int{math.MinInt, -1, 0, 2, 3, api.MaxCount, api.MaxCount + 1, math.MaxInt} {
		try("a height that was not seen", api.At{Height: height, Proof: good.Proof}, api.ErrHeight)
		try("a height that was not seen, ahead of a bad proof", api.At{Height: height, Proof: "x"}, api.ErrHeight)
	}
	for i := range good.Proof {
		try("a proof that is cut", api.At{Height: 1, Proof: good.Proof[:i]}, api.ErrProof)
		turned := []byte(good.Proof)
		turned[i] ^= 1
		try("a proof with one byte changed", api.At{Height: 1, Proof: string(turned)}, api.ErrProof)
	}
	try("a proof with a byte left over", api.At{Height: 1, Proof: good.Proof + "\x00"}, api.ErrProof)
	try("a proof that a key is absent", at(t, 1, nil, theirKey), api.ErrProof)
}

// wrongEnds tries, against the end that is to be proved, ends that differ from it, the end under another key, and no end.
func wrongEnds(t *testing.T, right api.Conn, try func(what string, l []api.Pair, key string)) {
	t.Helper()
	for _, c := range others(right) {
		try("the end "+told(c), list(theirKey, conn.Put(c)), theirKey)
	}
	value := conn.Put(right)
	try("a byte more", list(theirKey, value+"\x00"), theirKey)
	try("a byte less", list(theirKey, value[:len(value)-1]), theirKey)
	try("no value", list(theirKey, ""), theirKey)
	for _, key := range []string{"conn/connection-2", "conn/connection-70", "conn/connection-", "conn", "connection-7", "chan/connection-7", "conn/client-0/connection-7", "conn/connection-7/", ""} {
		try("under the key "+key, list(key, value), key)
		try("a proof of the key "+key, list(key, value, theirKey, value), key)
	}
	try("no pair", nil, theirKey)
	try("absent between others", list("a", "1", "z", "2"), theirKey)
}

// Promise 15.2, Try: the end that is proved must be the one of the other chain in StateInit, in all its fields and under its key.
func TestTryProves(t *testing.T) {
	right := without(theirs(api.StateInit))
	wrongEnds(t, right, func(what string, l []api.Pair, key string) {
		j := ofLeft(t)
		mustNotTry(t, what, j, ours(0), shown(t, j, 1, l, key), api.ErrProof)
	})
	j := ofLeft(t)
	l := list("a", "1", theirKey, conn.Put(right), "z", "2")
	where := shown(t, j, 2, l, theirKey)
	tell(t, j, 1, nil)
	mustNotTry(t, "a proof of another height", j, ours(0), api.At{Height: 1, Proof: where.Proof}, api.ErrProof)
	mustTry(t, j, ours(0), where, "connection-0")
}

// Promise 15.2, Ack: the end is open and has the other one's id; all else stays, and so do other ends.
func TestAck(t *testing.T) {
	for _, other := range []string{"connection-7", "connection-0", "connection-2", "connection-1099511627776"} {
		for _, before := range []string{"", "connection-7", "connection-8", "x"} {
			c := api.Conn{State: api.StateInit, Client: "client-0", Other: before, OtherClient: "client-5"}
			j := over("client/client-0", left, "conn/connection-2", conn.Put(c), "conn/connection-3", conn.Put(c), "next/conn", "\x01\x03")
			key := "conn/" + other
			l := list("a", "1", key, conn.Put(theirs(api.StateTry)), "z", "2")
			mustAck(t, j, "connection-2", other, shown(t, j, 1, l, key))
			mustGet(t, j, "connection-2", api.Conn{State: api.StateOpen, Client: "client-0", Other: other, OtherClient: "client-5"})
			mustGet(t, j, "connection-3", c)
			mustInit(t, j, c, "connection-3")
		}
	}
}

// Promise 15.2, Ack: each error, and the first of several.
func TestAckErrors(t *testing.T) {
	l := list(theirKey, conn.Put(theirs(api.StateTry)))
	fine, ice := having(ours(api.StateInit)), having(ours(api.StateInit))
	good := shown(t, fine, 1, l, theirKey)
	tell(t, ice, 1, l)
	freeze(t, ice)
	bad := api.At{Height: 2, Proof: "x"}
	for _, text := range noConn() {
		mustNotAck(t, "no end", fine, text, "connection-7", good, api.ErrNone)
		mustNotAck(t, "no end, ahead of all else", ice, text, text, bad, api.ErrNone)
		mustNotAck(t, "no name", fine, "connection-2", text, good, api.ErrName)
		mustNotAck(t, "no name, ahead of a frozen client", ice, "connection-2", text, bad, api.ErrName)
	}
	mustNotAck(t, "no end", fine, "connection-0", "connection-7", good, api.ErrNone)
	mustNotAck(t, "a frozen client", ice, "connection-2", "connection-7", good, api.ErrFrozen)
	mustNotAck(t, "a frozen client, ahead of a bad proof", ice, "connection-2", "connection-7", bad, api.ErrFrozen)
	mustNotAck(t, "another connection", fine, "connection-2", "connection-8", good, api.ErrProof)
	for _, state := range []int{0, api.StateTry, api.StateOpen, api.StateClosed, 5, 257} {
		j := having(ours(state))
		tell(t, j, 1, l)
		mustNotAck(t, "another state", j, "connection-2", "connection-7", good, api.ErrState)
		mustNotAck(t, "another state, ahead of a bad proof", j, "connection-2", "connection-7", bad, api.ErrState)
		mustNotAck(t, "no name, ahead of another state", j, "connection-2", "x", good, api.ErrName)
		freeze(t, j)
		mustNotAck(t, "another state, ahead of a frozen client", j, "connection-2", "connection-7", good, api.ErrState)
	}
	j := over("conn/connection-2", conn.Put(ours(api.StateInit)))
	mustNotAck(t, "no client", j, "connection-2", "connection-7", good, api.ErrNone)
	wrongProofs(t, good, func(what string, where api.At, want api.Errno) {
		t.Helper()
		mustNotAck(t, what, fine, "connection-2", "connection-7", where, want)
	})
	mustAck(t, fine, "connection-2", "connection-7", good)
	mustNotAck(t, "once more", fine, "connection-2", "connection-7", good, api.ErrState)
}

// Promise 15.2, Ack: the end that is proved must be the one of the other chain in StateTry, in all its fields and under the key that is told.
func TestAckProves(t *testing.T) {
	right := theirs(api.StateTry)
	wrongEnds(t, right, func(what string, l []api.Pair, key string) {
		for _, before := range []string{"", "connection-7", "connection-8"} {
			j := having(api.Conn{State: api.StateInit, Client: "client-0", Other: before, OtherClient: "client-5"})
			mustNotAck(t, what, j, "connection-2", "connection-7", shown(t, j, 1, l, key), api.ErrProof)
		}
	})
}

// Promise 15.2, Done: the end is open; all else stays, and so do other ends.
func TestDone(t *testing.T) {
	for _, other := range []string{"connection-7", "connection-0", "connection-2", "connection-1099511627776"} {
		c := api.Conn{State: api.StateTry, Client: "client-0", Other: other, OtherClient: "client-5"}
		j := over("client/client-0", left, "conn/connection-2", conn.Put(c), "conn/connection-3", conn.Put(c), "next/conn", "\x01\x03")
		key := "conn/" + other
		l := list("a", "1", key, conn.Put(theirs(api.StateOpen)), "z", "2")
		mustDone(t, j, "connection-2", shown(t, j, 1, l, key))
		mustGet(t, j, "connection-3", c)
		c.State = api.StateOpen
		mustGet(t, j, "connection-2", c)
		mustInit(t, j, c, "connection-3")
	}
}

// Promise 15.2, Done: each error, and the first of several.
func TestDoneErrors(t *testing.T) {
	l := list(theirKey, conn.Put(theirs(api.StateOpen)))
	fine, ice := having(ours(api.StateTry)), having(ours(api.StateTry))
	good := shown(t, fine, 1, l, theirKey)
	tell(t, ice, 1, l)
	freeze(t, ice)
	bad := api.At{Height: 2, Proof: "x"}
	for _, text := range append(noConn(), "connection-0", "connection-7") {
		mustNotDone(t, "no end", fine, text, good, api.ErrNone)
		mustNotDone(t, "no end, ahead of all else", ice, text, bad, api.ErrNone)
	}
	mustNotDone(t, "a frozen client", ice, "connection-2", good, api.ErrFrozen)
	mustNotDone(t, "a frozen client, ahead of a bad proof", ice, "connection-2", bad, api.ErrFrozen)
	for _, state := range []int{0, api.StateInit, api.StateOpen, api.StateClosed, 5, 258} {
		j := having(ours(state))
		tell(t, j, 1, l)
		mustNotDone(t, "another state", j, "connection-2", good, api.ErrState)
		mustNotDone(t, "another state, ahead of a bad proof", j, "connection-2", bad, api.ErrState)
		freeze(t, j)
		mustNotDone(t, "another state, ahead of a frozen client", j, "connection-2", good, api.ErrState)
	}
	j := over("conn/connection-2", conn.Put(ours(api.StateTry)))
	mustNotDone(t, "no client", j, "connection-2", good, api.ErrNone)
	wrongProofs(t, good, func(what string, where api.At, want api.Errno) {
		t.Helper()
		mustNotDone(t, what, fine, "connection-2", where, want)
	})
	mustDone(t, fine, "connection-2", good)
	mustNotDone(t, "once more", fine, "connection-2", good, api.ErrState)
}

// Promise 15.2, Done: the end that is proved must be the one of the other chain in StateOpen, in all its fields and under its key.
func TestDoneProves(t *testing.T) {
	wrongEnds(t, theirs(api.StateOpen), func(what string, l []api.Pair, key string) {
		j := having(ours(api.StateTry))
		mustNotDone(t, what, j, "connection-2", shown(t, j, 1, l, key), api.ErrProof)
	})
}

// Promise 15.2: the end's own client is asked, not another one of this chain, nor one with the other chain's number.
func TestOwnClient(t *testing.T) {
	for _, knows := range []string{"client-0", "client-1", "client-5"} {
		has := func(c api.Conn, shown api.Conn) (*journal.Journal, api.At) {
			l := list(theirKey, conn.Put(shown))
			j := over("client/client-0", left, "client/client-1", left, "client/client-5", left, "conn/connection-2", conn.Put(c))
			tellClient(t, j, knows, "k", 1, l)
			return j, at(t, 1, l, theirKey)
		}
		want := api.ErrHeight
		if knows == "client-0" {
			want = api.OK
		}
		j, where := has(ours(0), without(theirs(api.StateInit)))
		if _, err := conn.Try(j, ours(0), where); err != want {
			t.Errorf("Try, as %s knows: %d; want %d", knows, err, want)
		}
		j, where = has(ours(api.StateInit), theirs(api.StateTry))
		if err := conn.Ack(j, "connection-2", "connection-7", where); err != want {
			t.Errorf("Ack, as %s knows: %d; want %d", knows, err, want)
		}
		j, where = has(ours(api.StateTry), theirs(api.StateOpen))
		if err := conn.Done(j, "connection-2", where); err != want {
			t.Errorf("Done, as %s knows: %d; want %d", knows, err, want)
		}
	}
}

// Promise 15.2: a later header, or the same state at another height, does not matter; only the height that is told does.
func TestHeights(t *testing.T) {
	for _, height := range []int{1, 2, 3, 300, api.MaxCount} {
		j := having(ours(api.StateTry))
		l := list(theirKey, conn.Put(theirs(api.StateOpen)))
		for _, known := range []int{3, 300, 1, api.MaxCount, 2} {
			if known == height {
				tell(t, j, known, l)
			} else {
				tell(t, j, known, list(theirKey, conn.Put(theirs(api.StateInit))))
			}
		}
		for _, told := range []int{1, 2, 3, 300, api.MaxCount} {
			if told != height {
				mustNotDone(t, "another height", j, "connection-2", at(t, told, l, theirKey), api.ErrProof)
			}
		}
		mustDone(t, j, "connection-2", at(t, height, l, theirKey))
	}
}
