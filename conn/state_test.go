package conn_test

import (
	"math"
	"strings"
	"testing"

	"footbridge/api"
	"footbridge/conn"
	"footbridge/journal"
	"footbridge/merkle"
)

// left is an encoded client of the chain left whose key is k.
const left = "\x01\x04left\x01\x01k\x00\x00"

// Promise 15.1: the encoding of an end, with its bytes written out, and what has no encoding left out.
func TestPut(t *testing.T) {
	most := "\x03\x01\x00\x00" + full()
	for _, c := range []struct {
		end  api.Conn
		want string
	}{
		{api.Conn{}, "\x00\x00\x00\x00"},
		{api.Conn{State: api.StateInit, Client: "client-0", OtherClient: "client-5"}, "\x01\x01\x01\x08client-0\x00\x01\x08client-5"},
		{api.Conn{State: api.StateTry, Client: "client-0", Other: "connection-7", OtherClient: "client-5"}, "\x01\x02\x01\x08client-0\x01\x0cconnection-7\x01\x08client-5"},
		{api.Conn{State: api.StateOpen, Client: "a", Other: "b", OtherClient: "c"}, "\x01\x03\x01\x01a\x01\x01b\x01\x01c"},
		{api.Conn{State: api.StateClosed, Client: "\x00/%", Other: "\xff", OtherClient: strings.Repeat("z", 256)}, "\x01\x04\x01\x03\x00/%\x01\x01\xff\x02\x01\x00" + strings.Repeat("z", 256)},
		{api.Conn{State: 300, Other: "b"}, "\x02\x01\x2c\x00\x01\x01b\x00"},
		{api.Conn{State: api.MaxNum, Client: "a"}, "\x07\x20\x00\x00\x00\x00\x00\x00\x01\x01a\x00\x00"},
		{api.Conn{State: api.MaxNum + 1, Client: "a", Other: "b", OtherClient: "c"}, "\x01\x01a\x01\x01b\x01\x01c"},
		{api.Conn{State: -1, Client: "a", Other: "b", OtherClient: "c"}, "\x01\x01a\x01\x01b\x01\x01c"},
		{api.Conn{State: math.MinInt}, "\x00\x00\x00"},
		{api.Conn{State: math.MaxInt}, "\x00\x00\x00"},
		{api.Conn{State: 1, Client: full(), Other: full(), OtherClient: full()}, "\x01\x01" + most + most + most},
		{api.Conn{State: 1, Client: long(), Other: "b", OtherClient: "c"}, "\x01\x01\x01\x01b\x01\x01c"},
		{api.Conn{State: 1, Client: "a", Other: long(), OtherClient: "c"}, "\x01\x01\x01\x01a\x01\x01c"},
		{api.Conn{State: 1, Client: "a", Other: "b", OtherClient: long()}, "\x01\x01\x01\x01a\x01\x01b"},
		{api.Conn{State: -1, Client: long(), Other: long(), OtherClient: long()}, ""},
	} {
		if got := conn.Put(c.end); got != c.want {
			t.Errorf("Put(%s) = %.80q; want %.80q", told(c.end), got, c.want)
		}
	}
}

// Promise 15.1: the keys and values that each of the four steps stores, with their bytes written out.
func TestStored(t *testing.T) {
	j := ofLeft(t)
	mustHold(t, j)
	mustInit(t, j, api.Conn{Client: "client-0", OtherClient: "client-5"}, "connection-0")
	mustHold(t, j, "conn/connection-0", "\x01\x01\x01\x08client-0\x00\x01\x08client-5", "next/conn", "\x01\x01")

	tried := list("conn/connection-3", "\x01\x01\x01\x08client-9\x00\x01\x08client-0", "conn/connection-7", "\x01\x02\x01\x08client-5\x01\x0cconnection-0\x01\x08client-0")
	tell(t, j, 1, tried)
	mustTry(t, j, api.Conn{Client: "client-0", Other: "connection-3", OtherClient: "client-9"}, at(t, 1, tried, "conn/connection-3"), "connection-1")
	second := "\x01\x02\x01\x08client-0\x01\x0cconnection-3\x01\x08client-9"
	mustHold(t, j, "conn/connection-0", "\x01\x01\x01\x08client-0\x00\x01\x08client-5", "conn/connection-1", second, "next/conn", "\x01\x02")

	mustAck(t, j, "connection-0", "connection-7", at(t, 1, tried, "conn/connection-7"))
	first := "\x01\x03\x01\x08client-0\x01\x0cconnection-7\x01\x08client-5"
	mustHold(t, j, "conn/connection-0", first, "conn/connection-1", second, "next/conn", "\x01\x02")

	open := list("conn/connection-3", "\x01\x03\x01\x08client-9\x01\x0cconnection-1\x01\x08client-0")
	mustDone(t, j, "connection-1", shown(t, j, 2, open, "conn/connection-3"))
	second = "\x01\x03\x01\x08client-0\x01\x0cconnection-3\x01\x08client-9"
	mustHold(t, j, "conn/connection-0", first, "conn/connection-1", second, "next/conn", "\x01\x02")
}

// Promise 15.1: the steps store nothing else, and the clients stay as they are.
func TestStepsStoreNoMore(t *testing.T) {
	j := ofLeft(t)
	l := list("conn/connection-3", "\x01\x01\x01\x08client-9\x00\x01\x08client-0")
	where := shown(t, j, 1, l, "conn/connection-3")
	before := j.List()
	mustInit(t, j, api.Conn{Client: "client-0", OtherClient: "client-5"}, "connection-0")
	mustTry(t, j, api.Conn{Client: "client-0", Other: "connection-3", OtherClient: "client-9"}, where, "connection-1")
	if after := j.List(); len(after) != len(before)+3 {
		t.Errorf("stored before: %s\nand after: %s", show(before), show(after))
	}
	for _, p := range before {
		if value, there := j.Get(p.Key); !there || value != p.Value {
			t.Errorf("the value of %q is %q, %t; it was %q", p.Key, value, there, p.Value)
		}
	}
}

// Promise 15.1: what is stored is all that counts, so that a journal over the same pairs goes on with it.
func TestStateIsStored(t *testing.T) {
	tried := list("conn/connection-7", "\x01\x02\x01\x08client-5\x01\x0bconnection-\x01\x08client-0", "conn/connection-8", "\x01\x03\x01\x08client-5\x01\x03a/b\x01\x08client-0")
	j := over("client/client-0", left, "next/conn", "\x02\x01\x00", "conn/connection-", "\x01\x01\x01\x08client-0\x00\x01\x08client-5",
		"conn/a%sb", "\x01\x02\x01\x08client-0\x01\x0cconnection-8\x01\x08client-5")
	mustAck(t, j, "connection-", "connection-7", shown(t, j, 1, tried, "conn/connection-7"))
	mustDone(t, j, "a/b", at(t, 1, tried, "conn/connection-8"))
	mustInit(t, j, api.Conn{Client: "client-0", OtherClient: "client-5"}, "connection-256")
	mustHold(t, j, "conn/connection-", "\x01\x03\x01\x08client-0\x01\x0cconnection-7\x01\x08client-5", "conn/a%sb", "\x01\x03\x01\x08client-0\x01\x0cconnection-8\x01\x08client-5",
		"conn/connection-256", "\x01\x01\x01\x08client-0\x00\x01\x08client-5", "next/conn", "\x02\x01\x01")
}

// Promise 15.1: a number of ends that is not encoded as it must be counts as none; the number of clients is another one.
func TestMalformedNumber(t *testing.T) {
	for _, value := range []string{"", "\x01", "\x08", "\x01\x00", "\x02\x00\x01", "\x01\x05\x00", "\x01\x05x", "5",
		"\x07\x20\x00\x00\x00\x00\x00\x01", "\x02\x01"} {
		j := over("client/client-0", left, "next/conn", value, "next/client", "\x01\x09")
		mustInit(t, j, api.Conn{Client: "client-0", OtherClient: "client-5"}, "connection-0")
		mustHold(t, j, "conn/connection-0", "\x01\x01\x01\x08client-0\x00\x01\x08client-5", "next/conn", "\x01\x01")
	}
	j := over("client/client-0", left, "next/conn", "\x00")
	mustInit(t, j, api.Conn{Client: "client-0", OtherClient: "client-5"}, "connection-0")
}

// Promise 15.2: the last number that names.Make takes, and none behind it, whatever creates the end.
func TestNumbers(t *testing.T) {
	c := api.Conn{Client: "client-0", Other: "connection-3", OtherClient: "client-5"}
	l := list("conn/connection-3", "\x01\x01\x01\x08client-5\x00\x01\x08client-0")
	for _, step := range []string{"init", "try"} {
		j := over("client/client-0", left, "next/conn", "\x06\x01\x00\x00\x00\x00\x00")
		where := shown(t, j, 1, l, "conn/connection-3")
		value := "\x01\x01\x01\x08client-0\x00\x01\x08client-5"
		if step == "init" {
			mustInit(t, j, c, "connection-1099511627776")
		} else {
			mustTry(t, j, c, where, "connection-1099511627776")
			value = "\x01\x02\x01\x08client-0\x01\x0cconnection-3\x01\x08client-5"
		}
		mustHold(t, j, "conn/connection-1099511627776", value, "next/conn", "\x06\x01\x00\x00\x00\x00\x01")
		more := over("client/client-0", left, "next/conn", "\x07\x20\x00\x00\x00\x00\x00\x00")
		tell(t, more, 1, l)
		for _, j := range []*journal.Journal{j, more} {
			mustNotInit(t, "too many ends", j, c, api.ErrRange)
			mustNotTry(t, "too many ends", j, c, where, api.ErrRange)
			mustNotTry(t, "too many ends, and no proof", j, c, api.At{Height: 1}, api.ErrProof)
			mustNotInit(t, "too many ends, and no client", j, api.Conn{Client: "client-1", OtherClient: "client-5"}, api.ErrNone)
		}
	}
}

// Promise 15.2, Get: an end that is not stored, or not as it must be, does not exist, for any function.
func TestNoEnd(t *testing.T) {
	good := "\x01\x01\x01\x01a\x01\x01b\x01\x01c"
	none := func(j *journal.Journal, id string) {
		t.Helper()
		mustNotGet(t, j, id, api.ErrNone)
		for _, other := range []string{"connection-0", "x", ""} {
			mustNotAck(t, "no end", j, id, other, api.At{Height: 1, Proof: "x"}, api.ErrNone)
		}
		mustNotDone(t, "no end", j, id, api.At{}, api.ErrNone)
	}
	j := over("client/client-0", left, "conn/connection-0", good, "conn", good, "next/conn", good)
	for _, id := range []string{"", "connection-1", "connection-00", "connection-", "connection", "Connection-0", "connection-0 ", " connection-0",
		"connection-0/", "/connection-0", "0", "client-0", long()} {
		none(j, id)
	}
	values := []string{"", "x", "\x00", "\x00\x00", "\x00\x00\x00", "\x00\x00\x00\x00\x00", good + "x", good + "\x00", good + good, "\x01" + good,
		"\x01\x00\x00\x00\x00", "\x02\x00\x01\x00\x00\x00", "\x08\x00\x00\x00", "\x07\x20\x00\x00\x00\x00\x00\x01\x00\x00\x00",
		"\x01\x01\x01\x00\x00\x00", "\x01\x01\x02\x00\x01a\x00\x00", "\x00\x03\x01\x00\x01" + long() + "\x00\x00", "\x00\x00\x00\x03\x01\x00\x01" + long(),
		"\x00\x00\x03\x01\x00\x01" + long() + "\x00"}
	for i := range good {
		values = append(values, good[:i], good[i+1:])
	}
	for _, value := range values {
		none(over("client/client-0", left, "conn/connection-0", value), "connection-0")
	}
}

// Promises 15.1 and 15.2, Get: ends with any fields that have an encoding are there, under any id.
func TestGetStored(t *testing.T) {
	for _, c := range []api.Conn{
		{}, {State: api.StateClosed}, {State: 5, Client: "a"}, {State: 255}, {State: 256}, {State: api.MaxNum, Other: "b"},
		{State: api.StateInit, Client: "client-0", OtherClient: "client-5"},
		{State: api.StateOpen, Client: "client-0", Other: "connection-7", OtherClient: "client-5"},
		{Client: "\x00", Other: "/%\xff", OtherClient: strings.Repeat("z", 300)},
		{State: api.StateTry, Client: full(), Other: full(), OtherClient: full()},
	} {
		j := over("conn/", conn.Put(c), "conn/a%sb%pc", conn.Put(c), "conn/connection-0", conn.Put(c))
		for _, id := range []string{"", "a/b%c", "connection-0"} {
			mustGet(t, j, id, c)
		}
	}
}

// Promise 15.1: the state of Put is what Get reads, and neither more nor less.
func TestPutAndGet(t *testing.T) {
	texts := []string{"", "a", "client-0", "\x00", "\x01\x01a", strings.Repeat("x", 255), strings.Repeat("x", 256)}
	values := map[string]api.Conn{}
	for _, state := range []int{0, 1, 2, 3, 4, 255, 256, api.MaxNum} {
		for i := range len(texts) * len(texts) * len(texts) {
			c := api.Conn{State: state, Client: texts[i%len(texts)], Other: texts[i/len(texts)%len(texts)], OtherClient: texts[i/len(texts)/len(texts)]}
			value := conn.Put(c)
			if before, there := values[value]; there {
				t.Fatalf("%s and %s have one encoding", told(before), told(c))
			}
			values[value] = c
			mustGet(t, over("conn/connection-0", value), "connection-0", c)
		}
	}
}

// Promise 15.1: in an open level the ends are part of that level, and the levels stay as they are.
func TestLevels(t *testing.T) {
	j := ofLeft(t)
	l := list("conn/connection-7", "\x01\x02\x01\x08client-5\x01\x0cconnection-0\x01\x08client-0")
	where := shown(t, j, 1, l, "conn/connection-7")
	init := api.Conn{Client: "client-0", OtherClient: "client-5"}
	j.Begin()
	mustInit(t, j, init, "connection-0")
	j.Begin()
	mustAck(t, j, "connection-0", "connection-7", where)
	mustInit(t, j, init, "connection-1")
	if j.Depth() != 2 {
		t.Errorf("Depth() = %d; want 2", j.Depth())
	}
	c := j.Copy()
	j.Rollback()
	mustGet(t, j, "connection-0", api.Conn{State: api.StateInit, Client: "client-0", OtherClient: "client-5"})
	mustInit(t, j, init, "connection-1")
	j.Rollback()
	mustHold(t, j)
	mustInit(t, j, init, "connection-0")
	c.Commit()
	c.Commit()
	mustGet(t, c, "connection-0", api.Conn{State: api.StateOpen, Client: "client-0", Other: "connection-7", OtherClient: "client-5"})
	mustInit(t, c, init, "connection-2")
}

// knowing returns a journal in which a client of any id, even one too long for the journal itself, is stored with what it has seen at height 1.
func knowing(id string, seen []api.Pair, texts ...string) *journal.Journal {
	texts = append(texts, "client/"+id, left, "seen/"+id+"/00000000000001", "\x00\x01\x20"+merkle.Root(seen))
	return over(texts...)
}

// Rule R2: an end whose value or key is too long for the journal is refused, and nothing of it stays.
func TestTooLongToStore(t *testing.T) {
	// Beside the id of the client stand the state, the id's length, an empty Other and the other client.
	longest := full()[:api.MaxText-2-3-1-10]
	end := api.Conn{State: api.StateInit, Client: longest, OtherClient: "client-5"}
	for _, id := range []string{longest + "f", full()} {
		mustNotInit(t, "a client's id that is too long", knowing(id, nil), api.Conn{Client: id, OtherClient: "client-5"}, api.ErrLong)
	}
	key := "conn/connection-7"
	l := list(key, conn.Put(api.Conn{State: api.StateTry, Client: "client-5", Other: "connection-0", OtherClient: longest}))
	j := knowing(longest, l)
	mustInit(t, j, end, "connection-0")
	mustGet(t, j, "connection-0", end)
	mustNotAck(t, "an end that has no room for another id", j, "connection-0", "connection-7", at(t, 1, l, key), api.ErrLong)

	// An id of twelve bytes takes thirteen more than an empty one.
	tried := longest[:len(longest)-13]
	for _, id := range []string{longest, tried + "f"} {
		l = list(key, conn.Put(api.Conn{State: api.StateInit, Client: "client-5", OtherClient: id}))
		mustNotTry(t, "a client's id that is too long beside another id", knowing(id, l), api.Conn{Client: id, Other: "connection-7", OtherClient: "client-5"}, at(t, 1, l, key), api.ErrLong)
	}
	l = list(key, conn.Put(api.Conn{State: api.StateInit, Client: "client-5", OtherClient: tried}))
	mustTry(t, knowing(tried, l), api.Conn{Client: tried, Other: "connection-7", OtherClient: "client-5"}, at(t, 1, l, key), "connection-0")

	id := full()[:api.MaxText-len("conn/")+1]
	l = list(key, conn.Put(api.Conn{State: api.StateTry, Client: "client-5", Other: id, OtherClient: "client-0"}))
	j = knowing("client-0", l, "conn/"+id, conn.Put(api.Conn{State: api.StateInit, Client: "client-0", OtherClient: "client-5"}))
	mustNotAck(t, "an id that is too long", j, id, "connection-7", at(t, 1, l, key), api.ErrLong)
	l = list(key, conn.Put(api.Conn{State: api.StateOpen, Client: "client-5", Other: id, OtherClient: "client-0"}))
	j = knowing("client-0", l, "conn/"+id, conn.Put(api.Conn{State: api.StateTry, Client: "client-0", Other: "connection-7", OtherClient: "client-5"}))
	mustNotDone(t, "an id that is too long", j, id, at(t, 1, l, key), api.ErrLong)
}

// Promise 15.1: an id that has no encoding contributes no bytes to what is stored, which then is no end.
func TestIdWithoutEncoding(t *testing.T) {
	j := knowing(long(), nil)
	mustInit(t, j, api.Conn{Client: long(), OtherClient: "client-5"}, "connection-0")
	mustHold(t, j, "conn/connection-0", "\x01\x01\x00\x01\x08client-5", "next/conn", "\x01\x01")
	mustNotGet(t, j, "connection-0", api.ErrNone)
}
