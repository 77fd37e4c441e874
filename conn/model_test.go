package conn_test

import (
	"fmt"
	"math/rand"
	"slices"
	"testing"

	"footbridge/api"
	"footbridge/client"
	"footbridge/conn"
	"footbridge/header"
	"footbridge/journal"
	"footbridge/merkle"
	"footbridge/names"
)

func clientOf(n int) string { return fmt.Sprintf("client-%d", n) }
func connOf(n int) string   { return fmt.Sprintf("connection-%d", n) }

// block is what a chain had at a height: its pairs, and the ends that the chapter says that they stand for.
type block struct {
	pairs []api.Pair
	ends  []api.Conn
}

// side is a chain, what the chapter says that it has, and which heights of the other chain its two clients have seen.
type side struct {
	j      *journal.Journal
	ends   []api.Conn
	blocks []block
	seen   [2]map[int]bool
}

// world is two chains that are told only what is true of each other, and how many ends each step has made or opened.
type world struct {
	sides [2]*side
	count map[string]int
}

func newWorld(t *testing.T) *world {
	w := &world{count: map[string]int{}}
	for i := range w.sides {
		j := ofLeft(t)
		addClient(t, j, "k", "client-1")
		w.sides[i] = &side{j: j, seen: [2]map[int]bool{{}, {}}}
	}
	return w
}

// close makes what the chain has now its next block.
func (s *side) close() { s.blocks = append(s.blocks, block{s.j.List(), slices.Clone(s.ends)}) }

// learn lets a client see the other chain's own header of a height, if there is one that it has not seen.
func (s *side) learn(t *testing.T, far *side, number, height int) {
	t.Helper()
	if height < 1 || height > len(far.blocks) || s.seen[number][height] {
		return
	}
	h, _ := header.Sign("k", api.Header{Chain: "left", Height: height, Time: height, Root: merkle.Root(far.blocks[height-1].pairs)})
	raw, _ := header.Put(h)
	if err := client.Update(s.j, clientOf(number), raw); err != api.OK {
		t.Fatalf("client.Update at height %d: error %d", height, err)
	}
	s.seen[number][height] = true
}

// evidence is a proof built of the other chain's block of one height, which is told to be of another one.
type evidence struct{ built, told int }

func (s *side) prove(t *testing.T, far *side, e evidence, other string) api.At {
	t.Helper()
	if e.built < 1 || e.built > len(far.blocks) {
		return api.At{Height: e.told}
	}
	return at(t, e.told, far.blocks[e.built-1].pairs, "conn/"+other)
}

// believes is what this chain answers when the evidence is to show that the other chain has an end.
func (s *side) believes(far *side, own string, e evidence, other string, want api.Conn) api.Errno {
	number, _ := names.Number(api.NameClient, own)
	if number > 1 {
		return api.ErrNone
	}
	if !s.seen[number][e.told] {
		return api.ErrHeight
	}
	id, _ := names.Number(api.NameConn, other)
	told := far.blocks[e.told-1]
	built := e.built >= 1 && e.built <= len(far.blocks) && slices.Equal(far.blocks[e.built-1].pairs, told.pairs)
	if built && id < len(told.ends) && told.ends[id] == want {
		return api.OK
	}
	return api.ErrProof
}

// move is a step of either chain, with numbers of clients, ends and heights.
type move struct {
	what, where, own, theirs int
	id, other                int
	evidence
}

// moveOf makes a move of bytes; numbers of ends reach one beyond the last one.
func (w *world) moveOf(b [6]byte) move {
	m := move{what: int(b[0]) % 32, where: int(b[1]) % 2, own: int(b[1]/2) % 16 * 2 / 15, theirs: int(b[2]) % 16 * 2 / 15}
	s, far := w.sides[m.where], w.sides[1-m.where]
	m.id, m.other = int(b[3])%(len(s.ends)+1), int(b[4])%(len(far.ends)+1)
	m.told = len(far.blocks) - max(0, int(b[5])%16-12)
	m.built = m.told
	if b[5] >= 232 {
		m.built = len(far.blocks) + 1 - int(b[5]/8)%4
	}
	if b[2] < 200 && m.other < len(far.ends) {
		m.follow(far.ends[m.other])
	}
	return m
}

// follow gives a move the numbers with which it may follow the other chain's end; by chance alone few ends would ever be opened.
func (m *move) follow(c api.Conn) {
	if id, err := names.Number(api.NameConn, c.Other); err == api.OK {
		m.id = id
	}
	own, first := names.Number(api.NameClient, c.OtherClient)
	theirs, second := names.Number(api.NameClient, c.Client)
	if first == api.OK && second == api.OK {
		m.own, m.theirs = own, theirs
	}
}

func (w *world) play(t *testing.T, m move) {
	t.Helper()
	s, far := w.sides[m.where], w.sides[1-m.where]
	switch {
	case m.what < 1:
		s.close()
	case m.what < 2:
		s.learn(t, far, m.own%2, m.told)
	case m.what < 9:
		far.close()
		s.learn(t, far, 0, len(far.blocks))
		s.learn(t, far, 1, len(far.blocks))
	case m.what < 10:
		w.count["init"] += s.playInit(t, m)
	case m.what < 14:
		w.count["try"] += s.playTry(t, far, m)
	case m.what < 22:
		w.count["ack"] += s.playAck(t, far, m)
	default:
		w.count["done"] += s.playDone(t, far, m)
	}
}

// The following four are the steps of promise 15.2; each returns how many ends it has made or opened.

func (s *side) playInit(t *testing.T, m move) int {
	t.Helper()
	c := api.Conn{State: m.what, Client: clientOf(m.own), Other: connOf(m.other), OtherClient: clientOf(m.theirs)}
	want, made := api.ErrNone, ""
	if m.own < 2 {
		want, made = api.OK, connOf(len(s.ends))
		s.ends = append(s.ends, api.Conn{State: api.StateInit, Client: c.Client, OtherClient: c.OtherClient})
	}
	if id, err := conn.Init(s.j, c); id != made || err != want {
		t.Errorf("Init(%s) = %q, %d; want %q, %d", told(c), id, err, made, want)
	}
	return min(len(made), 1)
}

func (s *side) playTry(t *testing.T, far *side, m move) int {
	t.Helper()
	c := api.Conn{State: m.what, Client: clientOf(m.own), Other: connOf(m.other), OtherClient: clientOf(m.theirs)}
	where := s.prove(t, far, m.evidence, c.Other)
	want, made := s.believes(far, c.Client, m.evidence, c.Other, api.Conn{State: api.StateInit, Client: c.OtherClient, OtherClient: c.Client}), ""
	if want == api.OK {
		made = connOf(len(s.ends))
		s.ends = append(s.ends, api.Conn{State: api.StateTry, Client: c.Client, Other: c.Other, OtherClient: c.OtherClient})
	}
	if id, err := conn.Try(s.j, c, where); id != made || err != want {
		t.Errorf("Try(%s) at %d = %q, %d; want %q, %d", told(c), where.Height, id, err, made, want)
	}
	return min(len(made), 1)
}

func (s *side) playAck(t *testing.T, far *side, m move) int {
	t.Helper()
	want, opened, other := api.ErrNone, 0, connOf(m.other)
	where := s.prove(t, far, m.evidence, other)
	if m.id < len(s.ends) {
		c := &s.ends[m.id]
		want = api.ErrState
		if c.State == api.StateInit {
			want = s.believes(far, c.Client, m.evidence, other, api.Conn{State: api.StateTry, Client: c.OtherClient, Other: connOf(m.id), OtherClient: c.Client})
		}
		if want == api.OK {
			c.State, c.Other, opened = api.StateOpen, other, 1
		}
	}
	if err := conn.Ack(s.j, connOf(m.id), other, where); err != want {
		t.Errorf("Ack(%d, %d) at %d = %d; want %d", m.id, m.other, where.Height, err, want)
	}
	return opened
}

func (s *side) playDone(t *testing.T, far *side, m move) int {
	t.Helper()
	want, opened, where := api.ErrNone, 0, api.At{Height: m.told}
	if m.id < len(s.ends) {
		c := &s.ends[m.id]
		where = s.prove(t, far, m.evidence, c.Other)
		want = api.ErrState
		if c.State == api.StateTry {
			want = s.believes(far, c.Client, m.evidence, c.Other, api.Conn{State: api.StateOpen, Client: c.OtherClient, Other: connOf(m.id), OtherClient: c.Client})
		}
		if want == api.OK {
			c.State, opened = api.StateOpen, 1
		}
	}
	if err := conn.Done(s.j, connOf(m.id), where); err != want {
		t.Errorf("Done(%d) at %d = %d; want %d", m.id, where.Height, err, want)
	}
	return opened
}

// agree holds what the functions tell, and what is stored, against the model.
func (s *side) agree(t *testing.T) {
	t.Helper()
	var texts []string
	for i, c := range s.ends {
		mustGet(t, s.j, connOf(i), c)
		texts = append(texts, "conn/"+connOf(i), conn.Put(c))
	}
	mustNotGet(t, s.j, connOf(len(s.ends)), api.ErrNone)
	if len(s.ends) > 0 {
		texts = append(texts, "next/conn", string([]byte{1, byte(len(s.ends))}))
	}
	mustHold(t, s.j, texts...)
}

// mustFace is promise 15.3: for each open end there is one on the other chain, which is open or in StateTry.
// That one belongs to this end, and to no other, since it has this end's id.
func (w *world) mustFace(t *testing.T) {
	t.Helper()
	for i, s := range w.sides {
		for n := range s.ends {
			c, err := conn.Get(s.j, connOf(n))
			if err != api.OK || c.State != api.StateOpen {
				continue
			}
			far, err := conn.Get(w.sides[1-i].j, c.Other)
			want := api.Conn{State: far.State, Client: c.OtherClient, Other: connOf(n), OtherClient: c.Client}
			if err != api.OK || far != want || far.State != api.StateOpen && far.State != api.StateTry {
				t.Errorf("side %d has the open end %d: %s; the other side has: %s, %d", i, n, told(c), told(far), err)
			}
		}
	}
}

// playAll does all moves that bytes say, and holds the world against the chapter after each of them.
func playAll(t *testing.T, bytes []byte) map[string]int {
	t.Helper()
	w := newWorld(t)
	for len(bytes) >= 6 && !t.Failed() {
		w.play(t, w.moveOf([6]byte(bytes)))
		w.sides[0].agree(t)
		w.sides[1].agree(t)
		w.mustFace(t)
		bytes = bytes[6:]
	}
	return w.count
}

// Promises 15.1 to 15.3: long rows of steps on two chains, held against the model after each step.
func TestRows(t *testing.T) {
	source := rand.New(rand.NewSource(15))
	count := map[string]int{}
	for range 40 {
		bytes := make([]byte, 6*300)
		source.Read(bytes)
		for what, n := range playAll(t, bytes) {
			count[what] += n
		}
	}
	for _, what := range []string{"init", "try", "ack", "done"} {
		if count[what] < 50 {
			t.Errorf("%d ends by %s; the rows should have more", count[what], what)
		}
	}
}

// The steps as moves of their bytes: what is done and where; all other numbers are 0 unless they are told.
const (
	initHere  = "\x09\x00\x00\x00\x00\x00"
	initThere = "\x09\x01\x00\x00\x00\x00"
	seeHere   = "\x02\x00\x00\x00\x00\x00"
	seeThere  = "\x02\x01\x00\x00\x00\x00"
	tryHere   = "\x0a\x00\x00\x00\x00\x00"
	tryThere  = "\x0a\x01\x00\x00\x00\x00"
	ackHere   = "\x0e\x00\x00\x00\x00\x00"
	ackOther  = "\x0e\x00\x00\x00\x01\x00"
	doneHere  = "\x16\x00\x00\x00\x00\x00"
	doneThere = "\x16\x01\x00\x00\x00\x00"
	doneFirst = "\x16\x01\xff\x00\x00\x00" // the end connection-0, whatever may follow
)

// Promise 15.3: ends that are begun on one side, on both sides at once, or answered twice.
func TestShortRows(t *testing.T) {
	for _, c := range []struct {
		bytes      string
		acks, done int
	}{
		{initHere + seeThere + tryThere + seeHere + ackHere + seeThere + doneThere, 1, 1},
		{initHere + seeThere + tryThere + ackHere + seeHere + doneThere + ackHere + doneThere + doneHere, 1, 0},
		{initHere + initThere + seeHere + seeThere + tryHere + tryThere + seeHere + ackOther + ackHere, 1, 0},
		{initHere + seeThere + tryThere + tryThere + seeHere + ackOther + ackHere + seeThere + doneFirst, 1, 0},
		{initHere + seeThere + tryThere + tryThere + seeHere + ackOther + seeThere + doneFirst + doneThere, 1, 1},
	} {
		count := playAll(t, []byte(c.bytes))
		if count["ack"] != c.acks || count["done"] != c.done {
			t.Errorf("%q has opened %d and %d ends; want %d and %d", c.bytes, count["ack"], count["done"], c.acks, c.done)
		}
	}
}

// Promises 15.1 to 15.3: rows of steps as a fuzzer finds them.
func FuzzRows(f *testing.F) {
	f.Add([]byte(initHere + seeThere + tryThere + seeHere + ackHere + seeThere + doneThere))
	f.Add([]byte(initHere + initThere + seeHere + seeThere + tryHere + tryThere + seeHere + ackOther + ackHere))
	f.Fuzz(func(t *testing.T, bytes []byte) { playAll(t, bytes[:min(len(bytes), 6*100)]) })
}

// Rules R1 and R2: whatever is stored and whatever comes in, the calls end, and errors come alone and change nothing.
func FuzzAnything(f *testing.F) {
	l := list("conn/connection-7", conn.Put(api.Conn{State: api.StateTry, Client: "client-5", Other: "connection-0", OtherClient: "client-0"}))
	f.Add(conn.Put(api.Conn{State: api.StateInit, Client: "client-0", OtherClient: "client-5"}), "\x01\x01", "connection-0", "client-0", "connection-7", "client-5", 1, "", merkle.Root(l))
	f.Add(conn.Put(api.Conn{State: api.StateTry, Client: "client-0", Other: "connection-7", OtherClient: "client-5"}), "x", "connection-0", "client-0", "x", "", -1, "\x00", "r")
	f.Add("\x00\x00\x00\x00", "\x06\x01\x00\x00\x00\x00\x01", "", "", "connection-0", "client-0", 2, "\x01\x01\x00\x01\x01\x00\x01\x01\x00", "")
	f.Fuzz(func(t *testing.T, value, next, id, own, other, otherClient string, height int, raw, root string) {
		if len(root) > 99 {
			return
		}
		j := over("client/client-0", left, "conn/"+id, value, "next/conn", next, "seen/client-0/00000000000001", "\x00\x01"+string([]byte{byte(len(root))})+root)
		c := api.Conn{State: height, Client: own, Other: other, OtherClient: otherClient}
		where := api.At{Height: height, Proof: raw}
		got, err := conn.Get(j, id)
		if err != api.OK && got != (api.Conn{}) {
			t.Errorf("Get = %s, %d", told(got), err)
		}
		mustBeWhole(t, j, func() (string, api.Errno) { return "", conn.Ack(j, id, other, where) })
		mustBeWhole(t, j, func() (string, api.Errno) { return "", conn.Done(j, id, where) })
		mustBeWhole(t, j, func() (string, api.Errno) { return conn.Try(j, c, where) })
		mustBeWhole(t, j, func() (string, api.Errno) { return conn.Init(j, c) })
	})
}

// mustBeWhole wants that a call which answers an error has no other result and has changed nothing, and that any other call has changed something.
func mustBeWhole(t *testing.T, j *journal.Journal, call func() (string, api.Errno)) {
	t.Helper()
	before := j.List()
	id, err := call()
	after := j.List()
	if same := slices.Equal(before, after); same != (err != api.OK) || err != api.OK && id != "" || j.Depth() != 0 {
		t.Errorf("answer %q, %d; stored before: %s\nand after: %s", id, err, show(before), show(after))
	}
}
