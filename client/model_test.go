package client_test

import (
	"cmp"
	"fmt"
	"maps"
	"math/rand"
	"slices"
	"testing"

	"footbridge/api"
	"footbridge/client"
	"footbridge/header"
	"footbridge/journal"
	"footbridge/merkle"
	"footbridge/proof"
	"footbridge/wire"
)

// view is what the chapter says that a client knows.
type view struct {
	client api.Client
	seen   map[int]api.Seen
}

// model is what the chapter says that there is, and how it was when each open level was opened.
type model struct {
	views []view
	saved [][]view
}

func (m *model) copied() []view {
	l := slices.Clone(m.views)
	for i := range l {
		l[i].seen = maps.Clone(l[i].seen)
	}
	return l
}

// update is promise 14.3 for a header that is signed with a key.
func (m *model) update(n int, key string, h api.Header) api.Errno {
	if n >= len(m.views) {
		return api.ErrNone
	}
	v := &m.views[n]
	switch before, there := v.seen[h.Height]; {
	case v.client.Frozen:
		return api.ErrFrozen
	case h.Chain != v.client.Chain || key != v.client.Key:
		return api.ErrMac
	case h.Height == 0 || h.Height > api.MaxCount:
		return api.ErrHeight
	case there && before == api.Seen{Time: h.Time, Root: h.Root}:
		return api.ErrExists
	case there:
		v.client.Frozen = true
		return api.OK
	}
	v.seen[h.Height] = api.Seen{Time: h.Time, Root: h.Root}
	v.client.Height = max(v.client.Height, h.Height)
	return api.OK
}

// pairs is promise 14.1.
func (m *model) pairs() []api.Pair {
	num := func(n int) string { s, _ := wire.Num(n); return s }
	text := func(s string) string { e, _ := wire.Text(s); return e }
	var l []api.Pair
	for i, v := range m.views {
		flag := 0
		if v.client.Frozen {
			flag = 1
		}
		l = append(l, api.Pair{Key: fmt.Sprintf("client/client-%d", i), Value: text(v.client.Chain) + text(v.client.Key) + num(v.client.Height) + num(flag)})
		for height, seen := range v.seen {
			l = append(l, api.Pair{Key: fmt.Sprintf("seen/client-%d/%014d", i, height), Value: num(seen.Time) + text(seen.Root)})
		}
	}
	if len(l) > 0 {
		l = append(l, api.Pair{Key: "next/client", Value: num(len(m.views))})
	}
	slices.SortFunc(l, func(a, b api.Pair) int { return cmp.Compare(a.Key, b.Key) })
	return l
}

// chainOf and keyOf are few, so that they meet again.
func chainOf(n byte) string { return []string{"left", "right", "left", ""}[n%4] }
func keyOf(n byte) string   { return []string{"k", "k", "l"}[n%3] }

// state is what the other chain may have had, by a number.
func state(n byte) []api.Pair {
	return [][]api.Pair{nil, list("a", "1"), list("a", "1", "c", "2")}[n%3]
}

// headerOf returns a header by a few bytes, of heights that meet again.
func headerOf(a, b, c byte) api.Header {
	heights := []int{1, 2, 3, 1, 2, 0, 300, api.MaxCount, api.MaxCount + 1}
	return api.Header{Chain: chainOf(a), Height: heights[int(b)%len(heights)], Time: int(c) % 2, Root: merkle.Root(state(c / 2))}
}

// step does what four bytes say with the journal and with the model.
func step(t *testing.T, j *journal.Journal, m *model, b [4]byte) {
	t.Helper()
	switch n := int(b[1]) % 4; b[0] % 8 {
	case 0:
		id, err := client.New(j, chainOf(b[1]), keyOf(b[2]))
		if chainOf(b[1]) == "" {
			if id != "" || err != api.ErrName {
				t.Errorf("New without a chain = %q, %d", id, err)
			}
			return
		}
		if want := fmt.Sprintf("client-%d", len(m.views)); id != want || err != api.OK {
			t.Errorf("New = %q, %d; want %q", id, err, want)
		}
		m.views = append(m.views, view{api.Client{Chain: chainOf(b[1]), Key: keyOf(b[2])}, map[int]api.Seen{}})
	case 1:
		m.saved = append(m.saved, m.copied())
		j.Begin()
	case 2:
		if depth := len(m.saved); depth > 0 && b[1]%2 == 0 {
			m.saved = m.saved[:depth-1]
			j.Commit()
		} else if depth > 0 {
			m.views, m.saved = m.saved[depth-1], m.saved[:depth-1]
			j.Rollback()
		}
	default:
		h, key := headerOf(b[1]/4, b[2], b[3]), keyOf(b[2]/9)
		signed, _ := header.Sign(key, h)
		raw, _ := header.Put(signed)
		want := m.update(n, key, h)
		if got := client.Update(j, fmt.Sprintf("client-%d", n), raw); got != want {
			t.Errorf("Update(client-%d, {%q %d %d %q} under %q) = %d; want %d", n, h.Chain, h.Height, h.Time, h.Root, key, got, want)
		}
	}
}

// agree holds everything that the functions tell against the model.
func agree(t *testing.T, j *journal.Journal, m *model) {
	t.Helper()
	if got, want := j.List(), m.pairs(); !slices.Equal(got, want) || j.Depth() != len(m.saved) {
		t.Errorf("stored, at depth %d: %s\nwant, at depth %d: %s", j.Depth(), show(got), len(m.saved), show(want))
	}
	for i, v := range m.views {
		id := fmt.Sprintf("client-%d", i)
		mustGet(t, j, id, v.client)
		for _, height := range []int{-1, 0, 1, 2, 3, 300, api.MaxCount, api.MaxCount + 1} {
			seen, there := v.seen[height]
			if there {
				mustSee(t, j, id, height, seen)
			} else {
				mustNotSee(t, j, id, height, api.ErrHeight)
			}
			confirms(t, j, id, height, v, seen.Root, there)
		}
	}
}

// confirms holds Has and Lacks against the model, for true and for false statements.
func confirms(t *testing.T, j *journal.Journal, id string, height int, v view, root string, there bool) {
	t.Helper()
	for n := range byte(3) {
		l := state(n)
		has, lacks := api.ErrProof, api.ErrProof
		switch {
		case v.client.Frozen:
			has, lacks = api.ErrFrozen, api.ErrFrozen
		case !there:
			has, lacks = api.ErrHeight, api.ErrHeight
		case root == merkle.Root(l):
			lacks = api.OK
			if len(l) > 0 {
				has = api.OK
			}
		}
		p := api.Pair{Key: "a", Value: "1"}
		if err := client.Has(j, id, at(t, height, l, "a"), p); err != has {
			t.Errorf("Has(%s, %d, state %d) = %d; want %d", id, height, n, err, has)
		}
		if err := client.Lacks(j, id, at(t, height, l, "b"), "b"); err != lacks {
			t.Errorf("Lacks(%s, %d, state %d) = %d; want %d", id, height, n, err, lacks)
		}
	}
}

// play does all steps that bytes say, and holds the journal against the model after each of them.
func play(t *testing.T, steps []byte) {
	j, m := journal.New(nil), &model{}
	for len(steps) >= 4 && !t.Failed() {
		step(t, j, m, [4]byte(steps))
		agree(t, j, m)
		steps = steps[4:]
	}
}

// Promises 14.1 to 14.4: long rows of operations, held against the model after each step.
func TestRows(t *testing.T) {
	source := rand.New(rand.NewSource(14))
	for range 60 {
		steps := make([]byte, 4*40)
		source.Read(steps)
		play(t, append([]byte{0, 0, 0, 0}, steps...))
	}
}

// Promises 14.1 to 14.4: rows of operations as a fuzzer finds them.
func FuzzRows(f *testing.F) {
	f.Add([]byte{0, 0, 0, 0, 3, 0, 0, 0, 3, 0, 0, 0, 3, 0, 0, 1, 3, 0, 1, 0})
	f.Add([]byte{0, 0, 0, 0, 1, 0, 0, 0, 3, 0, 7, 3, 2, 1, 0, 0, 3, 0, 7, 5, 2, 0, 0, 0})
	f.Add([]byte{0, 0, 0, 0, 0, 1, 2, 0, 3, 1, 0, 0, 3, 5, 18, 3, 3, 3, 0, 0})
	f.Fuzz(func(t *testing.T, steps []byte) { play(t, steps[:min(len(steps), 4*100)]) })
}

// Rules R1 and R2: whatever is stored and whatever comes in, the calls end, and errors come alone and change nothing.
func FuzzAnything(f *testing.F) {
	f.Add("\x01\x04left\x01\x01k\x00\x00", "\x01\x09\x01\x01r", "\x01\x01", "client-0", 1, "", "", "a", "1")
	f.Add("\x00\x00\x00\x00", "\x00\x00", "\x00", "client-0", 1, "\x00\x00\x00\x00\x00", "\x00\x00\x00\x00\x00", "", "")
	f.Add("\x00\x00\x00\x01\x01", "", "x", "client-0", -1, "\x08", "\x01\x01\x00\x01\x01\x00\x01\x01\x00", "left", "k")
	f.Fuzz(func(t *testing.T, value, seen, next, id string, height int, raw, evidence, key, text string) {
		j := over("client/client-0", value, first, seen, "next/client", next)
		for _, c := range []*journal.Journal{j, nil} {
			mustNotChange(t, "a look", c, func() { look(t, c, id, height, evidence, key, text) })
		}
		before := j.List()
		if err := client.Update(j, id, raw); err != api.OK && !slices.Equal(j.List(), before) {
			t.Errorf("Update = %d has changed %s to %s", err, show(before), show(j.List()))
		}
		before = j.List()
		made, err := client.New(j, key, text)
		if err != api.OK && (made != "" || !slices.Equal(j.List(), before)) {
			t.Errorf("New = %q, %d has changed %s to %s", made, err, show(before), show(j.List()))
		}
		if c, failed := client.Get(j, made); err == api.OK && (failed != api.OK || c != api.Client{Chain: key, Key: text}) {
			t.Errorf("Get(%q) = %s, %d after New(%q, %q)", made, told(c), failed, key, text)
		}
	})
}

// look calls everything that only looks.
func look(t *testing.T, j *journal.Journal, id string, height int, raw, key, text string) {
	c, err := client.Get(j, id)
	if err != api.OK && c != (api.Client{}) {
		t.Errorf("Get = %s, %d", told(c), err)
	}
	seen, failed := client.See(j, id, height)
	if failed != api.OK && seen != (api.Seen{}) || err != api.OK && failed != err {
		t.Errorf("See = {%d %.40q}, %d; Get = %d", seen.Time, seen.Root, failed, err)
	}
	x, bad := proof.Read(raw)
	has := client.Has(j, id, api.At{Height: height, Proof: raw}, api.Pair{Key: key, Value: text})
	lacks := client.Lacks(j, id, api.At{Height: height, Proof: raw}, key)
	want := cmp.Or(err, failed)
	if err == api.OK && c.Frozen {
		want = api.ErrFrozen
	}
	if want != api.OK && (has != want || lacks != want) {
		t.Errorf("Has = %d, Lacks = %d; want %d", has, lacks, want)
	}
	if want != api.OK {
		return
	}
	if ok := bad == api.OK && proof.Has(seen.Root, api.Pair{Key: key, Value: text}, x); ok != (has == api.OK) || !ok && has != api.ErrProof {
		t.Errorf("Has = %d, though the proof's answer is %t", has, ok)
	}
	if ok := bad == api.OK && proof.Lacks(seen.Root, key, x); ok != (lacks == api.OK) || !ok && lacks != api.ErrProof {
		t.Errorf("Lacks = %d, though the proof's answer is %t", lacks, ok)
	}
}
