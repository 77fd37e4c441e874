package journal_test

import (
	"fmt"
	"iter"
	"maps"
	"math/rand"
	"slices"
	"strconv"
	"strings"
	"testing"

	"footbridge/api"
	"footbridge/journal"
	"footbridge/pairs"
)

// store returns a store with keys and values, given one after the other.
func store(texts ...string) *pairs.Store {
	s := pairs.New()
	for _, p := range list(texts...) {
		s.Set(p.Key, p.Value)
	}
	return s
}

// list returns pairs of keys and values, given one after the other.
func list(texts ...string) []api.Pair {
	var l []api.Pair
	for i := 0; i < len(texts); i += 2 {
		l = append(l, api.Pair{Key: texts[i], Value: texts[i+1]})
	}
	return l
}

func collect(it iter.Seq2[string, string]) []api.Pair {
	var l []api.Pair
	for key, value := range it {
		l = append(l, api.Pair{Key: key, Value: value})
	}
	return l
}

func mustBe(t *testing.T, what string, got, want []api.Pair) {
	t.Helper()
	if !slices.Equal(got, want) {
		t.Errorf("%s = %.200s; want %.200s", what, fmt.Sprintf("%q", got), fmt.Sprintf("%q", want))
	}
}

// mustHold holds everything that a journal tells against the open levels and the pairs that it should have.
func mustHold(t *testing.T, j *journal.Journal, depth int, want ...api.Pair) {
	t.Helper()
	mustBe(t, "List()", j.List(), want)
	mustBe(t, `All("")`, collect(j.All("")), want)
	if j.Depth() != depth {
		t.Errorf("Depth() = %d; want %d", j.Depth(), depth)
	}
	for _, p := range want {
		mustGet(t, j, p.Key, p.Value, true)
	}
}

func mustGet(t *testing.T, j *journal.Journal, key, value string, present bool) {
	t.Helper()
	if v, ok := j.Get(key); v != value || ok != present {
		t.Errorf("Get(%.60q) = %.60q, %t; want %.60q, %t", key, v, ok, value, present)
	}
}

func mustSet(t *testing.T, j *journal.Journal, key, value string, want api.Errno) {
	t.Helper()
	if got := j.Set(key, value); got != want {
		t.Errorf("Set(%.60q, %.60q) = %d; want %d", key, value, got, want)
	}
}

func mustDel(t *testing.T, j *journal.Journal, key string, want api.Errno) {
	t.Helper()
	if got := j.Del(key); got != want {
		t.Errorf("Del(%.60q) = %d; want %d", key, got, want)
	}
}

func mustBegin(t *testing.T, j *journal.Journal, want int) {
	t.Helper()
	if got := j.Begin(); got != want {
		t.Errorf("Begin() = %d; want %d", got, want)
	}
}

func mustCommit(t *testing.T, j *journal.Journal, want api.Errno) {
	t.Helper()
	if got := j.Commit(); got != want {
		t.Errorf("Commit() = %d; want %d", got, want)
	}
}

func mustRollback(t *testing.T, j *journal.Journal, want api.Errno) {
	t.Helper()
	if got := j.Rollback(); got != want {
		t.Errorf("Rollback() = %d; want %d", got, want)
	}
}

// Promise 10.1, New: the pairs of the store, no open level, and an empty store for a nil one.
func TestNew(t *testing.T) {
	mustHold(t, journal.New(nil), 0)
	mustHold(t, journal.New(pairs.New()), 0)
	mustHold(t, journal.New(store("b", "1", "a", "2", "", "")), 0, list("", "", "a", "2", "b", "1")...)
	j, other := journal.New(nil), journal.New(nil)
	mustSet(t, j, "a", "1", api.OK)
	mustHold(t, j, 0, list("a", "1")...)
	mustHold(t, other, 0)
}

// Promise 10.1, New: neither the journal nor the store sees what is changed in the other one, in no level.
func TestOwnStore(t *testing.T) {
	s := store("a", "1", "b", "2")
	j, k := journal.New(s), journal.New(s)
	mustSet(t, j, "a", "3", api.OK)
	mustDel(t, j, "b", api.OK)
	mustBegin(t, j, 1)
	mustSet(t, j, "c", "4", api.OK)
	mustBe(t, "the store", s.List(), list("a", "1", "b", "2"))
	s.Del("a")
	s.Set("b", "5")
	s.Set("d", "6")
	mustHold(t, j, 1, list("a", "3", "c", "4")...)
	mustRollback(t, j, api.OK)
	mustHold(t, j, 0, list("a", "3")...)
	mustHold(t, k, 0, list("a", "1", "b", "2")...)
	mustBe(t, "the store", s.List(), list("b", "5", "d", "6"))
}

// Promise 10.1: Get, Set and Del without a level, with keys that are there and keys that are not.
func TestGetSetDel(t *testing.T) {
	j := journal.New(nil)
	mustGet(t, j, "a", "", false)
	mustDel(t, j, "a", api.ErrNone)
	mustSet(t, j, "b", "1", api.OK)
	mustSet(t, j, "a", "2", api.OK)
	mustHold(t, j, 0, list("a", "2", "b", "1")...)
	mustSet(t, j, "b", "3", api.OK)
	mustSet(t, j, "b", "3", api.OK)
	mustHold(t, j, 0, list("a", "2", "b", "3")...)
	mustGet(t, j, "c", "", false)
	mustGet(t, j, "", "", false)
	mustDel(t, j, "c", api.ErrNone)
	mustDel(t, j, "", api.ErrNone)
	mustHold(t, j, 0, list("a", "2", "b", "3")...)
	mustDel(t, j, "a", api.OK)
	mustDel(t, j, "a", api.ErrNone)
	mustGet(t, j, "a", "", false)
	mustHold(t, j, 0, list("b", "3")...)
	mustDel(t, j, "b", api.OK)
	mustHold(t, j, 0)
}

// Promise 10.1: the empty key is a key, and a key with an empty value is present; a level tells it from an absent one.
func TestEmptyTexts(t *testing.T) {
	j := journal.New(store("", "", "a", ""))
	mustBegin(t, j, 1)
	mustDel(t, j, "", api.OK)
	mustDel(t, j, "", api.ErrNone)
	mustSet(t, j, "a", "1", api.OK)
	mustSet(t, j, "b", "", api.OK)
	mustGet(t, j, "b", "", true)
	mustHold(t, j, 1, list("a", "1", "b", "")...)
	mustRollback(t, j, api.OK)
	mustHold(t, j, 0, list("", "", "a", "")...)
	mustGet(t, j, "b", "", false)
}

// Promise 10.1, Set: MaxText bytes are allowed, one more is not, in the key or in the value, and then nothing is changed.
func TestLong(t *testing.T) {
	most, more := strings.Repeat("k", api.MaxText), strings.Repeat("k", api.MaxText+1)
	for _, open := range []bool{false, true} {
		j := journal.New(store("a", "1"))
		depth := 0
		if open {
			mustBegin(t, j, 1)
			depth = 1
		}
		mustSet(t, j, more, "1", api.ErrLong)
		mustSet(t, j, more, "", api.ErrLong)
		mustSet(t, j, "a", more, api.ErrLong)
		mustSet(t, j, "b", more, api.ErrLong)
		mustSet(t, j, "", more, api.ErrLong)
		mustSet(t, j, more, more, api.ErrLong)
		mustSet(t, j, more+more, most, api.ErrLong)
		mustHold(t, j, depth, list("a", "1")...)
		mustSet(t, j, most, most, api.OK)
		mustSet(t, j, "a", most, api.OK)
		mustHold(t, j, depth, list("a", most, most, most)...)
		mustSet(t, j, most, more, api.ErrLong)
		mustHold(t, j, depth, list("a", most, most, most)...)
		mustDel(t, j, most, api.OK)
		mustDel(t, j, more, api.ErrNone)
		mustHold(t, j, depth, list("a", most)...)
		if open {
			mustRollback(t, j, api.OK)
			mustHold(t, j, 0, list("a", "1")...)
		}
	}
}

// Promise 10.1: only Set has the limit; longer texts of the given store are kept, removed and restored.
func TestLongTextsOfStore(t *testing.T) {
	long := strings.Repeat("k", 2*api.MaxText)
	j := journal.New(store("a", long, long, "1"))
	want := list("a", long, long, "1")
	mustHold(t, j, 0, want...)
	mustBegin(t, j, 1)
	mustSet(t, j, long, "2", api.ErrLong)
	mustSet(t, j, "a", "2", api.OK)
	mustDel(t, j, long, api.OK)
	mustHold(t, j, 1, list("a", "2")...)
	mustRollback(t, j, api.OK)
	mustHold(t, j, 0, want...)
}

// The chapter's example.
func TestExample(t *testing.T) {
	j := journal.New(nil)
	mustSet(t, j, "a", "1", api.OK)
	mustBegin(t, j, 1)
	mustSet(t, j, "a", "2", api.OK)
	mustDel(t, j, "a", api.OK)
	mustRollback(t, j, api.OK)
	mustHold(t, j, 0, list("a", "1")...)
}

// Promises 10.1 and 10.2, Rollback: pairs that were changed, removed and added, once and several times, are as before.
func TestRollback(t *testing.T) {
	j := journal.New(store("a", "1", "b", "2", "c", "3", "d", "4"))
	want := list("a", "1", "b", "2", "c", "3", "d", "4")
	for range 3 {
		mustBegin(t, j, 1)
		mustSet(t, j, "a", "5", api.OK)
		mustSet(t, j, "a", "6", api.OK)
		mustDel(t, j, "b", api.OK)
		mustDel(t, j, "c", api.OK)
		mustSet(t, j, "c", "7", api.OK)
		mustSet(t, j, "e", "8", api.OK)
		mustSet(t, j, "f", "9", api.OK)
		mustDel(t, j, "f", api.OK)
		mustSet(t, j, "d", "4", api.OK)
		mustDel(t, j, "g", api.ErrNone)
		mustHold(t, j, 1, list("a", "6", "c", "7", "d", "4", "e", "8")...)
		mustRollback(t, j, api.OK)
		mustHold(t, j, 0, want...)
		mustGet(t, j, "e", "", false)
		mustGet(t, j, "f", "", false)
	}
	mustBegin(t, j, 1)
	mustRollback(t, j, api.OK)
	mustHold(t, j, 0, want...)
}

// Promise 10.1, Commit: the changes of the outermost level are permanent.
func TestCommit(t *testing.T) {
	j := journal.New(store("a", "1", "b", "2"))
	mustBegin(t, j, 1)
	mustSet(t, j, "a", "3", api.OK)
	mustDel(t, j, "b", api.OK)
	mustSet(t, j, "c", "4", api.OK)
	mustCommit(t, j, api.OK)
	want := list("a", "3", "c", "4")
	mustHold(t, j, 0, want...)
	mustRollback(t, j, api.ErrState)
	mustHold(t, j, 0, want...)
	mustBegin(t, j, 1)
	mustSet(t, j, "c", "5", api.OK)
	mustRollback(t, j, api.OK)
	mustHold(t, j, 0, want...)
}

// Promise 10.1: without an open level Commit and Rollback are errors that change nothing.
func TestNoLevel(t *testing.T) {
	j := journal.New(store("a", "1"))
	none := func() {
		t.Helper()
		mustCommit(t, j, api.ErrState)
		mustRollback(t, j, api.ErrState)
		mustHold(t, j, 0, list("a", "1")...)
	}
	none()
	mustBegin(t, j, 1)
	mustCommit(t, j, api.OK)
	none()
	mustBegin(t, j, 1)
	mustRollback(t, j, api.OK)
	none()
	mustDel(t, j, "a", api.OK)
	mustSet(t, j, "a", "1", api.OK)
	none()
	mustBegin(t, j, 1)
}

// Promise 10.1: each of two levels closed in each way, with changes before, in, between and after them.
func TestTwoLevels(t *testing.T) {
	for _, c := range []struct {
		inner, outer bool // whether they are committed
		want         []api.Pair
	}{
		{true, true, list("b", "inner", "c", "after", "d", "d", "e", "e")},
		{true, false, list("a", "before", "b", "before", "c", "before")},
		{false, true, list("a", "outer", "b", "outer", "c", "after", "e", "e")},
		{false, false, list("a", "before", "b", "before", "c", "before")},
	} {
		j := journal.New(nil)
		for _, key := range []string{"a", "b", "c"} {
			mustSet(t, j, key, "before", api.OK)
		}
		mustBegin(t, j, 1)
		mustSet(t, j, "a", "outer", api.OK)
		mustSet(t, j, "b", "outer", api.OK)
		mustBegin(t, j, 2)
		mustDel(t, j, "a", api.OK)
		mustSet(t, j, "b", "inner", api.OK)
		mustSet(t, j, "c", "inner", api.OK)
		mustSet(t, j, "d", "d", api.OK)
		mustHold(t, j, 2, list("b", "inner", "c", "inner", "d", "d")...)
		if c.inner {
			mustCommit(t, j, api.OK)
			mustHold(t, j, 1, list("b", "inner", "c", "inner", "d", "d")...)
		} else {
			mustRollback(t, j, api.OK)
			mustHold(t, j, 1, list("a", "outer", "b", "outer", "c", "before")...)
		}
		mustSet(t, j, "c", "after", api.OK)
		mustSet(t, j, "e", "e", api.OK)
		if c.outer {
			mustCommit(t, j, api.OK)
		} else {
			mustRollback(t, j, api.OK)
		}
		mustHold(t, j, 0, c.want...)
	}
}

// Promise 10.1: Begin and Depth count, and many levels are closed one by one, in either way.
func TestManyLevels(t *testing.T) {
	const many = 1 << 16
	for _, commit := range []bool{false, true} {
		j := journal.New(nil)
		for i := range many {
			if got := j.Begin(); got != i+1 || j.Depth() != i+1 {
				t.Fatalf("Begin() = %d, Depth() = %d; want %d", got, j.Depth(), i+1)
			}
			mustSet(t, j, "depth", strconv.Itoa(i), api.OK)
			mustSet(t, j, strconv.Itoa(i), "", api.OK)
		}
		for i := many - 1; i > 0; i-- {
			if commit {
				mustCommit(t, j, api.OK)
				mustGet(t, j, "depth", strconv.Itoa(many-1), true)
			} else {
				mustRollback(t, j, api.OK)
				mustGet(t, j, "depth", strconv.Itoa(i-1), true)
			}
			if j.Depth() != i {
				t.Fatalf("Depth() = %d; want %d", j.Depth(), i)
			}
		}
		mustRollback(t, j, api.OK)
		mustHold(t, j, 0)
		mustRollback(t, j, api.ErrState)
	}
}

// Promise 10.1, All and List: order of the keys, prefixes, a stop, and the pairs of the moment of the call.
func TestAllAndList(t *testing.T) {
	j := journal.New(store("b", "1", "a/b", "2", "a/a", "3", "a", "4", "a0", "5"))
	mustBe(t, `All("a/")`, collect(j.All("a/")), list("a/a", "3", "a/b", "2"))
	mustBe(t, `All("c")`, collect(j.All("c")), nil)
	mustBegin(t, j, 1)
	mustSet(t, j, "a/c", "6", api.OK)
	mustDel(t, j, "a/a", api.OK)
	then, all := j.All("a/"), j.List()
	want := list("a/b", "2", "a/c", "6")
	mustBe(t, `All("a/") in a level`, collect(then), want)
	mustRollback(t, j, api.OK)
	mustBe(t, "the All of a level that was rolled back", collect(then), want)
	mustBe(t, "the List of that level", all, list("a", "4", "a/b", "2", "a/c", "6", "a0", "5", "b", "1"))
	mustBe(t, `All("a/") after the level`, collect(j.All("a/")), list("a/a", "3", "a/b", "2"))
	var got []string
	for key := range j.All("a") {
		got = append(got, key)
		if key == "a/a" {
			break
		}
	}
	if !slices.Equal(got, []string{"a", "a/a"}) {
		t.Errorf("stopped at a/a: %q", got)
	}
	all = j.List()
	all[0] = api.Pair{Key: "z", Value: "9"}
	mustHold(t, j, 0, list("a", "4", "a/a", "3", "a/b", "2", "a0", "5", "b", "1")...)
}

// Promise 10.1, All: changes, levels and ends of levels while the pairs are gone through are not seen there.
func TestChangeWhileRanging(t *testing.T) {
	j := journal.New(store("a", "1", "b", "2", "c", "3"))
	mustBegin(t, j, 1)
	mustSet(t, j, "b", "4", api.OK)
	var got []api.Pair
	for key, value := range j.All("") {
		got = append(got, api.Pair{Key: key, Value: value})
		switch key {
		case "a":
			mustBegin(t, j, 2)
			mustDel(t, j, "b", api.OK)
			mustSet(t, j, "d", "5", api.OK)
		case "b":
			mustRollback(t, j, api.OK)
			mustRollback(t, j, api.OK)
			mustDel(t, j, "c", api.OK)
		}
	}
	mustBe(t, "what was gone through", got, list("a", "1", "b", "4", "c", "3"))
	mustHold(t, j, 0, list("a", "1", "b", "2")...)
}

// Promise 10.1, Copy: the same pairs and the same levels, each of which is closed in one journal without the other.
func TestCopy(t *testing.T) {
	j := journal.New(store("a", "1"))
	mustBegin(t, j, 1)
	mustSet(t, j, "a", "2", api.OK)
	mustBegin(t, j, 2)
	mustDel(t, j, "a", api.OK)
	mustSet(t, j, "b", "3", api.OK)
	k := j.Copy()
	if k == nil || k == j {
		t.Fatal("Copy is no journal of its own")
	}
	mustHold(t, k, 2, list("b", "3")...)
	mustSet(t, j, "c", "4", api.OK)
	mustSet(t, k, "d", "5", api.OK)
	mustHold(t, j, 2, list("b", "3", "c", "4")...)
	mustHold(t, k, 2, list("b", "3", "d", "5")...)
	mustRollback(t, j, api.OK)
	mustHold(t, j, 1, list("a", "2")...)
	mustHold(t, k, 2, list("b", "3", "d", "5")...)
	mustCommit(t, k, api.OK)
	mustHold(t, k, 1, list("b", "3", "d", "5")...)
	mustHold(t, j, 1, list("a", "2")...)
	last := k.Copy()
	mustCommit(t, j, api.OK)
	mustHold(t, j, 0, list("a", "2")...)
	mustRollback(t, k, api.OK)
	mustHold(t, k, 0, list("a", "1")...)
	mustBegin(t, last, 2)
	mustHold(t, last, 2, list("b", "3", "d", "5")...)
	mustHold(t, j, 0, list("a", "2")...)
	mustRollback(t, last, api.OK)
	mustRollback(t, last, api.OK)
	mustHold(t, last, 0, list("a", "1")...)
	mustRollback(t, last, api.ErrState)
}

// Promise 10.1, Copy: whatever room the lists of levels and changes have, two journals that go on do not share it.
func TestCopiesGoOn(t *testing.T) {
	for size := range 20 {
		j := journal.New(nil)
		for i := range size {
			j.Begin()
			j.Set(strconv.Itoa(i), "both")
		}
		before := j.List()
		k := j.Copy()
		for i := range 3 {
			mustBegin(t, j, size+i+1)
			mustSet(t, j, "j"+strconv.Itoa(i), "of j", api.OK)
			mustBegin(t, k, size+i+1)
			k.Del("0")
			mustSet(t, k, "k"+strconv.Itoa(i), "of k", api.OK)
		}
		for range 3 {
			mustRollback(t, j, api.OK)
			mustRollback(t, k, api.OK)
		}
		mustHold(t, j, size, before...)
		mustHold(t, k, size, before...)
		for i := size; i > 0; i-- {
			mustRollback(t, k, api.OK)
			mustGet(t, k, strconv.Itoa(i-1), "", false)
			mustGet(t, j, strconv.Itoa(i-1), "both", true)
		}
		mustHold(t, k, 0)
		mustHold(t, j, size, before...)
	}
}

// Promise 10.1 and rule R1: on a nil journal the methods do nothing, and All can be gone through.
func TestNilJournal(t *testing.T) {
	var j *journal.Journal
	for range 2 {
		mustGet(t, j, "a", "", false)
		mustGet(t, j, "", "", false)
		mustSet(t, j, "a", "1", api.ErrNil)
		mustSet(t, j, strings.Repeat("k", api.MaxText+1), "1", api.ErrNil)
		mustDel(t, j, "a", api.ErrNil)
		mustBegin(t, j, 0)
		mustCommit(t, j, api.ErrNil)
		mustRollback(t, j, api.ErrNil)
		mustHold(t, j, 0)
		if j.Copy() != nil {
			t.Error("the copy of a nil journal is not nil")
		}
		for _, prefix := range []string{"", "a"} {
			it := j.All(prefix)
			if it == nil {
				t.Fatalf("All(%q) of a nil journal is nil: ranging over it panics", prefix)
			}
			mustBe(t, "All of a nil journal", collect(it), nil)
		}
	}
}

// model is a journal that keeps a whole map for each level.
type model struct {
	now    map[string]string
	before []map[string]string
}

func (m *model) copy() *model {
	other := &model{now: maps.Clone(m.now)}
	for _, b := range m.before {
		other.before = append(other.before, maps.Clone(b))
	}
	return other
}

func (m *model) list() []api.Pair {
	var l []api.Pair
	for _, key := range slices.Sorted(maps.Keys(m.now)) {
		l = append(l, api.Pair{Key: key, Value: m.now[key]})
	}
	return l
}

// twin is a journal and its model.
type twin struct {
	j *journal.Journal
	m *model
}

func newTwin(texts ...string) twin {
	m := &model{now: map[string]string{}}
	for _, p := range list(texts...) {
		m.now[p.Key] = p.Value
	}
	return twin{journal.New(store(texts...)), m}
}

func (w twin) copy() twin { return twin{w.j.Copy(), w.m.copy()} }

func (w twin) set(t *testing.T, key, value string) {
	t.Helper()
	mustSet(t, w.j, key, value, api.OK)
	w.m.now[key] = value
}

func (w twin) del(t *testing.T, key string) {
	t.Helper()
	want := api.ErrNone
	if _, present := w.m.now[key]; present {
		want = api.OK
	}
	mustDel(t, w.j, key, want)
	delete(w.m.now, key)
}

func (w twin) begin(t *testing.T) {
	t.Helper()
	w.m.before = append(w.m.before, maps.Clone(w.m.now))
	mustBegin(t, w.j, len(w.m.before))
}

// end closes a level, if there is one.
func (w twin) end(t *testing.T, commit bool) {
	t.Helper()
	want, last := api.ErrState, len(w.m.before)-1
	if last >= 0 {
		want = api.OK
		if !commit {
			w.m.now = w.m.before[last]
		}
		w.m.before = w.m.before[:last]
	}
	if commit {
		mustCommit(t, w.j, want)
	} else {
		mustRollback(t, w.j, want)
	}
}

func (w twin) check(t *testing.T) {
	t.Helper()
	mustHold(t, w.j, len(w.m.before), w.m.list()...)
}

// unwind rolls every level back, and looks at each.
func (w twin) unwind(t *testing.T) {
	t.Helper()
	for range len(w.m.before) + 1 {
		w.end(t, false)
		w.check(t)
	}
}

// Promises 10.1 and 10.2: every row of a few operations on two keys.
func TestEveryRow(t *testing.T) {
	operations := []func(twin){
		func(w twin) { w.set(t, "a", "x") },
		func(w twin) { w.set(t, "b", "") },
		func(w twin) { w.del(t, "a") },
		func(w twin) { w.begin(t) },
		func(w twin) { w.end(t, true) },
		func(w twin) { w.end(t, false) },
	}
	var row func(w twin, left int)
	row = func(w twin, left int) {
		w.check(t)
		if left == 0 {
			w.unwind(t)
			return
		}
		for _, do := range operations {
			next := w.copy()
			do(next)
			row(next, left-1)
		}
		w.check(t)
	}
	row(newTwin("a", "1"), 6)
}

// follow does the operations that bytes stand for to a journal and to its model, and now and then to copies of both;
// at the end it rolls back all that is open.
func follow(t *testing.T, bytes []byte, keys int) {
	t.Helper()
	all := []twin{newTwin("1", "old", "2", "", "30", "old")}
	for i := 0; i+1 < len(bytes); i += 2 {
		w := all[int(bytes[i+1])%len(all)]
		key := strconv.Itoa(int(bytes[i+1]) % keys)
		value, present := w.m.now[key]
		mustGet(t, w.j, key, value, present)
		switch bytes[i] % 16 {
		case 0, 1, 2, 3, 4:
			w.set(t, key, strconv.Itoa(i%7))
		case 5, 6, 7:
			w.del(t, key)
		case 8, 9, 10:
			w.begin(t)
		case 11, 12:
			w.end(t, true)
		case 13, 14:
			w.end(t, false)
		default:
			if len(all) < 6 {
				all = append(all, w.copy())
			}
		}
		w.check(t)
	}
	for _, w := range all {
		w.check(t)
	}
	for _, w := range all {
		w.unwind(t)
	}
}

// Promises 10.1 and 10.2 and rule R5: long rows of operations against the model.
func TestAgainstModel(t *testing.T) {
	for seed := range 60 {
		from := rand.New(rand.NewSource(int64(seed)))
		bytes := make([]byte, 800)
		from.Read(bytes)
		follow(t, bytes, 1+seed)
	}
}

func FuzzAgainstModel(f *testing.F) {
	f.Add([]byte("\x08\x00\x00\x01\x0f\x00\x05\x01\x0b\x00\x0d\x00\x0d\x01"))
	f.Add([]byte("\x08\x00\x08\x00\x00\x02\x0b\x00\x05\x02\x0d\x00\x0d\x00"))
	f.Fuzz(func(t *testing.T, bytes []byte) { follow(t, bytes[:min(len(bytes), 1000)], 40) })
}
