package pairs_test

import (
	"fmt"
	"iter"
	"maps"
	"math/rand"
	"slices"
	"strconv"
	"strings"
	"testing"

	"footbridge/api"
	"footbridge/pairs"
)

// store returns a store with keys and values, given one after the other.
func store(texts ...string) *pairs.Store {
	s := pairs.New()
	for i := 0; i < len(texts); i += 2 {
		s.Set(texts[i], texts[i+1])
	}
	return s
}

// list returns pairs of keys and values, given one after the other.
func list(texts ...string) []api.Pair {
	var l []api.Pair
	for i := 0; i < len(texts); i += 2 {
		l = append(l, api.Pair{Key: texts[i], Value: texts[i+1]})
	}
	return l
}

func collect(it iter.Seq2[string, string]) []api.Pair {
	var l []api.Pair
	for key, value := range it {
		l = append(l, api.Pair{Key: key, Value: value})
	}
	return l
}

// show tells pairs in a failure's message, the first of them if there are many.
func show(l []api.Pair) string { return fmt.Sprintf("%.200s", fmt.Sprintf("%q", l)) }

func mustBe(t *testing.T, what string, got, want []api.Pair) {
	t.Helper()
	if !slices.Equal(got, want) {
		t.Errorf("%s = %s; want %s", what, show(got), show(want))
	}
}

// mustHold holds everything that a store tells against the pairs that it should have.
func mustHold(t *testing.T, s *pairs.Store, want ...api.Pair) {
	t.Helper()
	mustBe(t, "List()", s.List(), want)
	mustBe(t, `All("")`, collect(s.All("")), want)
	if s.Len() != len(want) {
		t.Errorf("Len() = %d; want %d", s.Len(), len(want))
	}
	for _, p := range want {
		mustGet(t, s, p.Key, p.Value, true)
	}
}

func mustGet(t *testing.T, s *pairs.Store, key, value string, present bool) {
	t.Helper()
	if v, ok := s.Get(key); v != value || ok != present {
		t.Errorf("Get(%.60q) = %.60q, %t; want %.60q, %t", key, v, ok, value, present)
	}
}

func mustSet(t *testing.T, s *pairs.Store, key, value string, absent bool) {
	t.Helper()
	if got := s.Set(key, value); got != absent {
		t.Errorf("Set(%.60q, %.60q) = %t; want %t", key, value, got, absent)
	}
}

func mustDel(t *testing.T, s *pairs.Store, key string, present bool) {
	t.Helper()
	if got := s.Del(key); got != present {
		t.Errorf("Del(%.60q) = %t; want %t", key, got, present)
	}
}

// Promise 9.1: a new store is empty, and no two of them are one.
func TestNew(t *testing.T) {
	s, other := pairs.New(), pairs.New()
	if s == nil || other == nil {
		t.Fatal("New() = nil")
	}
	mustHold(t, s)
	mustGet(t, s, "", "", false)
	mustGet(t, s, "a", "", false)
	mustDel(t, s, "", false)
	mustDel(t, s, "a", false)
	mustHold(t, s)
	mustSet(t, s, "a", "1", true)
	mustHold(t, other)
}

// Promise 9.1: Get, Set and Del of ordinary keys, and what they report when the key was there and when it was not.
func TestGetSetDel(t *testing.T) {
	s := pairs.New()
	mustSet(t, s, "b", "1", true)
	mustSet(t, s, "a", "2", true)
	mustHold(t, s, list("a", "2", "b", "1")...)
	mustSet(t, s, "b", "3", false)
	mustHold(t, s, list("a", "2", "b", "3")...)
	mustSet(t, s, "b", "3", false)
	mustHold(t, s, list("a", "2", "b", "3")...)
	mustGet(t, s, "c", "", false)
	mustGet(t, s, "A", "", false)
	mustGet(t, s, "ab", "", false)
	mustGet(t, s, "", "", false)
	mustDel(t, s, "c", false)
	mustHold(t, s, list("a", "2", "b", "3")...)
	mustDel(t, s, "a", true)
	mustGet(t, s, "a", "", false)
	mustDel(t, s, "a", false)
	mustHold(t, s, list("b", "3")...)
	mustSet(t, s, "a", "4", true)
	mustHold(t, s, list("a", "4", "b", "3")...)
	mustDel(t, s, "b", true)
	mustDel(t, s, "a", true)
	mustHold(t, s)
	mustSet(t, s, "a", "5", true)
	mustHold(t, s, list("a", "5")...)
}

// Promise 9.1: a key with an empty value is present, and the empty key is a key.
func TestEmptyTexts(t *testing.T) {
	s := pairs.New()
	mustSet(t, s, "a", "", true)
	mustGet(t, s, "a", "", true)
	mustSet(t, s, "a", "", false)
	mustSet(t, s, "", "", true)
	mustGet(t, s, "", "", true)
	mustHold(t, s, list("", "", "a", "")...)
	mustSet(t, s, "", "1", false)
	mustHold(t, s, list("", "1", "a", "")...)
	mustBe(t, `All("a")`, collect(s.All("a")), list("a", ""))
	mustDel(t, s, "a", true)
	mustDel(t, s, "", true)
	mustDel(t, s, "", false)
	mustHold(t, s)
}

// Promise 9.1: keys are compared byte by byte, bytes as numbers from 0 to 255, a beginning of a key before the key.
func TestOrderOfBytes(t *testing.T) {
	keys := []string{"", "\x00", "\x00\x00", "\x00\xff", "\n", "/", "0", "10", "9", "A", "B", "Z", "a", "a\x00", "a/b", "a0", "aa", "ab", "b", "z", "\x7f", "\x80", "\u00e4", "\u20ac", "\U0001f600", "\xff", "\xff\x00", "\xff\xff"}
	s := pairs.New()
	var want []api.Pair
	for i, key := range keys {
		want = append(want, api.Pair{Key: key, Value: strconv.Itoa(i)})
	}
	for i := range keys {
		p := want[i*11%len(keys)]
		mustSet(t, s, p.Key, p.Value, true)
	}
	mustHold(t, s, want...)
	one := pairs.New()
	want = nil
	for b := range 256 {
		key := string([]byte{byte(255 - b)})
		mustSet(t, one, key, "v", true)
		want = append(want, api.Pair{Key: string([]byte{byte(b)}), Value: "v"})
	}
	mustHold(t, one, want...)
}

// Promise 9.1, All: ordinary prefixes, those that are a key, those that are more than any key, and those that no key has.
func TestPrefix(t *testing.T) {
	s := store("token/b", "1", "token/a", "2", "token", "3", "token0", "4", "toke", "5", "tokens/a", "6", "tokf", "7", "", "8", "\xff", "9", "\xff\xff", "10", "\xff\xfe", "11", "TOKEN/a", "12")
	for _, c := range []struct {
		prefix string
		want   []api.Pair
	}{
		{"", s.List()},
		{"token/", list("token/a", "2", "token/b", "1")},
		{"token", list("token", "3", "token/a", "2", "token/b", "1", "token0", "4", "tokens/a", "6")},
		{"toke", list("toke", "5", "token", "3", "token/a", "2", "token/b", "1", "token0", "4", "tokens/a", "6")},
		{"token/b", list("token/b", "1")},
		{"token/bb", nil},
		{"token/c", nil},
		{"token/\x00", nil},
		{"token.", nil},
		{"tok/", nil},
		{"tokg", nil},
		{"\x00", nil},
		{"zzz", nil},
		{"T", list("TOKEN/a", "12")},
		{"\xff", list("\xff", "9", "\xff\xfe", "11", "\xff\xff", "10")},
		{"\xff\xff", list("\xff\xff", "10")},
		{"\xff\xff\xff", nil},
		{"\xfe", nil},
	} {
		mustBe(t, fmt.Sprintf("All(%q)", c.prefix), collect(s.All(c.prefix)), c.want)
	}
	mustBe(t, "All of an empty store", collect(pairs.New().All("a")), nil)
}

// allStrings returns every string of at most that many of the letters.
func allStrings(letters string, most int) []string {
	all := []string{""}
	for from, size := 0, 0; size < most; size++ {
		end := len(all)
		for _, s := range all[from:end] {
			for i := range len(letters) {
				all = append(all, s+letters[i:i+1])
			}
		}
		from = end
	}
	return all
}

// chosen returns those pairs of a list whose keys begin with the prefix.
func chosen(l []api.Pair, prefix string) []api.Pair {
	var some []api.Pair
	for _, p := range l {
		if strings.HasPrefix(p.Key, prefix) {
			some = append(some, p)
		}
	}
	return some
}

// Promise 9.1, All: every short prefix against stores of short keys, all of them and parts of them.
func TestEveryPrefix(t *testing.T) {
	texts := allStrings("\x00a\xff", 4)
	for step := 1; step < 9; step++ {
		s := pairs.New()
		for i := 0; i < len(texts); i += step {
			s.Set(texts[i], strconv.Itoa(i))
		}
		all := s.List()
		for _, prefix := range texts {
			mustBe(t, fmt.Sprintf("All(%q)", prefix), collect(s.All(prefix)), chosen(all, prefix))
		}
	}
}

// Promise 9.1, All: the pairs are those of the moment of the call, whatever is changed before and between the rangings.
func TestAllAsItWas(t *testing.T) {
	s := store("a/1", "x", "a/2", "y", "a/3", "z", "b", "w")
	then, some, none := s.All(""), s.All("a/"), s.All("c")
	want, part := list("a/1", "x", "a/2", "y", "a/3", "z", "b", "w"), list("a/1", "x", "a/2", "y", "a/3", "z")
	look := func() {
		t.Helper()
		mustBe(t, "the earlier All", collect(then), want)
		mustBe(t, "the earlier All of a prefix", collect(some), part)
		mustBe(t, "the earlier All of no key", collect(none), nil)
	}
	look()
	s.Set("a/2", "changed")
	look()
	s.Set("a/0", "new")
	s.Set("c", "new")
	look()
	s.Del("a/3")
	look()
	mustHold(t, s, list("a/0", "new", "a/1", "x", "a/2", "changed", "b", "w", "c", "new")...)
	for _, p := range s.List() {
		s.Del(p.Key)
		look()
	}
	mustHold(t, s)
	empty := s.All("")
	s.Set("a", "1")
	mustBe(t, "the All of the empty store", collect(empty), nil)
	look()
}

// Promise 9.1, All: changes while the pairs are gone through are not seen there, but in the store.
func TestChangeWhileRanging(t *testing.T) {
	s := pairs.New()
	var want, after []api.Pair
	for i := range 100 {
		key := fmt.Sprintf("%02d", i)
		s.Set(key, "old")
		want = append(want, api.Pair{Key: key, Value: "old"})
		after = append(after, api.Pair{Key: key + "!", Value: key})
	}
	var got []api.Pair
	for key, value := range s.All("") {
		got = append(got, api.Pair{Key: key, Value: value})
		mustSet(t, s, key+"!", key, true)
		mustDel(t, s, key, true)
		if key < "50" {
			mustSet(t, s, fmt.Sprintf("%02d", 100-len(got)), "changed", false)
		}
	}
	mustBe(t, "what was gone through", got, want)
	mustHold(t, s, after...)
}

// Promise 9.1, All: it may be stopped after any number of pairs, and begins anew the next time.
func TestStop(t *testing.T) {
	s := pairs.New()
	for i := range 40 {
		s.Set(fmt.Sprintf("%c/%02d", 'a'+i%2, i), strconv.Itoa(i))
	}
	for _, prefix := range []string{"", "a/", "b/", "b/3", "c"} {
		all := collect(s.All(prefix))
		it := s.All(prefix)
		for n := 1; n <= len(all); n++ {
			var got []api.Pair
			it(func(key, value string) bool {
				got = append(got, api.Pair{Key: key, Value: value})
				return len(got) < n // a call beyond the stop makes got longer than n
			})
			mustBe(t, fmt.Sprintf("the first %d of All(%q)", n, prefix), got, all[:n])
		}
		mustBe(t, "the same once more", collect(it), all)
	}
	mustHold(t, s, s.List()...)
}

// Promise 9.1, All: rangings of one iterator, one inside the other and side by side, do not disturb each other.
func TestRangingsApart(t *testing.T) {
	s := store("a", "1", "b", "2", "c", "3")
	it := s.All("")
	var got []string
	for outer := range it {
		for inner, value := range it {
			if inner > outer {
				break
			}
			got = append(got, outer+inner+value)
		}
	}
	if want := []string{"aa1", "ba1", "bb2", "ca1", "cb2", "cc3"}; !slices.Equal(got, want) {
		t.Errorf("nested rangings = %q; want %q", got, want)
	}
	next, stop := iter.Pull2(it)
	defer stop()
	for key, value := range it {
		k, v, ok := next()
		if k != key || v != value || !ok {
			t.Errorf("side by side: %q, %q, %t; want %q, %q", k, v, ok, key, value)
		}
	}
	if k, v, ok := next(); ok {
		t.Errorf("after the last pair: %q, %q", k, v)
	}
}

// Rule R4 and the language's rule 7: a list is its receiver's own.
func TestListApart(t *testing.T) {
	s := store("a", "1", "b", "2")
	first, second := s.List(), s.List()
	first[0] = api.Pair{Key: "z", Value: "9"}
	_ = append(first[:1], api.Pair{Key: "y", Value: "8"})
	mustBe(t, "the second list", second, list("a", "1", "b", "2"))
	mustHold(t, s, list("a", "1", "b", "2")...)
	s.Set("a", "3")
	s.Del("b")
	mustBe(t, "the earlier list", second, list("a", "1", "b", "2"))
}

// Promise 9.1, Copy: what is changed in one of two stores is not changed in the other.
func TestCopy(t *testing.T) {
	s := store("a", "1", "b", "2", "c", "3")
	first := s.Copy()
	second := first.Copy()
	if first == nil || second == nil || first == s || second == first {
		t.Fatal("Copy is no store of its own")
	}
	mustHold(t, first, list("a", "1", "b", "2", "c", "3")...)
	mustDel(t, s, "a", true)
	mustSet(t, s, "b", "4", false)
	mustSet(t, s, "d", "5", true)
	mustHold(t, s, list("b", "4", "c", "3", "d", "5")...)
	mustHold(t, first, list("a", "1", "b", "2", "c", "3")...)
	mustGet(t, first, "d", "", false)
	mustSet(t, first, "d", "6", true)
	mustDel(t, first, "c", true)
	mustHold(t, first, list("a", "1", "b", "2", "d", "6")...)
	mustHold(t, second, list("a", "1", "b", "2", "c", "3")...)
	mustHold(t, s, list("b", "4", "c", "3", "d", "5")...)
	empty := pairs.New()
	other := empty.Copy()
	mustSet(t, other, "a", "1", true)
	mustHold(t, empty)
	mustHold(t, other, list("a", "1")...)
}

// Promise 9.1 and rule R1: on a nil store the methods do nothing and answer nothing, and All can be gone through.
func TestNilStore(t *testing.T) {
	var s *pairs.Store
	for range 2 {
		mustGet(t, s, "a", "", false)
		mustGet(t, s, "", "", false)
		mustSet(t, s, "a", "1", false)
		mustSet(t, s, "", "", false)
		mustDel(t, s, "a", false)
		mustDel(t, s, "", false)
		mustHold(t, s)
		if s.Copy() != nil {
			t.Error("the copy of a nil store is not nil")
		}
		for _, prefix := range []string{"", "a"} {
			it := s.All(prefix)
			if it == nil {
				t.Fatalf("All(%q) of a nil store is nil: ranging over it panics", prefix)
			}
			mustBe(t, "All of a nil store", collect(it), nil)
		}
	}
}

// Promise 9.1: the chapter names no limit for the length of a key or a value.
func TestLongTexts(t *testing.T) {
	long := strings.Repeat("k", 2*api.MaxText)
	s := store(long+"b", long, long+"a", long+long, long, "")
	mustHold(t, s, list(long, "", long+"a", long+long, long+"b", long)...)
	mustBe(t, "All of a long prefix", collect(s.All(long+"b")), list(long+"b", long))
	mustDel(t, s, long, true)
	mustHold(t, s, list(long+"a", long+long, long+"b", long)...)
}

// orders returns every order of the keys.
func orders(keys []string) [][]string {
	if len(keys) == 0 {
		return [][]string{nil}
	}
	var all [][]string
	for i, key := range keys {
		rest := slices.Delete(slices.Clone(keys), i, i+1)
		for _, order := range orders(rest) {
			all = append(all, append([]string{key}, order...))
		}
	}
	return all
}

// Promise 9.1: a few keys, set in every order and removed in every order.
func TestEveryOrder(t *testing.T) {
	all := orders([]string{"a", "b", "c", "d", "e"})
	for _, in := range all {
		for _, out := range all {
			s := pairs.New()
			var want []api.Pair
			for _, key := range in {
				mustSet(t, s, key, "v"+key, true)
			}
			for _, key := range slices.Sorted(slices.Values(in)) {
				want = append(want, api.Pair{Key: key, Value: "v" + key})
			}
			mustHold(t, s, want...)
			for _, key := range out {
				mustDel(t, s, key, true)
				want = slices.DeleteFunc(want, func(p api.Pair) bool { return p.Key == key })
				mustGet(t, s, key, "", false)
				mustHold(t, s, want...)
			}
		}
	}
}

// sorted returns the pairs of a map in the order of their keys.
func sorted(m map[string]string) []api.Pair {
	var l []api.Pair
	for _, key := range slices.Sorted(maps.Keys(m)) {
		l = append(l, api.Pair{Key: key, Value: m[key]})
	}
	return l
}

// moment is what was taken from a store, and the pairs that the store had then.
type moment struct {
	copy *pairs.Store
	all  iter.Seq2[string, string]
	some iter.Seq2[string, string]
	want []api.Pair
}

// follow makes the changes that bytes stand for, in a store and in a map, and holds one against the other;
// at the end it looks once more at what was taken on the way.
func follow(t *testing.T, bytes []byte, keys int) {
	t.Helper()
	s, model := pairs.New(), map[string]string{}
	var moments []moment
	for i := 0; i+1 < len(bytes); i += 2 {
		key := strconv.Itoa(int(bytes[i+1]) % keys)
		value, present := model[key]
		mustGet(t, s, key, value, present)
		switch bytes[i] % 8 {
		case 0, 1, 2, 3:
			mustSet(t, s, key, strconv.Itoa(i), !present)
			model[key] = strconv.Itoa(i)
		case 4, 5, 6:
			mustDel(t, s, key, present)
			delete(model, key)
		default:
			m := moment{s.Copy(), s.All(""), s.All(key), sorted(model)}
			moments = append(moments, m)
			mustBe(t, "All of a prefix", collect(m.some), chosen(m.want, key))
			for p := range m.copy.All(key) {
				m.copy.Del(p)
			}
			mustBe(t, "All after a copy's changes", collect(m.all), m.want)
		}
		if s.Len() != len(model) {
			t.Fatalf("Len() = %d; want %d", s.Len(), len(model))
		}
	}
	mustHold(t, s, sorted(model)...)
	for _, m := range moments {
		mustBe(t, "an earlier All", collect(m.all), m.want)
		gone := collect(m.some)
		left := slices.DeleteFunc(slices.Clone(m.want), func(p api.Pair) bool { return slices.Contains(gone, p) })
		mustHold(t, m.copy, left...)
	}
}

// Promise 9.1 and rule R5: long rows of changes against a map.
func TestAgainstMap(t *testing.T) {
	for seed := range 60 {
		from := rand.New(rand.NewSource(int64(seed)))
		bytes := make([]byte, 1200)
		from.Read(bytes)
		follow(t, bytes, 1+seed*4)
	}
}

// Rule R1: many pairs, set in rising, falling and mixed order, and removed from either end.
func TestMany(t *testing.T) {
	const many = 1 << 16
	key := func(i int) string { return fmt.Sprintf("%06d", i) }
	for _, place := range []func(int) int{
		func(i int) int { return i },
		func(i int) int { return many - 1 - i },
		func(i int) int { return i * 40503 % many },
	} {
		s := pairs.New()
		for i := range many {
			mustSet(t, s, key(place(i)), "v", true)
			for k := range s.All("") { // an iterator that is stopped at once costs little, however many pairs there are
				mustGet(t, s, k, "v", true)
				break
			}
		}
		l := s.List()
		if len(l) != many || s.Len() != many {
			t.Fatalf("%d pairs, Len() = %d; want %d", len(l), s.Len(), many)
		}
		for i, p := range l {
			if p.Key != key(i) {
				t.Fatalf("pair %d has the key %q", i, p.Key)
			}
		}
		for i := range many - 1 {
			mustDel(t, s.Copy(), key(place(i)), true)
			mustDel(t, s, key(place(i)), true)
		}
		mustHold(t, s, api.Pair{Key: key(place(many - 1)), Value: "v"})
	}
}

func FuzzAgainstMap(f *testing.F) {
	f.Add([]byte("\x00a\x00b\x07\x00\x04a\x04a\x00c"), "a", "b")
	f.Add([]byte("\x00\x01\x00\x0a\x07\x01\x04\x0a"), "", "\xff")
	f.Fuzz(func(t *testing.T, bytes []byte, key, prefix string) {
		follow(t, bytes, 256)
		s := store(key, "1", prefix, "2", prefix+key, "3", key+prefix, "4")
		mustBe(t, "All of a prefix", collect(s.All(prefix)), chosen(s.List(), prefix))
	})
}
