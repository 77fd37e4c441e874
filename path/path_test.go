package path_test

import (
	"fmt"
	"math"
	"slices"
	"strings"
	"testing"

	"footbridge/api"
	"footbridge/path"
)

func mustJoin(t *testing.T, want, word string, parts ...string) {
	t.Helper()
	if got := path.Join(word, parts...); got != want {
		t.Errorf("Join(%.60q, %.60q) = %.60q; want %.60q", word, parts, got, want)
	}
}

func mustSplit(t *testing.T, s, word string, parts ...string) {
	t.Helper()
	gotWord, gotParts, err := path.Split(s)
	if gotWord != word || !slices.Equal(gotParts, parts) || err != api.OK {
		t.Errorf("Split(%.60q) = %.60q, %.60q, %d; want %.60q, %.60q, OK", s, gotWord, gotParts, err, word, parts)
	}
}

// mustNotSplit also looks for the word and the parts ahead of the fault: rule R2 lets none of them out.
func mustNotSplit(t *testing.T, s string) {
	t.Helper()
	word, parts, err := path.Split(s)
	if word != "" || len(parts) != 0 || err != api.ErrForm {
		t.Errorf("Split(%.60q) = %.60q, %.60q, %d; want \"\", none, ErrForm", s, word, parts, err)
	}
}

func mustNumber(t *testing.T, n int, want string) {
	t.Helper()
	if got := path.Number(n); got != want {
		t.Errorf("Number(%d) = %q; want %q", n, got, want)
	}
}

// Promise 8.1, Join and Split: ordinary keys, empty words and parts, and words and parts with the key's own marks in them.
func TestJoinAndSplit(t *testing.T) {
	for _, c := range []struct {
		key, word string
		parts     []string
	}{
		{"token/a%sb/c", "token", []string{"a/b", "c"}},
		{"next/client", "next", []string{"client"}},
		{"seen/client-0/00000000000007", "seen", []string{"client-0", path.Number(7)}},
		{"token", "token", nil},
		{"token", "token", []string{}},
		{"", "", nil},
		{"/", "", []string{""}},
		{"//", "", []string{"", ""}},
		{"a/", "a", []string{""}},
		{"/a", "", []string{"a"}},
		{"a//b", "a", []string{"", "b"}},
		{"a//", "a", []string{"", ""}},
		{"%p", "%", nil},
		{"%s", "/", nil},
		{"%s/%s", "/", []string{"/"}},
		{"%p/%p", "%", []string{"%"}},
		{"%p%p%s%s", "%%//", nil},
		{"%s%p%s", "/%/", nil},
		{"%pp", "%p", nil},
		{"%ps", "%s", nil},
		{"%sp", "/p", nil},
		{"%ss", "/s", nil},
		{"%ppp", "%pp", nil},
		{"%pps", "%ps", nil},
		{"%p%s", "%/", nil},
		{"%s%p", "/%", nil},
		{"k/%pp/%ps/%sp/%ss", "k", []string{"%p", "%s", "/p", "/s"}},
		{"k/a%sb%sc/%p25", "k", []string{"a/b/c", "%25"}},
		{"class/nft%schannel-0%scat", "class", []string{"nft/channel-0/cat"}},
		{"p/s/ps/sp", "p", []string{"s", "ps", "sp"}},
		{"\x00/\xff/\n", "\x00", []string{"\xff", "\n"}},
		{"\u00e4/\u2215/\\", "\u00e4", []string{"\u2215", "\\"}},
		{"a b/ /\"", "a b", []string{" ", "\""}},
	} {
		mustJoin(t, c.key, c.word, c.parts...)
		mustSplit(t, c.key, c.word, c.parts...)
	}
}

// Promise 8.1, Join: the parts are taken one by one and as a list.
func TestJoinVariadic(t *testing.T) {
	parts := []string{"a/", "%", ""}
	mustJoin(t, "w/a%s/%p/", "w", "a/", "%", "")
	mustJoin(t, "w/a%s/%p/", "w", parts...)
	mustJoin(t, "w", "w")
	mustJoin(t, "w", "w", []string(nil)...)
}

// Promise 8.1, Join and Split: each byte alone, as the word and as a part.
func TestEveryByte(t *testing.T) {
	for b := range 256 {
		s := string([]byte{byte(b)})
		form := s
		if s == "%" {
			form = "%p"
		}
		if s == "/" {
			form = "%s"
		}
		mustJoin(t, form+"/x"+form+"y", s, "x"+s+"y")
		mustSplit(t, form+"/x"+form+"y", s, "x"+s+"y")
	}
}

// Promise 8.1, Split: a percent sign with neither p nor s after it, in the word, in a part, at an end and ahead of a slash.
func TestNotKeys(t *testing.T) {
	for _, s := range []string{
		"%", "a%", "%/", "%/p", "%/s", "/%", "a/%", "a/b%", "a%/b", "%%", "%%p", "%%s", "%%%", "%p%", "%s%", "%ss%", "%pp%",
		"%%pp", "%%ps", "%%sp", "%%ss", "%p%%s", "%s%%p",
		"% p", "% s", "%P", "%S", "%q", "%r", "%o", "%t", "%25", "%2F", "%2f", "%\x00", "%\xff", "%\u00e4",
		"token/a%xb/c", "token/a%sb/c%", "%x/a/b", "a/%x/b", "a/b/%x", "token/a/b/%s/%", "good/parts/ahead/%z",
	} {
		mustNotSplit(t, s)
	}
	for b := range 256 {
		if b == 'p' || b == 's' {
			continue
		}
		mustNotSplit(t, "a/b%"+string([]byte{byte(b)}))
		mustNotSplit(t, "%"+string([]byte{byte(b)})+"/b")
	}
}

// Rule R1 and promise 8.1: long words and many parts, for which the chapter names no limit.
func TestLarge(t *testing.T) {
	const many = 100000
	mustJoin(t, strings.Repeat("%p", many), strings.Repeat("%", many))
	mustSplit(t, strings.Repeat("%p", many), strings.Repeat("%", many))
	mustJoin(t, "w/"+strings.Repeat("%s", many), "w", strings.Repeat("/", many))
	mustSplit(t, "w/"+strings.Repeat("%s", many), "w", strings.Repeat("/", many))
	mustJoin(t, strings.Repeat("/", many), "", make([]string, many)...)
	mustSplit(t, strings.Repeat("/", many), "", make([]string, many)...)
	mustNotSplit(t, strings.Repeat("%", many))
	mustNotSplit(t, strings.Repeat("/", many)+"%")
	long := strings.Repeat("ab", 2*api.MaxText)
	mustJoin(t, long+"/"+long, long, long)
	mustSplit(t, long+"/"+long, long, long)
}

// Promise 8.1, Number: ordinary numbers, both ends of what fits, and numbers beyond them (rule R6).
func TestNumber(t *testing.T) {
	for _, c := range []struct {
		n    int
		want string
	}{
		{0, "00000000000000"},
		{1, "00000000000001"},
		{7, "00000000000007"},
		{9, "00000000000009"},
		{10, "00000000000010"},
		{120, "00000000000120"},
		{65536, "00000000065536"},
		{api.MaxCount, "01099511627776"},
		{9999999999999, "09999999999999"},
		{10000000000000, "10000000000000"},
		{12345678901234, "12345678901234"},
		{99999999999998, "99999999999998"},
		{99999999999999, "99999999999999"},
		{100000000000000, "99999999999999"},
		{100000000000001, "99999999999999"},
		{123456789012345, "99999999999999"},
		{api.MaxNum, "99999999999999"},
		{math.MaxInt - 1, "99999999999999"},
		{math.MaxInt, "99999999999999"},
		{-1, "00000000000000"},
		{-7, "00000000000000"},
		{-99999999999999, "00000000000000"},
		{-100000000000000, "00000000000000"},
		{math.MinInt + 1, "00000000000000"},
		{math.MinInt, "00000000000000"},
	} {
		mustNumber(t, c.n, c.want)
	}
	for n := range 1000 {
		mustNumber(t, n, fmt.Sprintf("%014d", n))
	}
}

// allStrings returns every string of at most that many of the letters.
func allStrings(letters string, most int) []string {
	all := []string{""}
	for from, size := 0, 0; size < most; size++ {
		end := len(all)
		for _, s := range all[from:end] {
			for i := range len(letters) {
				all = append(all, s+letters[i:i+1])
			}
		}
		from = end
	}
	return all
}

// Promise 8.2: different words and parts have different keys, for all short ones made of the letters that matter.
func TestKeysDiffer(t *testing.T) {
	texts := allStrings("%/ps", 2)
	from := map[string]string{}
	keep := func(word string, parts ...string) {
		key, what := path.Join(word, parts...), fmt.Sprintf("%q", append([]string{word}, parts...))
		if other, there := from[key]; there {
			t.Errorf("%s and %s have the key %q", what, other, key)
		}
		from[key] = what
		mustSplit(t, key, word, parts...)
	}
	for _, word := range texts {
		keep(word)
		for _, first := range texts {
			keep(word, first)
			for _, second := range texts {
				keep(word, first, second)
			}
		}
	}
}

// Promise 8.2: Number preserves order, also where numbers get one more digit and where they stop fitting.
func TestNumbersInOrder(t *testing.T) {
	var l []int
	for power := 1; power <= 1e17; power *= 10 {
		l = append(l, power-1, power, power+1, 5*power, -power)
	}
	l = append(l, math.MinInt, math.MaxInt)
	slices.Sort(l)
	for i := range len(l) - 1 {
		a, b := path.Number(l[i]), path.Number(l[i+1])
		if a > b || a == b && l[i] != l[i+1] && l[i] >= 0 && l[i+1] < 1e14 {
			t.Errorf("Number(%d) = %q and Number(%d) = %q are not in order", l[i], a, l[i+1], b)
		}
	}
}

// keyForm is what promise 8.1 says of a key, letter by letter: it reads s from the left and tells the word and the parts that it finds.
func keyForm(s string) (texts []string, ok bool) {
	texts = []string{""}
	for s != "" {
		text := &texts[len(texts)-1]
		switch {
		case strings.HasPrefix(s, "%p"):
			*text, s = *text+"%", s[2:]
		case strings.HasPrefix(s, "%s"):
			*text, s = *text+"/", s[2:]
		case s[0] == '%':
			return nil, false
		case s[0] == '/':
			texts, s = append(texts, ""), s[1:]
		default:
			*text, s = *text+s[:1], s[1:]
		}
	}
	return texts, true
}

// checkKey holds Split against the words of the chapter for one string, and Join against what Split read.
func checkKey(t *testing.T, s string) {
	t.Helper()
	texts, ok := keyForm(s)
	if !ok {
		mustNotSplit(t, s)
		return
	}
	mustSplit(t, s, texts[0], texts[1:]...)
	mustJoin(t, s, texts[0], texts[1:]...)
}

// Promise 8.1, Split: every string of a few of the letters that matter is read exactly as the words say.
func TestEveryShortString(t *testing.T) {
	for _, s := range allStrings("%/psx", 7) {
		checkKey(t, s)
	}
}

// Rule R4: the parts that are handed in stay as they are, and those that come out are not theirs.
func TestPartsUntouched(t *testing.T) {
	room := []string{"a/b", "%", "c", "beyond"}
	kept := slices.Clone(room)
	key := path.Join("w", room[:3]...)
	if !slices.Equal(room, kept) {
		t.Errorf("Join changed its parts to %q", room)
	}
	_, parts, _ := path.Split(key)
	clear(parts)
	mustJoin(t, key, "w", room[:3]...)
	mustSplit(t, key, "w", kept[:3]...)
}

// Rule R5: the same arguments give the same results, also after others were refused.
func TestAgain(t *testing.T) {
	for range 3 {
		mustSplit(t, "token/a%sb/c", "token", "a/b", "c")
		mustNotSplit(t, "token/a%sb/c%")
		mustJoin(t, "token/a%sb/c", "token", "a/b", "c")
		mustNumber(t, math.MaxInt, "99999999999999")
		mustNumber(t, 7, "00000000000007")
	}
}

func FuzzAgainstTheWords(f *testing.F) {
	f.Add("token/a%sb/c", "a/b", "c", 7)
	f.Add("a%", "%", "", -1)
	f.Add("", "/%ps", "%%//", math.MaxInt)
	f.Fuzz(func(t *testing.T, s, word, part string, n int) {
		checkKey(t, s)
		form := func(text string) string {
			var out strings.Builder
			for _, b := range []byte(text) {
				switch b {
				case '%':
					out.WriteString("%p")
				case '/':
					out.WriteString("%s")
				default:
					out.WriteByte(b)
				}
			}
			return out.String()
		}
		key := form(word) + "/" + form(part) + "/" + form(s)
		mustJoin(t, key, word, part, s)
		mustSplit(t, key, word, part, s)
		mustNumber(t, n, fmt.Sprintf("%014d", min(max(n, 0), 99999999999999)))
	})
}
