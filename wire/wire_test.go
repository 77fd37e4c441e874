package wire_test

import (
	"math"
	"slices"
	"strings"
	"testing"

	"footbridge/api"
	"footbridge/wire"
)

// Promise 1.1, Num: ordinary numbers and each edge at which a number takes one byte more.
func TestNumEncoding(t *testing.T) {
	for _, c := range []struct {
		n    int
		want string
	}{
		{0, "\x00"},
		{1, "\x01\x01"},
		{44, "\x01\x2c"},
		{255, "\x01\xff"},
		{256, "\x02\x01\x00"},
		{300, "\x02\x01\x2c"},
		{65535, "\x02\xff\xff"},
		{65536, "\x03\x01\x00\x00"},
		{1<<24 - 1, "\x03\xff\xff\xff"},
		{1 << 24, "\x04\x01\x00\x00\x00"},
		{1<<32 - 1, "\x04\xff\xff\xff\xff"},
		{1 << 32, "\x05\x01\x00\x00\x00\x00"},
		{1<<40 - 1, "\x05\xff\xff\xff\xff\xff"},
		{1 << 40, "\x06\x01\x00\x00\x00\x00\x00"},
		{1<<48 - 1, "\x06\xff\xff\xff\xff\xff\xff"},
		{1 << 48, "\x07\x01\x00\x00\x00\x00\x00\x00"},
		{0x010203040506, "\x06\x01\x02\x03\x04\x05\x06"},
		{api.MaxNum - 1, "\x07\x1f\xff\xff\xff\xff\xff\xff"},
		{api.MaxNum, "\x07\x20\x00\x00\x00\x00\x00\x00"},
	} {
		got, err := wire.Num(c.n)
		if got != c.want || err != api.OK {
			t.Errorf("Num(%d) = %q, %d; want %q, OK", c.n, got, err, c.want)
		}
	}
}

// Promise 1.1 and rule R6, Num: any int may be given.
func TestNumOutOfRange(t *testing.T) {
	for _, n := range []int{-1, -255, -256, -300, math.MinInt, math.MinInt + 1, api.MaxNum + 1, api.MaxNum + 2, 1 << 56, math.MaxInt} {
		got, err := wire.Num(n)
		if got != "" || err != api.ErrRange {
			t.Errorf("Num(%d) = %q, %d; want \"\", ErrRange", n, got, err)
		}
	}
}

// Promise 1.1, Text: the length is a number, the bytes stand as they are.
func TestTextEncoding(t *testing.T) {
	for _, c := range []struct{ s, want string }{
		{"", "\x00"},
		{"ab", "\x01\x02ab"},
		{"\x00", "\x01\x01\x00"},
		{"\xff\x00\x80", "\x01\x03\xff\x00\x80"},
		{"\u00e4", "\x01\x02\xc3\xa4"},
		{strings.Repeat("x", 255), "\x01\xff" + strings.Repeat("x", 255)},
		{strings.Repeat("x", 256), "\x02\x01\x00" + strings.Repeat("x", 256)},
		{strings.Repeat("x", api.MaxText-1), "\x02\xff\xff" + strings.Repeat("x", api.MaxText-1)},
		{strings.Repeat("x", api.MaxText), "\x03\x01\x00\x00" + strings.Repeat("x", api.MaxText)},
	} {
		got, err := wire.Text(c.s)
		if got != c.want || err != api.OK {
			t.Errorf("Text of %d bytes: %d bytes, error %d; want %d bytes, OK", len(c.s), len(got), err, len(c.want))
		}
	}
}

// Promise 1.1, Text: a string above MaxText has no encoding.
func TestTextTooLong(t *testing.T) {
	for _, size := range []int{api.MaxText + 1, 2 * api.MaxText} {
		got, err := wire.Text(strings.Repeat("x", size))
		if got != "" || err != api.ErrLong {
			t.Errorf("Text of %d bytes: %d bytes, error %d; want none, ErrLong", size, len(got), err)
		}
	}
}

// Promise 1.1, Join: the length of the list, and each element as a text.
func TestJoinEncoding(t *testing.T) {
	longest := strings.Repeat("x", api.MaxText)
	for i, c := range []struct {
		l    []string
		want string
	}{
		{nil, "\x00"},
		{[]string{}, "\x00"},
		{[]string{""}, "\x01\x01\x00"},
		{[]string{"ab", "", "c"}, "\x01\x03\x01\x02ab\x00\x01\x01c"},
		{[]string{"a", longest}, "\x01\x02\x01\x01a\x03\x01\x00\x00" + longest},
		{make([]string, api.MaxList-1), "\x01\xff" + strings.Repeat("\x00", api.MaxList-1)},
		{make([]string, api.MaxList), "\x02\x01\x00" + strings.Repeat("\x00", api.MaxList)},
	} {
		got, err := wire.Join(c.l)
		if got != c.want || err != api.OK {
			t.Errorf("case %d: %d bytes, error %d; want %d bytes, OK", i, len(got), err, len(c.want))
		}
	}
}

// Promise 1.1, Join: too many elements, or one that is too long, wherever it stands.
func TestJoinTooLong(t *testing.T) {
	long := strings.Repeat("x", api.MaxText+1)
	for i, l := range [][]string{
		make([]string, api.MaxList+1),
		{long},
		{long, "a"},
		{"a", "b", long},
		append(make([]string, api.MaxList-1), long),
		append(make([]string, api.MaxList), long),
	} {
		got, err := wire.Join(l)
		if got != "" || err != api.ErrLong {
			t.Errorf("case %d: %d bytes, error %d; want none, ErrLong", i, len(got), err)
		}
	}
}

// Rule R4: a list that is handed in stays as it was, also beyond its length.
func TestJoinKeepsItsList(t *testing.T) {
	whole := []string{"b", "a", "c", "beyond"}
	if _, err := wire.Join(whole[:3]); err != api.OK {
		t.Fatalf("error %d", err)
	}
	if !slices.Equal(whole, []string{"b", "a", "c", "beyond"}) {
		t.Errorf("the list became %q", whole)
	}
}

// Promise 1.2: values of all kinds, one after the other, and nothing left.
func TestReaderInARow(t *testing.T) {
	r := wire.New("\x02\x01\x2c\x01\x02ab\x01\x02\x00\x01\x01c\x00\x00\x00\x07\x20\x00\x00\x00\x00\x00\x00")
	if n := r.Num(); n != 300 {
		t.Errorf("Num = %d; want 300", n)
	}
	if s := r.Text(); s != "ab" {
		t.Errorf("Text = %q; want ab", s)
	}
	if l := r.List(); !slices.Equal(l, []string{"", "c"}) {
		t.Errorf("List = %q; want an empty text and c", l)
	}
	if n, s, l := r.Num(), r.Text(), r.List(); n != 0 || s != "" || len(l) != 0 {
		t.Errorf("got %d, %q, %q; want zero values", n, s, l)
	}
	if e := r.Done(); e != api.ErrForm {
		t.Errorf("Done = %d with bytes left; want ErrForm", e)
	}
	if n := r.Num(); n != api.MaxNum {
		t.Errorf("Num = %d; want MaxNum", n)
	}
	if e, f := r.Err(), r.Done(); e != api.OK || f != api.OK {
		t.Errorf("Err = %d, Done = %d; want OK, OK", e, f)
	}
}

// A reading is one of the reader's methods, with its answer told as a text that is empty for the zero value.
type reading struct {
	name string
	call func(*wire.Reader) string
}

func readings() []reading {
	return []reading{
		{"Num", func(r *wire.Reader) string {
			if r.Num() != 0 {
				return "a number"
			}
			return ""
		}},
		{"Text", func(r *wire.Reader) string { return r.Text() }},
		{"List", func(r *wire.Reader) string {
			if len(r.List()) != 0 {
				return "a list"
			}
			return ""
		}},
	}
}

// mustFail reads s by one method and looks at the error, at the answer, and at what the reader answers from then on.
func mustFail(t *testing.T, first reading, s string, want api.Errno) {
	t.Helper()
	r := wire.New(s)
	if got := first.call(r); got != "" {
		t.Errorf("%s of %.20q answers %.20q beside an error", first.name, s, got)
	}
	if e, f := r.Err(), r.Done(); e != want || f != want {
		t.Errorf("%s of %.20q: Err = %d, Done = %d; want %d", first.name, s, e, f, want)
	}
	for _, next := range readings() {
		if got := next.call(r); got != "" {
			t.Errorf("%s after %s of %.20q answers %.20q", next.name, first.name, s, got)
		}
		if e, f := r.Err(), r.Done(); e != want || f != want {
			t.Errorf("%s after %s of %.20q: Err = %d, Done = %d; want %d", next.name, first.name, s, e, f, want)
		}
	}
}

// Promise 1.2, Num: each error; and Text and List have it for their length.
func TestNumErrors(t *testing.T) {
	for _, c := range []struct {
		s    string
		want api.Errno
	}{
		{"", api.ErrCut},
		{"\x08", api.ErrForm},
		{"\x08\x01\x02\x03\x04\x05\x06\x07\x08", api.ErrForm},
		{"\xff", api.ErrForm},
		{"\x80\x01\x01", api.ErrForm},
		{"\x01\x00", api.ErrForm},
		{"\x02\x00\x01", api.ErrForm},
		{"\x07\x00", api.ErrForm}, // the zero in front is told ahead of the bytes that lack
		{"\x07\x00\x01\x01\x01\x01\x01\x01", api.ErrForm},
		{"\x01", api.ErrCut},
		{"\x02\x01", api.ErrCut},
		{"\x07", api.ErrCut},
		{"\x07\x20\x00\x00\x00\x00\x00", api.ErrCut},
		{"\x07\xff\xff\xff\xff\xff\xff", api.ErrCut},
		{"\x07\x20\x00\x00\x00\x00\x00\x01", api.ErrRange},
		{"\x07\x21\x00\x00\x00\x00\x00\x00", api.ErrRange},
		{"\x07\xff\xff\xff\xff\xff\xff\xff", api.ErrRange},
		{"\x07\xff\xff\xff\xff\xff\xff\xffabc\x01\x01", api.ErrRange},
	} {
		for _, m := range readings() {
			mustFail(t, m, c.s, c.want)
		}
	}
}

// Promise 1.2, Text: a length above MaxText is told ahead of the bytes that lack.
func TestTextErrors(t *testing.T) {
	text := readings()[1]
	mustFail(t, text, "\x03\x01\x00\x01", api.ErrLong)
	mustFail(t, text, "\x03\x01\x00\x01"+strings.Repeat("x", api.MaxText+1), api.ErrLong)
	mustFail(t, text, "\x07\x20\x00\x00\x00\x00\x00\x00", api.ErrLong)
	mustFail(t, text, "\x01\x01", api.ErrCut)
	mustFail(t, text, "\x01\x03ab", api.ErrCut)
	mustFail(t, text, "\x03\x01\x00\x00"+strings.Repeat("x", api.MaxText-1), api.ErrCut)
}

// Promise 1.2, List: a length above MaxList, then the error of the first element that fails.
func TestListErrors(t *testing.T) {
	list := readings()[2]
	mustFail(t, list, "\x02\x01\x01", api.ErrLong)
	mustFail(t, list, "\x02\x01\x01"+strings.Repeat("\x00", api.MaxList+1), api.ErrLong)
	mustFail(t, list, "\x07\x20\x00\x00\x00\x00\x00\x00", api.ErrLong)
	mustFail(t, list, "\x01\x01", api.ErrCut)
	mustFail(t, list, "\x02\x01\x00"+strings.Repeat("\x00", api.MaxList-1), api.ErrCut)
	mustFail(t, list, "\x01\x02\x01\x01a", api.ErrCut)
	mustFail(t, list, "\x01\x02\x01\x01a\x01\x02b", api.ErrCut)
	mustFail(t, list, "\x01\x02\x01\x01a\x08", api.ErrForm)
	mustFail(t, list, "\x01\x02\x01\x01a\x01\x00", api.ErrForm)
	mustFail(t, list, "\x01\x02\x01\x01a\x03\x01\x00\x01", api.ErrLong)
	mustFail(t, list, "\x01\x02\x01\x01a\x07\x20\x00\x00\x00\x00\x00\x01", api.ErrRange)
	mustFail(t, list, "\x01\x03\x08\x03\x01\x00\x01", api.ErrForm)
}

// Promise 1.2: an error comes after values that were read well, and good bytes behind it are not read.
func TestReaderKeepsItsFirstError(t *testing.T) {
	r := wire.New("\x01\x05\x09\x01\x06\x01\x01a")
	if n := r.Num(); n != 5 || r.Err() != api.OK {
		t.Errorf("Num = %d, Err = %d; want 5, OK", n, r.Err())
	}
	for range 3 {
		if n, s, l := r.Num(), r.Text(), r.List(); n != 0 || s != "" || len(l) != 0 {
			t.Errorf("got %d, %q, %q; want zero values", n, s, l)
		}
		if e, f := r.Err(), r.Done(); e != api.ErrForm || f != api.ErrForm {
			t.Errorf("Err = %d, Done = %d; want ErrForm", e, f)
		}
	}
}

// Promise 1.2: bytes left unread are told by Done alone; the reader itself has no error and reads on.
func TestDone(t *testing.T) {
	if r := wire.New(""); r.Err() != api.OK || r.Done() != api.OK {
		t.Errorf("empty: Err = %d, Done = %d; want OK, OK", r.Err(), r.Done())
	}
	r := wire.New("\x01\x05\x00")
	for range 2 {
		if e := r.Done(); e != api.ErrForm {
			t.Errorf("Done = %d; want ErrForm", e)
		}
	}
	if e := r.Err(); e != api.OK {
		t.Errorf("Err = %d after Done; want OK", e)
	}
	if n := r.Num(); n != 5 || r.Done() != api.ErrForm {
		t.Errorf("Num = %d, Done = %d; want 5, ErrForm", n, r.Done())
	}
	if n := r.Num(); n != 0 || r.Done() != api.OK {
		t.Errorf("Num = %d, Done = %d; want 0, OK", n, r.Done())
	}
}

// Promise 1.2 and rule R1: a nil reader.
func TestNilReader(t *testing.T) {
	var r *wire.Reader
	if n, s, l := r.Num(), r.Text(), r.List(); n != 0 || s != "" || len(l) != 0 {
		t.Errorf("got %d, %q, %q; want zero values", n, s, l)
	}
	if e, f := r.Err(), r.Done(); e != api.ErrNil || f != api.ErrNil {
		t.Errorf("Err = %d, Done = %d; want ErrNil", e, f)
	}
}

// Promise 1.2 and rule R5: readers of the same string do not touch each other.
func TestReadersAreApart(t *testing.T) {
	s := "\x01\x05\x01\x01a"
	a, b := wire.New(s), wire.New(s)
	if n := a.Num(); n != 5 {
		t.Errorf("Num = %d; want 5", n)
	}
	a.List()
	if n, x := b.Num(), b.Text(); n != 5 || x != "a" || b.Done() != api.OK {
		t.Errorf("got %d, %q, Done = %d; want 5, a, OK", n, x, b.Done())
	}
}

// sampleNumbers: all small ones, and those about each power of two.
func sampleNumbers() []int {
	var l []int
	for n := range 70000 {
		l = append(l, n)
	}
	for k := 17; k <= 53; k++ {
		for d := -2; d <= 2; d++ {
			if n := 1<<k + d; n <= api.MaxNum {
				l = append(l, n)
			}
		}
	}
	return l
}

// Promise 1.3: a number is read back, and no two numbers have one encoding.
func TestNumsAreReadBack(t *testing.T) {
	seen := map[string]int{}
	for _, n := range sampleNumbers() {
		s, err := wire.Num(n)
		if err != api.OK {
			t.Fatalf("Num(%d): error %d", n, err)
		}
		if m, ok := seen[s]; ok && m != n {
			t.Fatalf("%d and %d are both %q", m, n, s)
		}
		seen[s] = n
		r := wire.New(s)
		if m := r.Num(); m != n || r.Done() != api.OK {
			t.Fatalf("%d is read back as %d, Done = %d", n, m, r.Done())
		}
	}
}

// Promise 1.3: a text is read back, at every length about which the encoding changes.
func TestTextsAreReadBack(t *testing.T) {
	for _, size := range []int{0, 1, 2, 7, 8, 9, 254, 255, 256, 257, api.MaxText - 1, api.MaxText} {
		want := strings.Repeat("\x00\xffa\x01", size/4+1)[:size]
		s, err := wire.Text(want)
		if err != api.OK {
			t.Fatalf("Text of %d bytes: error %d", size, err)
		}
		r := wire.New(s)
		if got := r.Text(); got != want || r.Done() != api.OK {
			t.Errorf("%d bytes are read back as %d, Done = %d", size, len(got), r.Done())
		}
	}
}

// Promise 1.3: lists whose elements run together to the same bytes stay apart, and all are read back.
func TestListsAreReadBack(t *testing.T) {
	full := make([]string, api.MaxList)
	for i := range full {
		full[i] = strings.Repeat("z", i)
	}
	seen := map[string]int{}
	for i, want := range [][]string{
		{},
		{""},
		{"", ""},
		{"ab"},
		{"a", "b"},
		{"", "ab"},
		{"ab", ""},
		{"b", "a"},
		{"\x01\x01a"},
		{"\x00"},
		{strings.Repeat("x", api.MaxText), "y"},
		full[:api.MaxList-1],
		full,
	} {
		s, err := wire.Join(want)
		if err != api.OK {
			t.Fatalf("case %d: error %d", i, err)
		}
		if k, ok := seen[s]; ok {
			t.Errorf("cases %d and %d have one encoding", k, i)
		}
		seen[s] = i
		r := wire.New(s)
		if got := r.List(); !slices.Equal(got, want) || r.Done() != api.OK {
			t.Errorf("case %d is read back as %d texts, Done = %d", i, len(got), r.Done())
		}
	}
}

// eachString visits all strings of at most size bytes over an alphabet.
func eachString(alphabet string, size int, visit func(string)) {
	var grow func(s string)
	grow = func(s string) {
		visit(s)
		if len(s) == size {
			return
		}
		for i := range len(alphabet) {
			grow(s + alphabet[i:i+1])
		}
	}
	grow("")
}

// Promise 1.3 and rule R1: whatever bytes there are, reading them ends, and those that are read well to the end are the encoding of what was read.
func TestOnlyEncodingsAreRead(t *testing.T) {
	read := 0
	check := func(s string) {
		a := wire.New(s)
		n := a.Num()
		if a.Done() == api.OK {
			read++
			if e, err := wire.Num(n); e != s || err != api.OK {
				t.Errorf("%q is read as the number %d, which is %q", s, n, e)
			}
		}
		b := wire.New(s)
		x := b.Text()
		if b.Done() == api.OK {
			read++
			if e, err := wire.Text(x); e != s || err != api.OK {
				t.Errorf("%q is read as the text %q, which is %q", s, x, e)
			}
		}
		c := wire.New(s)
		l := c.List()
		if c.Done() == api.OK {
			read++
			if e, err := wire.Join(l); e != s || err != api.OK {
				t.Errorf("%q is read as the list %q, which is %q", s, l, e)
			}
		}
	}
	eachString("\x00\x01\x02\x03\x07\x08\xff", 6, check)
	eachString("\x00\x01\x02", 9, check)
	for i := range 1 << 16 {
		check(string([]byte{byte(i >> 8), byte(i)}))
	}
	if read < 1000 {
		t.Errorf("only %d strings were read well: the test looks at too little", read)
	}
}

// Promise 1.2: a string that is cut anywhere, or has one byte more, is not read to its end.
func TestCutAndLonger(t *testing.T) {
	whole, err := wire.Join([]string{"ab", "", strings.Repeat("c", 300)})
	if err != api.OK {
		t.Fatalf("error %d", err)
	}
	list := readings()[2]
	for i := range len(whole) {
		mustFail(t, list, whole[:i], api.ErrCut)
	}
	r := wire.New(whole + "\x00")
	if l := r.List(); len(l) != 3 || r.Err() != api.OK || r.Done() != api.ErrForm {
		t.Errorf("%d texts, Err = %d, Done = %d; want 3, OK, ErrForm", len(l), r.Err(), r.Done())
	}
}

// Rule R3: nil and an empty list are the same.
func TestNilListIsEmptyList(t *testing.T) {
	a, e := wire.Join(nil)
	b, f := wire.Join([]string{})
	if a != b || e != f {
		t.Errorf("%q, %d and %q, %d differ", a, e, b, f)
	}
}

// Rule R4: what was read does not change when the reader goes on.
func TestListsReadAreApart(t *testing.T) {
	r := wire.New("\x01\x02\x01\x01a\x01\x01b\x01\x02\x01\x01c\x01\x01d")
	a := r.List()
	b := r.List()
	if !slices.Equal(a, []string{"a", "b"}) || !slices.Equal(b, []string{"c", "d"}) || r.Done() != api.OK {
		t.Errorf("got %q, %q, Done = %d", a, b, r.Done())
	}
}
