package quote_test

import (
	"fmt"
	"strings"
	"testing"

	"footbridge/api"
	"footbridge/quote"
	"footbridge/sha"
)

// mustRead looks for the string and for what is left behind its form.
func mustRead(t *testing.T, s, want, wantRest string) {
	t.Helper()
	if got, rest, err := quote.Read(s); got != want || rest != wantRest || err != api.OK {
		t.Errorf("Read(%.60q) = %.60q, %.60q, %d; want %.60q, %.60q, OK", s, got, rest, err, want, wantRest)
	}
}

// mustBeRefused also looks for what was read ahead of the fault: rule R2 lets none of it out.
func mustBeRefused(t *testing.T, s string) {
	t.Helper()
	if got, rest, err := quote.Read(s); got != "" || rest != "" || err != api.ErrForm {
		t.Errorf("Read(%.60q) = %.60q, %.60q, %d; want \"\", \"\", ErrForm", s, got, rest, err)
	}
}

// Promise 6.1, Put and Read: ordinary strings, the empty one, strings that look like escapes, and bytes that are no text.
func TestPutAndRead(t *testing.T) {
	for _, c := range []struct{ s, want string }{
		{"", `""`},
		{"abc", `"abc"`},
		{" a b ", `" a b "`},
		{"\n", `"\u000a"`},
		{"\"", `"\""`},
		{"\\", `"\\"`},
		{"\\\"", `"\\\""`},
		{"\"\\", `"\"\\"`},
		{"\"\"", `"\"\""`},
		{"\\\\", `"\\\\"`},
		{"\x00", `"\u0000"`},
		{"\x1f ", `"\u001f "`},
		{"~\x7f\x80", "\"~\\u007f\x80\""},
		{"\b\t\n\f\r", `"\u0008\u0009\u000a\u000c\u000d"`},
		{"say \"hi\"\n", `"say \"hi\"\u000a"`},
		{`\u000a`, `"\\u000a"`},
		{`\n`, `"\\n"`},
		{`u000a`, `"u000a"`},
		{"'/<>&", `"'/<>&"`},
		{"\u00e4\u20ac\u2028", "\"\u00e4\u20ac\u2028\""},
		{"\xe4\xff\xfe", "\"\xe4\xff\xfe\""},
	} {
		if got := quote.Put(c.s); got != c.want {
			t.Errorf("Put(%q) = %s; want %s", c.s, got, c.want)
		}
		mustRead(t, c.want, c.s, "")
	}
}

// form is what promise 6.1 says a byte is written as.
func form(b byte) string {
	switch {
	case b == 34:
		return `\"`
	case b == 92:
		return `\\`
	case b <= 31 || b == 127:
		return fmt.Sprintf(`\u00%02x`, b)
	}
	return string([]byte{b})
}

// inner is what promise 6.1 says a string is written as between the quotes.
func inner(s string) string {
	out := ""
	for _, b := range []byte(s) {
		out += form(b)
	}
	return out
}

// Promise 6.1, Put: each byte has its form, alone and between others, and is read back from it.
func TestEachByte(t *testing.T) {
	for i := range 256 {
		b := string([]byte{byte(i)})
		for _, around := range []string{"", "a", "\\", "\"", "\n", "\xff", "u", "0"} {
			beside := inner(around)
			want := `"` + beside + form(byte(i)) + beside + `"`
			if got := quote.Put(around + b + around); got != want {
				t.Errorf("Put of byte %d between %q = %s; want %s", i, around, got, want)
			}
			mustRead(t, want, around+b+around, "")
		}
	}
}

// Promise 6.1, Put: all strings of two bytes; the hash of their forms was worked out by another program.
func TestAllOfTwoBytes(t *testing.T) {
	var all strings.Builder
	for i := range 1 << 16 {
		s := string([]byte{byte(i >> 8), byte(i)})
		put := quote.Put(s)
		all.WriteString(put)
		mustRead(t, put+put, s, put)
	}
	if got := fmt.Sprintf("%x", sha.Sum(all.String())); got != "b094b08b9c89da0294e4efd0772759284a89569fa079cd3f444bbfe50dabde52" {
		t.Errorf("the hash of all forms is %s", got)
	}
}

// Promise 6.1, Read: what follows the form is the rest, whatever it is, and it is not looked at.
func TestRest(t *testing.T) {
	for _, rest := range []string{"", "x", " ", "\"", "\"\"", "\\", "\\\"", "\n", "\x00", "\x7f", "\xff", ",\"b\":1}", "\"b\"", "\\u0041", strings.Repeat("\"", 1000)} {
		for _, s := range []string{"", "a", "a\"\\\n", "\\", "\"", "\x7f", "\xff"} {
			mustRead(t, quote.Put(s)+rest, s, rest)
		}
	}
	for i := range 256 {
		rest := string([]byte{byte(i)})
		mustRead(t, `""`+rest, "", rest)
		mustRead(t, `"a"`+rest+`"b"`, "a", rest+`"b"`)
	}
}

// Promise 6.1, Read: forms one after the other are taken apart one by one.
func TestOneAfterTheOther(t *testing.T) {
	want := []string{"", "a", "\"", "\\", "\n\x7f", "", "\xff\"", "b"}
	rest := ""
	for _, s := range want {
		rest += quote.Put(s)
	}
	for i, s := range want {
		got, left, err := quote.Read(rest)
		if got != s || err != api.OK {
			t.Fatalf("string %d is read as %q, error %d; want %q", i, got, err, s)
		}
		rest = left
	}
	if rest != "" {
		t.Errorf("%q is left", rest)
	}
	mustBeRefused(t, rest)
}

// Promise 6.1, Read: a form begins with a double quote, at once.
func TestNoOpeningQuote(t *testing.T) {
	mustBeRefused(t, "")
	for i := range 256 {
		b := string([]byte{byte(i)})
		if b == `"` {
			continue
		}
		mustBeRefused(t, b)
		mustBeRefused(t, b+`"`)
		mustBeRefused(t, b+`"a"`)
		mustBeRefused(t, b+`a"`)
	}
}

// Promise 6.1, Read: a form that is cut is none, wherever it is cut.
func TestCut(t *testing.T) {
	for _, s := range []string{"", "a", "abc", "\"", "\\", "\\\\\"", "\n", "a\x7fb", "\x00\x1f", "a\"\\\n\xff"} {
		put := quote.Put(s)
		for size := range len(put) {
			mustBeRefused(t, put[:size])
		}
	}
	mustBeRefused(t, `"\"`)
	mustBeRefused(t, `"\\\"`)
	mustBeRefused(t, `"a\`)
	mustBeRefused(t, `"`+strings.Repeat("a", 1<<16))
	mustBeRefused(t, `"`+strings.Repeat(`\"`, 1<<16))
}

// Promise 6.1, Read: of all bytes those do not stand unescaped that Put escapes.
func TestUnescapedBytes(t *testing.T) {
	for i := range 256 {
		b := string([]byte{byte(i)})
		switch {
		case i == 34:
			mustRead(t, `"`+b+`"`, "", `"`)
			mustRead(t, `"ab`+b+`cd"`, "ab", `cd"`)
		case i == 92:
			mustBeRefused(t, `"`+b+`"`)
			mustBeRefused(t, `"ab`+b+`cd"`)
		case i < 32 || i == 127:
			mustBeRefused(t, `"`+b+`"`)
			mustBeRefused(t, `"ab`+b+`cd"`)
			mustBeRefused(t, `"`+b)
			mustBeRefused(t, `"`+b+`u0041"`)
		default:
			mustRead(t, `"`+b+`"`, b, "")
			mustRead(t, `"ab`+b+`cd"`, "ab"+b+"cd", "")
		}
	}
}

// Promise 6.1, Read: behind a backslash stands a double quote, a backslash or u and four digits, nothing else that JSON has.
func TestByteBehindABackslash(t *testing.T) {
	for i := range 256 {
		b := string([]byte{byte(i)})
		for _, tail := range []string{`"`, `a"`, `0041"`, `00zz"`, `"000a"`, ``} {
			s := `"a\` + b + tail
			if b == `"` || b == `\` {
				end := strings.IndexByte(tail, '"')
				if end < 0 {
					mustBeRefused(t, s)
				} else {
					mustRead(t, s, "a"+b+tail[:end], tail[end+1:])
				}
				continue
			}
			mustBeRefused(t, s)
		}
	}
	for _, s := range []string{`"\n"`, `"\t"`, `"\r"`, `"\b"`, `"\f"`, `"\/"`, `"\a"`, `"\0"`, `"\x0a"`, `"\012"`, `"\'"`} {
		mustBeRefused(t, s)
	}
}

// Promise 6.1, Read: of all escapes with two digits exactly those are read that Put writes, in lowercase digits.
func TestAllDigits(t *testing.T) {
	read := 0
	for i := range 1 << 16 {
		pair := string([]byte{byte(i >> 8), byte(i)})
		s := `"a\u00` + pair + `b"c`
		value := -1
		for v := range 256 {
			if (v < 32 || v == 127) && pair == fmt.Sprintf("%02x", v) {
				value = v
			}
		}
		if value < 0 {
			mustBeRefused(t, s)
			continue
		}
		read++
		mustRead(t, s, "a"+string([]byte{byte(value)})+"b", "c")
	}
	if read != 33 {
		t.Errorf("%d escapes were read; want 33", read)
	}
}

// Promise 6.1, Read: the first two of the four digits are zeros, and the u is small.
func TestHeadOfAnEscape(t *testing.T) {
	head := `\u00`
	for at := range len(head) {
		for i := range 256 {
			other := head[:at] + string([]byte{byte(i)}) + head[at+1:]
			if other == head || at == 0 || at == 1 && (i == 34 || i == 92) {
				continue
			}
			mustBeRefused(t, `"`+other+`0a"`)
			mustBeRefused(t, `"`+other+`7f"`)
		}
	}
	mustRead(t, `"\\000a"`, `\000a`, "")
	mustRead(t, `"\"000a"`, `"000a`, "")
	for _, s := range []string{`"\u000A"`, `"\u007F"`, `"\u001F"`, `"\U000a"`, `"\u0a"`, `"\u{a}"`, `"\u 00a"`, `"\u00a"`, `"\u000"`, `"\u00"`, `"\u"`, `"\u100a"`, `"\u010a"`, `"\ud800"`, `"\ud83d\ude00"`} {
		mustBeRefused(t, s)
	}
}

// Promise 6.1, Read: escapes of bytes that Put writes otherwise are no forms.
func TestEscapesThatPutDoesNotWrite(t *testing.T) {
	for i := range 256 {
		if i < 32 || i == 127 {
			continue
		}
		mustBeRefused(t, fmt.Sprintf(`"\u00%02x"`, i))
		mustBeRefused(t, fmt.Sprintf(`"ok\u00%02x"rest`, i))
	}
}

// Promise 6.1: long strings, of which each byte grows to six at most, are read back.
func TestReadBack(t *testing.T) {
	for _, size := range []int{0, 1, 2, 5, 255, 256, api.MaxText, api.MaxText + 1, 1 << 20} {
		want := strings.Repeat("\x00\xff\"a\\\x7f~", size/7+1)[:size]
		put := quote.Put(want)
		mustRead(t, put+"rest", want, "rest")
	}
	if got := len(quote.Put(strings.Repeat("\x00", 1000))); got != 6002 {
		t.Errorf("the form of 1000 zero bytes has %d bytes; want 6002", got)
	}
	if got := len(quote.Put(strings.Repeat("\"", 1000))); got != 2002 {
		t.Errorf("the form of 1000 quotes has %d bytes; want 2002", got)
	}
}

// Rules R4 and R5: a call hangs on its arguments alone, not on the calls ahead of it.
func TestCallsAreAlone(t *testing.T) {
	put := quote.Put("a\n")
	once, rest, _ := quote.Read(put + "x")
	quote.Put("something else\x7f")
	quote.Read(`"another"y`)
	quote.Read(`"\`)
	if quote.Put("a\n") != put || put != `"a\u000a"` || once != "a\n" || rest != "x" {
		t.Errorf("answers changed to %q, %q, %q", put, once, rest)
	}
	mustRead(t, put+"x", once, rest)
}

// Promise 6.1 and rule R1: whatever bytes there are, reading them ends, and those that are read are the form of what was read, with the rest behind it.
func FuzzAgainstTheWords(f *testing.F) {
	for _, s := range []string{"", `"`, `""`, `"a`, `"a"x`, `"\u000a"`, `"\u0041"`, `"\n"`, `"\\"\"`, "\"\x7f\"", "\"\xff\"\x00"} {
		f.Add(s)
	}
	f.Fuzz(func(t *testing.T, s string) {
		got, rest, err := quote.Read(s)
		switch {
		case err == api.OK && `"`+inner(got)+`"`+rest != s:
			t.Errorf("%q is read as %q and %q", s, got, rest)
		case err != api.OK && (err != api.ErrForm || got != "" || rest != ""):
			t.Errorf("Read(%q) = %q, %q, %d; want \"\", \"\", ErrForm", s, got, rest, err)
		}
		put := quote.Put(s)
		if want := `"` + inner(s) + `"`; put != want {
			t.Errorf("Put(%q) = %q; want %q", s, put, want)
		}
		mustRead(t, put+s, s, s)
	})
}
