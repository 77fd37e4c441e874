package header_test

import (
	"fmt"
	"math"
	"strings"
	"testing"

	"footbridge/api"
	"footbridge/header"
	"footbridge/mac"
)

// greatest is the encoding of MaxNum, and beyond the bytes that would be that of the number above it.
const (
	greatest = "\x07\x20\x00\x00\x00\x00\x00\x00"
	beyond   = "\x07\x20\x00\x00\x00\x00\x00\x01"
)

// full and long are the longest text that has an encoding, and one that has none.
func full() string { return strings.Repeat("f", api.MaxText) }
func long() string { return strings.Repeat("l", api.MaxText+1) }

// told is a header with its long texts cut.
func told(h api.Header) string {
	return fmt.Sprintf("{%.40q %d %d %.40q %.40q}", h.Chain, h.Height, h.Time, h.Root, h.Mac)
}

// coded is a header and its encoding, in two pieces: what is signed, and the rest.
type coded struct {
	h            api.Header
	signed, rest string
}

// codedHeaders tells headers of all shapes, at all edges, with their encodings written out.
func codedHeaders() []coded {
	root := strings.Repeat("r", 32)
	return []coded{
		{api.Header{}, "\x00\x00\x00\x00", "\x00"},
		{api.Header{Chain: "a", Height: 1, Time: 2}, "\x01\x01a\x01\x01\x01\x02\x00", "\x00"},
		{api.Header{Chain: "a"}, "\x01\x01a\x00\x00\x00", "\x00"},
		{api.Header{Height: 1}, "\x00\x01\x01\x00\x00", "\x00"},
		{api.Header{Time: 1}, "\x00\x00\x01\x01\x00", "\x00"},
		{api.Header{Root: "a"}, "\x00\x00\x00\x01\x01a", "\x00"},
		{api.Header{Mac: "a"}, "\x00\x00\x00\x00", "\x01\x01a"},
		{api.Header{Chain: "left", Height: 300, Time: 65536, Root: root, Mac: "xyz"},
			"\x01\x04left\x02\x01\x2c\x03\x01\x00\x00\x01\x20" + root, "\x01\x03xyz"},
		{api.Header{Chain: "\xff\x00", Height: 255, Time: 256, Root: "\x00", Mac: "\xe4\x80"},
			"\x01\x02\xff\x00\x01\xff\x02\x01\x00\x01\x01\x00", "\x01\x02\xe4\x80"},
		{api.Header{Height: api.MaxNum, Time: api.MaxNum}, "\x00" + greatest + greatest + "\x00", "\x00"},
		{api.Header{Height: api.MaxCount + 1, Time: api.MaxNum - 1},
			"\x00\x06\x01\x00\x00\x00\x00\x01\x07\x1f\xff\xff\xff\xff\xff\xff\x00", "\x00"},
		{api.Header{Chain: full(), Root: full(), Mac: full()},
			"\x03\x01\x00\x00" + full() + "\x00\x00\x03\x01\x00\x00" + full(), "\x03\x01\x00\x00" + full()},
	}
}

// Promise 13.1, Put and Read: headers and their bytes, both ways.
func TestBytes(t *testing.T) {
	for _, c := range codedHeaders() {
		want := c.signed + c.rest
		if got, err := header.Put(c.h); got != want || err != api.OK {
			t.Errorf("Put(%s) = %.60q, %d; want %.60q", told(c.h), got, err, want)
		}
		if got, err := header.Read(want); got != c.h || err != api.OK {
			t.Errorf("Read(%.60q) = %s, %d; want %s", want, told(got), err, told(c.h))
		}
	}
}

// wrong is a header that has no encoding, and the first error.
type wrong struct {
	what string
	h    api.Header
	want api.Errno
}

// wrongHeaders tells headers whose signed part has no encoding.
func wrongHeaders() []wrong {
	return []wrong{
		{"a long chain", api.Header{Chain: long()}, api.ErrLong},
		{"a height of -1", api.Header{Height: -1}, api.ErrRange},
		{"the least height", api.Header{Height: math.MinInt}, api.ErrRange},
		{"a height beyond MaxNum", api.Header{Height: api.MaxNum + 1}, api.ErrRange},
		{"the greatest height", api.Header{Height: math.MaxInt}, api.ErrRange},
		{"a time of -1", api.Header{Time: -1}, api.ErrRange},
		{"the least time", api.Header{Time: math.MinInt}, api.ErrRange},
		{"a time beyond MaxNum", api.Header{Time: api.MaxNum + 1}, api.ErrRange},
		{"the greatest time", api.Header{Time: math.MaxInt}, api.ErrRange},
		{"a long root", api.Header{Root: long()}, api.ErrLong},
		{"a long chain ahead of a height", api.Header{Chain: long(), Height: -1}, api.ErrLong},
		{"a long chain ahead of a time", api.Header{Chain: long(), Time: -1}, api.ErrLong},
		{"a height ahead of a long root", api.Header{Height: -1, Root: long()}, api.ErrRange},
		{"a time ahead of a long root", api.Header{Time: -1, Root: long()}, api.ErrRange},
		{"a height ahead of a long code", api.Header{Height: -1, Mac: long()}, api.ErrRange},
		{"a time ahead of a long code", api.Header{Time: -1, Mac: long()}, api.ErrRange},
		{"all others whole", api.Header{Chain: "left", Height: 1, Time: -2, Root: "r", Mac: "m"}, api.ErrRange},
		{"everything", api.Header{Chain: long(), Height: -1, Time: -1, Root: long(), Mac: long()}, api.ErrLong},
	}
}

// Promise 13.1, Put: the first error in the order of the encoding.
func TestPutErrors(t *testing.T) {
	all := append(wrongHeaders(), wrong{"a long code", api.Header{Chain: "a", Mac: long()}, api.ErrLong})
	for _, c := range all {
		if got, err := header.Put(c.h); got != "" || err != c.want {
			t.Errorf("%s: Put = %.60q, %d; want \"\", %d", c.what, got, err, c.want)
		}
	}
}

// Promise 13.1, Read: each error at each place, and the first one of several.
func TestReadErrors(t *testing.T) {
	const tooLong = "\x03\x01\x00\x01"
	for _, c := range []struct {
		what, s string
		want    api.Errno
	}{
		{"nothing", "", api.ErrCut},
		{"the chain's length malformed", "\x08", api.ErrForm},
		{"the chain's length with a leading zero", "\x01\x00\x00\x00\x00\x00", api.ErrForm},
		{"the chain's length too great", beyond + "\x00\x00\x00\x00", api.ErrRange},
		{"the chain too long", tooLong + long() + "\x00\x00\x00\x00", api.ErrLong},
		{"the chain cut", "\x01\x02a", api.ErrCut},
		{"the height missing", "\x01\x01a", api.ErrCut},
		{"the height malformed", "\x00\xff\x00\x00\x00", api.ErrForm},
		{"the height with a leading zero", "\x00\x02\x00\x01\x00\x00\x00", api.ErrForm},
		{"the height too great", "\x00" + beyond + "\x00\x00\x00", api.ErrRange},
		{"the height cut", "\x00\x02\x01", api.ErrCut},
		{"the time missing", "\x00\x00", api.ErrCut},
		{"the time malformed", "\x00\x00\x09\x00\x00", api.ErrForm},
		{"the time with a leading zero", "\x00\x00\x01\x00\x00\x00", api.ErrForm},
		{"the time too great", "\x00\x00" + beyond + "\x00\x00", api.ErrRange},
		{"the root missing", "\x00\x00\x00", api.ErrCut},
		{"the root's length malformed", "\x00\x00\x00\x80\x00", api.ErrForm},
		{"the root's length too great", "\x00\x00\x00" + beyond + "\x00", api.ErrRange},
		{"the root too long", "\x00\x00\x00" + tooLong + long() + "\x00", api.ErrLong},
		{"the root cut", "\x00\x00\x00\x01\x03rr", api.ErrCut},
		{"the code missing", "\x00\x00\x00\x00", api.ErrCut},
		{"the code's length malformed", "\x00\x00\x00\x00\x08", api.ErrForm},
		{"the code's length too great", "\x00\x00\x00\x00" + beyond, api.ErrRange},
		{"the code too long", "\x00\x00\x00\x00" + tooLong + long(), api.ErrLong},
		{"the code cut", "\x00\x00\x00\x00\x01\x02m", api.ErrCut},
		{"a byte left over", "\x00\x00\x00\x00\x00\x00", api.ErrForm},
		{"bytes left over behind a code", "\x00\x00\x00\x00\x01\x01mxyz", api.ErrForm},
		{"a height too great ahead of a time malformed", "\x00" + beyond + "\x08\x00\x00", api.ErrRange},
		{"a time malformed ahead of a root cut", "\x00\x00\x08\x01", api.ErrForm},
		{"a code cut and no byte left over", "\x01\x01a\x01\x01\x01\x02\x00\x01\x01", api.ErrCut},
	} {
		if got, err := header.Read(c.s); got != (api.Header{}) || err != c.want {
			t.Errorf("%s: Read = %s, %d; want the zero header, %d", c.what, told(got), err, c.want)
		}
	}
}

// Promise 13.1, Read: a header that is cut anywhere is ErrCut, and one with anything behind it ErrForm.
func TestCutAndLeftOver(t *testing.T) {
	s := "\x01\x04left\x02\x01\x2c\x03\x01\x00\x00\x01\x02rr\x01\x03xyz"
	for i := range s {
		if got, err := header.Read(s[:i]); got != (api.Header{}) || err != api.ErrCut {
			t.Errorf("Read of the first %d bytes = %s, %d; want ErrCut", i, told(got), err)
		}
	}
	for _, more := range []string{"\x00", "x", "\xff", s} {
		if got, err := header.Read(s + more); got != (api.Header{}) || err != api.ErrForm {
			t.Errorf("Read with %q behind = %s, %d; want ErrForm", more, told(got), err)
		}
	}
}

// Promise 13.1, Sign: codes that another program worked out.
func TestKnownCodes(t *testing.T) {
	var count [32]byte
	for i := range count {
		count[i] = byte(i)
	}
	longest := api.Header{Chain: strings.Repeat("c", api.MaxText), Height: api.MaxNum - 1, Time: 255, Root: "\x00"}
	for _, c := range []struct {
		key  string
		h    api.Header
		want string
	}{
		{"k", api.Header{Chain: "a", Height: 1, Time: 2}, "f90c21146d4fab2959214df3141cb40a12cfe5c1f465cff8118da1c2cd08f0eb"},
		{"", api.Header{}, "aa7855e13839dd767cd5da7c1ff5036540c9264b7a803029315e55375287b4af"},
		{"key", api.Header{Chain: "left", Height: 300, Time: 65536, Root: string(count[:])}, "4457a8d4e2658ca66bdc48cf55237311bdbd9c181d9fae9046ba6969c68186b6"},
		{strings.Repeat("k", 65), api.Header{Chain: "\xff\x00", Height: api.MaxNum, Time: api.MaxNum, Root: strings.Repeat("r", api.MaxText)},
			"3fb3c318995618b38023dfe7bc8a83e2d33b18cfd0b9ae6f97b80138334dd329"},
		{strings.Repeat("k", 64), longest, "487d32e72159c61e23b5f518ffb403301d6d32eeb15fd92e16164b51d68cc37f"},
		{strings.Repeat("k", 65), longest, "c04ece65ed9a17d2d61b7a4399ab778f7f1f2d920de35d9c7560ec41f2469f6a"},
	} {
		h, err := header.Sign(c.key, c.h)
		if got := fmt.Sprintf("%x", h.Mac); got != c.want || err != api.OK {
			t.Errorf("Sign(%.20q, %s): %s, %d; want %s", c.key, told(c.h), got, err, c.want)
		}
	}
}

// keys tells keys of all lengths that matter, those too that no text may have.
func keys() []string {
	return []string{"", "k", "key", "\x00\xff", strings.Repeat("k", 64), strings.Repeat("k", 65), strings.Repeat("k", api.MaxText+1)}
}

// Promise 13.1, Sign: the code is that of the encoding without its last text; all the rest stays, and a code that stood there does not matter.
func TestSign(t *testing.T) {
	for _, key := range keys() {
		for _, c := range codedHeaders() {
			want := c.h
			want.Mac = mac.Sum(key, c.signed)
			for _, old := range []string{c.h.Mac, "", "m", want.Mac, long()} {
				h := c.h
				h.Mac = old
				if got, err := header.Sign(key, h); got != want || err != api.OK {
					t.Errorf("Sign(%.20q, %s) = %s, %d; want %s", key, told(h), told(got), err, told(want))
				}
			}
		}
	}
}

// Promise 13.1, Sign: the first error of what is signed.
func TestSignErrors(t *testing.T) {
	for _, c := range wrongHeaders() {
		for _, key := range []string{"", "k"} {
			if got, err := header.Sign(key, c.h); got != (api.Header{}) || err != c.want {
				t.Errorf("%s: Sign = %s, %d; want the zero header, %d", c.what, told(got), err, c.want)
			}
		}
	}
}

// mustSign signs a header that has an encoding.
func mustSign(t *testing.T, key string, h api.Header) api.Header {
	t.Helper()
	signed, err := header.Sign(key, h)
	if err != api.OK {
		t.Fatalf("Sign(%.20q, %s): error %d", key, told(h), err)
	}
	return signed
}

// Promise 13.1, Good: a header that Sign answered is good under its key, also after it was encoded, and under no other key.
func TestGood(t *testing.T) {
	all := keys()
	for i, key := range all {
		for _, c := range codedHeaders() {
			h := mustSign(t, key, c.h)
			s, err := header.Put(h)
			if want := c.signed + "\x01\x20" + h.Mac; s != want || err != api.OK {
				t.Errorf("Put(%s) = %.60q, %d; want %.60q", told(h), s, err, want)
			}
			got, err := header.Read(s)
			if got != h || err != api.OK {
				t.Errorf("Read(%.60q) = %s, %d; want %s", s, told(got), err, told(h))
			}
			for j, other := range all {
				if good := header.Good(other, got); good != (i == j) {
					t.Errorf("%s, signed under %.20q, is good under %.20q: %v", told(h), key, other, good)
				}
			}
		}
	}
}

// Promise 13.1, Good: a header that Sign did not answer is not good, whatever is different in it.
func TestNotGood(t *testing.T) {
	h := mustSign(t, "k", api.Header{Chain: "left", Height: 3, Time: 30, Root: "root"})
	code := h.Mac
	for _, c := range []struct {
		what   string
		change func(*api.Header)
	}{
		{"another chain", func(h *api.Header) { h.Chain = "lefu" }},
		{"no chain", func(h *api.Header) { h.Chain = "" }},
		{"a long chain", func(h *api.Header) { h.Chain = long() }},
		{"another height", func(h *api.Header) { h.Height = 4 }},
		{"the height below 0", func(h *api.Header) { h.Height = -3 }},
		{"the height and the time exchanged", func(h *api.Header) { h.Height, h.Time = h.Time, h.Height }},
		{"another time", func(h *api.Header) { h.Time = 31 }},
		{"a time beyond MaxNum", func(h *api.Header) { h.Time = api.MaxNum + 1 }},
		{"another root", func(h *api.Header) { h.Root = "rooT" }},
		{"no root", func(h *api.Header) { h.Root = "" }},
		{"a long root", func(h *api.Header) { h.Root = long() }},
		{"the chain and the root exchanged", func(h *api.Header) { h.Chain, h.Root = h.Root, h.Chain }},
		{"no code", func(h *api.Header) { h.Mac = "" }},
		{"a code cut", func(h *api.Header) { h.Mac = code[:31] }},
		{"a code without its first byte", func(h *api.Header) { h.Mac = code[1:] }},
		{"a byte behind the code", func(h *api.Header) { h.Mac = code + "\x00" }},
		{"a code twice", func(h *api.Header) { h.Mac = code + code }},
		{"a long code", func(h *api.Header) { h.Mac = long() }},
		{"the code of another key", func(h *api.Header) { h.Mac = mustSign(t, "l", *h).Mac }},
	} {
		other := h
		c.change(&other)
		if header.Good("k", other) {
			t.Errorf("%s: it is good", c.what)
		}
	}
	for i := range 8 * len(code) {
		turned := []byte(code)
		turned[i/8] ^= 1 << (i % 8)
		other := h
		other.Mac = string(turned)
		if header.Good("k", other) {
			t.Errorf("with bit %d of the code turned it is good", i)
		}
	}
	if !header.Good("k", h) {
		t.Error("the header itself is not good")
	}
}

// Promise 13.1, Good: the zero header, and headers that have no encoding, are good under no key, with no code.
func TestNeverGood(t *testing.T) {
	for _, key := range keys() {
		if header.Good(key, api.Header{}) {
			t.Errorf("the zero header is good under %.20q", key)
		}
		for _, c := range wrongHeaders() {
			for _, code := range []string{"", c.h.Mac, mac.Sum(key, "")} {
				h := c.h
				h.Mac = code
				if header.Good(key, h) {
					t.Errorf("%s: it is good under %.20q with the code %.40q", c.what, key, code)
				}
			}
		}
	}
}

// Promise 13.1 and rule R1: whatever the header is, the calls end and agree with each other.
func FuzzHeader(f *testing.F) {
	f.Add("k", "a", 1, 2, "", "")
	f.Add("", "", 0, 0, "", "")
	f.Add("key", "left", -1, api.MaxNum+1, "\xff\x00", "m")
	f.Add("key", "left", api.MaxNum, math.MinInt, strings.Repeat("r", 32), strings.Repeat("m", 32))
	f.Fuzz(func(t *testing.T, key, chain string, height, time int, root, code string) {
		h := api.Header{Chain: chain, Height: height, Time: time, Root: root, Mac: code}
		s, err := header.Put(h)
		signed, failed := header.Sign(key, h)
		if failed != api.OK && err != failed || err != api.OK && s != "" || failed != api.OK && (signed != api.Header{} || header.Good(key, h)) {
			t.Errorf("%s: Put = %.60q, %d; Sign = %s, %d", told(h), s, err, told(signed), failed)
		}
		if got, e := header.Read(s); err == api.OK && (got != h || e != api.OK) {
			t.Errorf("%s is read back as %s, %d", told(h), told(got), e)
		}
		if failed != api.OK {
			return
		}
		if !header.Good(key, signed) || header.Good(key, h) != (signed == h) {
			t.Errorf("whether %s and %s, signed under %q, are good", told(h), told(signed), key)
		}
		signed.Mac = code
		if signed != h {
			t.Errorf("Sign changed %s to %s", told(h), told(signed))
		}
	})
}

// Promise 13.1 and rule R1: whatever is read, the call ends, and a header that is read has these bytes and no others.
func FuzzRead(f *testing.F) {
	for _, c := range codedHeaders() {
		if len(c.signed) < 100 {
			f.Add(c.signed + c.rest)
		}
	}
	f.Add("")
	f.Add("\x01\x01a\x01\x01\x01\x02\x00\x00x")
	f.Add("\x00" + beyond + "\x00\x00\x00")
	f.Fuzz(func(t *testing.T, s string) {
		h, err := header.Read(s)
		if err != api.OK {
			if h != (api.Header{}) {
				t.Errorf("Read(%.60q) = %s beside the error %d", s, told(h), err)
			}
			return
		}
		if got, err := header.Put(h); got != s || err != api.OK {
			t.Errorf("Put(Read(%q)) = %q, %d", s, got, err)
		}
	})
}
