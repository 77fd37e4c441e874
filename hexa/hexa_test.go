package hexa_test

import (
	"fmt"
	"strings"
	"testing"

	"footbridge/api"
	"footbridge/hexa"
)

// Promise 2.1, Put and Read: ordinary strings, the empty one, and bytes that are no text.
func TestPutAndRead(t *testing.T) {
	for _, c := range []struct{ s, want string }{
		{"", ""},
		{"\x01\xff", "01ff"},
		{"\x00", "00"},
		{"\x00\x00", "0000"},
		{"\x0f", "0f"},
		{"\xf0", "f0"},
		{"\x10\x01", "1001"},
		{"abc", "616263"},
		{"01ff", "30316666"},
		{"\u00e4", "c3a4"},
		{"\x80\xff\xfe", "80fffe"},
		{"\x01\x23\x45\x67\x89\xab\xcd\xef", "0123456789abcdef"},
		{"\xfe\xdc\xba\x98\x76\x54\x32\x10", "fedcba9876543210"},
	} {
		if got := hexa.Put(c.s); got != c.want {
			t.Errorf("Put(%q) = %q; want %q", c.s, got, c.want)
		}
		if got, err := hexa.Read(c.want); got != c.s || err != api.OK {
			t.Errorf("Read(%q) = %q, %d; want %q, OK", c.want, got, err, c.s)
		}
	}
}

// Promise 2.1, Put: each byte has its two digits, alone and among others.
func TestEachByte(t *testing.T) {
	var all, want strings.Builder
	for i := range 256 {
		b := string([]byte{byte(i)})
		d := fmt.Sprintf("%02x", i)
		if got := hexa.Put(b); got != d {
			t.Errorf("Put of byte %d = %q; want %q", i, got, d)
		}
		all.WriteString(b)
		want.WriteString(d)
	}
	if got := hexa.Put(all.String()); got != want.String() {
		t.Errorf("Put of all bytes = %q; want %q", got, want.String())
	}
	if got, err := hexa.Read(want.String()); got != all.String() || err != api.OK {
		t.Errorf("Read of all bytes' digits = %q, %d", got, err)
	}
}

// mustBeRefused also looks for what was read ahead of the fault: rule R2 lets none of it out.
func mustBeRefused(t *testing.T, s string) {
	t.Helper()
	if got, err := hexa.Read(s); got != "" || err != api.ErrForm {
		t.Errorf("Read(%.40q) = %.40q, %d; want \"\", ErrForm", s, got, err)
	}
}

// Promise 2.1, Read: strings of odd length are no encodings, whatever they are made of.
func TestOddLength(t *testing.T) {
	for i := range 256 {
		mustBeRefused(t, string([]byte{byte(i)}))
	}
	for size := 1; size < 200; size += 2 {
		mustBeRefused(t, strings.Repeat("a", size))
	}
	mustBeRefused(t, "01ff0")
	mustBeRefused(t, "01f")
	mustBeRefused(t, "01G")
	mustBeRefused(t, strings.Repeat("0", 1<<16+1))
}

// Promise 2.1, Read: of all strings of two bytes exactly those are read that are made of lowercase digits.
func TestAllOfTwoBytes(t *testing.T) {
	const lower = "0123456789abcdef"
	read := 0
	for i := range 1 << 16 {
		s := string([]byte{byte(i >> 8), byte(i)})
		high, low := strings.IndexByte(lower, s[0]), strings.IndexByte(lower, s[1])
		if high < 0 || low < 0 {
			mustBeRefused(t, s)
			continue
		}
		read++
		want := string([]byte{byte(16*high + low)})
		if got, err := hexa.Read(s); got != want || err != api.OK {
			t.Errorf("Read(%q) = %q, %d; want %q, OK", s, got, err, want)
		}
	}
	if read != 256 {
		t.Errorf("%d strings were read; want 256", read)
	}
}

// Promise 2.1, Read: one byte that is no lowercase digit spoils a string, wherever it stands.
func TestWrongByteAnywhere(t *testing.T) {
	good := "00ff7f80a5"
	for at := range len(good) {
		for _, b := range []byte{0, ' ', '\n', '-', '+', '/', ':', '@', 'A', 'F', 'G', '_', '`', 'g', 'x', 0x7f, 0x80, 0xb0, 0xe1, 0xff} {
			mustBeRefused(t, good[:at]+string([]byte{b})+good[at+1:])
		}
	}
	for _, s := range []string{"0x", "0x01", "01FF", "01Ff", " 01ff ", "01 ff ", "01ff\r\n", "\u0660\u0661", "zz", "01ffzz"} {
		mustBeRefused(t, s)
	}
}

// Promise 2.1: whatever string there is, it is read back from its encoding, which has two digits a byte.
func TestReadBack(t *testing.T) {
	for _, size := range []int{0, 1, 2, 3, 15, 16, 17, 255, 256, 257, api.MaxText, api.MaxText + 1, 1 << 20} {
		want := strings.Repeat("\x00\xff\x9fa\x10", size/5+1)[:size]
		s := hexa.Put(want)
		if len(s) != 2*size {
			t.Errorf("Put of %d bytes has %d digits", size, len(s))
		}
		if got, err := hexa.Read(s); got != want || err != api.OK {
			t.Errorf("%d bytes are read back as %d, error %d", size, len(got), err)
		}
	}
	for i := range 1 << 16 {
		want := string([]byte{byte(i >> 8), byte(i)})
		if got, err := hexa.Read(hexa.Put(want)); got != want || err != api.OK {
			t.Fatalf("%q is read back as %q, error %d", want, got, err)
		}
	}
}

// Promise 2.1 and rule R1: whatever bytes there are, reading them ends, and those that are read are the encoding of what was read.
func FuzzOnlyEncodingsAreRead(f *testing.F) {
	for _, s := range []string{"", "0", "01ff", "01FF", "0g", "\xff\xff"} {
		f.Add(s)
	}
	f.Fuzz(func(t *testing.T, s string) {
		got, err := hexa.Read(s)
		switch {
		case err == api.OK && hexa.Put(got) != s:
			t.Errorf("%q is read as %q, which is %q", s, got, hexa.Put(got))
		case err != api.OK && (err != api.ErrForm || got != ""):
			t.Errorf("Read(%q) = %q, %d; want \"\", ErrForm", s, got, err)
		}
		if back, err := hexa.Read(hexa.Put(s)); back != s || err != api.OK {
			t.Errorf("%q is read back as %q, error %d", s, back, err)
		}
	})
}
