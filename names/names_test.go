package names_test

import (
	"fmt"
	"math"
	"strconv"
	"strings"
	"testing"

	"footbridge/api"
	"footbridge/names"
)

// plain are the kinds whose names consist of letters; begins tells how the names of the numbered kinds begin.
var plain = []int{api.NamePort, api.NameBase, api.NameToken, api.NameAccount}

var begins = map[int]string{
	api.NameChannel: "channel-",
	api.NameConn:    "connection-",
	api.NameClient:  "client-",
}

// noKinds are numbers that are no kind of name.
var noKinds = []int{math.MinInt, -7, -1, 7, 8, 255, 256, 257, 1 << 32, 1<<32 + 1, math.MaxInt}

const letters = "abcdefghijklmnopqrstuvwxyzABCDEFGHIJKLMNOPQRSTUVWXYZ0123456789._-"

func mustCheck(t *testing.T, kind int, s string, want api.Errno) {
	t.Helper()
	if got := names.Check(kind, s); got != want {
		t.Errorf("Check(%d, %.80q) = %d; want %d", kind, s, got, want)
	}
}

// mustBeNumber asks Number and Check, which promise 3.1 ties to one another.
func mustBeNumber(t *testing.T, kind int, s string, want int) {
	t.Helper()
	if got, err := names.Number(kind, s); got != want || err != api.OK {
		t.Errorf("Number(%d, %q) = %d, %d; want %d, OK", kind, s, got, err, want)
	}
	mustCheck(t, kind, s, api.OK)
}

// mustBeNoNumber also looks for a number beside the error: rule R2 lets none out.
func mustBeNoNumber(t *testing.T, kind int, s string) {
	t.Helper()
	if got, err := names.Number(kind, s); got != 0 || err != api.ErrName {
		t.Errorf("Number(%d, %.80q) = %d, %d; want 0, ErrName", kind, s, got, err)
	}
	mustCheck(t, kind, s, api.ErrName)
}

// Promise 3.1, Check: a number that is no kind is told ahead of what is wrong with the name.
func TestCheckNoKind(t *testing.T) {
	for _, kind := range noKinds {
		for _, s := range []string{"", "a", "a/b", "channel-7", "connection-7", "client-7", strings.Repeat("a", 65)} {
			mustCheck(t, kind, s, api.ErrArg)
		}
	}
}

// Promise 3.1, Check: names of letters, ordinary ones and such as look like other things.
func TestCheckLetters(t *testing.T) {
	for _, kind := range plain {
		for _, s := range []string{"a", "al.ice", "bo", "nft", "Z", "0", "007", ".", "_", "-", "..", "-1", "cat_9-B.x", "channel-7", "channel-07", "client-x"} {
			mustCheck(t, kind, s, api.OK)
		}
		for _, s := range []string{"a/b", "a b", " a", "a ", "a\n", "\n", "a\x00", "\x00", "caf\u00e9", "\u0430", "\xff", "a,b", "a+b", "a:b", "escrow/nft/channel-0", "nft/channel-0/cat"} {
			mustCheck(t, kind, s, api.ErrName)
		}
	}
}

// Promise 3.1: each byte is a letter or is none, alone and among letters.
func TestEachByte(t *testing.T) {
	found := 0
	for i := range 256 {
		b := string([]byte{byte(i)})
		want := api.ErrName
		if strings.Contains(letters, b) {
			want = api.OK
			found++
		}
		for _, kind := range plain {
			mustCheck(t, kind, b, want)
			mustCheck(t, kind, b+"ab", want)
			mustCheck(t, kind, "a"+b+"b", want)
			mustCheck(t, kind, "ab"+b, want)
		}
	}
	if found != 65 {
		t.Errorf("%d bytes are letters; want 65", found)
	}
}

// Promise 3.1: from 1 to MaxName letters, neither fewer nor more.
func TestCheckLength(t *testing.T) {
	for _, kind := range plain {
		mustCheck(t, kind, "", api.ErrName)
		for size := 1; size <= api.MaxName; size++ {
			mustCheck(t, kind, strings.Repeat("x", size), api.OK)
		}
		mustCheck(t, kind, letters[:64], api.OK)
		mustCheck(t, kind, letters, api.ErrName)
		for _, size := range []int{65, 66, 128, 255, 256, 257, 320, 1 << 16, 1<<16 + 1, 1 << 20} {
			mustCheck(t, kind, strings.Repeat("x", size), api.ErrName)
		}
	}
}

// Promise 3.1: one byte that is no letter spoils a name, wherever it stands.
func TestCheckWrongByteAnywhere(t *testing.T) {
	good := strings.Repeat("aZ9._-b", 10)[:api.MaxName]
	for at := range len(good) {
		for _, b := range []byte{0, ' ', '/', ',', ':', '@', '[', '^', '`', '{', 0x7f, 0x80, 0xe1, 0xff} {
			for _, kind := range plain {
				mustCheck(t, kind, good[:at]+string([]byte{b})+good[at+1:], api.ErrName)
			}
		}
	}
}

// someNumbers are small numbers, powers of ten and of two with their neighbours, and the greatest ones.
func someNumbers() []int {
	var out []int
	for n := range 1200 {
		out = append(out, n)
	}
	for n := 10; n < api.MaxCount; n *= 10 {
		out = append(out, n-1, n, n+1)
	}
	for n := 2; n < api.MaxCount; n *= 2 {
		out = append(out, n-1, n, n+1)
	}
	return append(out, api.MaxCount-1, api.MaxCount)
}

// Promises 3.1 and 3.2: the name of a number, which is read back, and which is the name of no other numbered kind.
func TestMake(t *testing.T) {
	for kind, start := range begins {
		for _, n := range someNumbers() {
			want := start + fmt.Sprintf("%d", n)
			if got, err := names.Make(kind, n); got != want || err != api.OK {
				t.Errorf("Make(%d, %d) = %q, %d; want %q, OK", kind, n, got, err, want)
			}
			mustBeNumber(t, kind, want, n)
			for other := range begins {
				if other != kind {
					mustBeNoNumber(t, other, want)
				}
			}
		}
	}
}

// Promise 3.2: the names as the document writes them.
func TestExamples(t *testing.T) {
	for _, c := range []struct {
		kind, n int
		want    string
	}{
		{api.NameChannel, 7, "channel-7"},
		{api.NameChannel, 0, "channel-0"},
		{api.NameConn, 10, "connection-10"},
		{api.NameClient, 1099511627776, "client-1099511627776"},
	} {
		if got, err := names.Make(c.kind, c.n); got != c.want || err != api.OK {
			t.Errorf("Make(%d, %d) = %q, %d; want %q, OK", c.kind, c.n, got, err, c.want)
		}
		mustBeNumber(t, c.kind, c.want, c.n)
	}
	mustBeNoNumber(t, api.NameChannel, "channel-07")
}

// Promise 3.2, Make: numbers below 0 and beyond MaxCount have no name.
func TestMakeRange(t *testing.T) {
	for kind := range begins {
		for _, n := range []int{math.MinInt, math.MinInt32, -api.MaxCount, -7, -1, api.MaxCount + 1, api.MaxNum, math.MaxInt} {
			if got, err := names.Make(kind, n); got != "" || err != api.ErrRange {
				t.Errorf("Make(%d, %d) = %q, %d; want \"\", ErrRange", kind, n, got, err)
			}
		}
	}
}

// Promise 3.2 and rule R2: a kind without numbers is told ahead of a number or a name that is wrong as well.
func TestKindsWithoutNumbers(t *testing.T) {
	for _, kind := range append(append([]int{}, plain...), noKinds...) {
		for _, n := range []int{0, 7, -1, api.MaxCount, api.MaxCount + 1, math.MinInt, math.MaxInt} {
			if got, err := names.Make(kind, n); got != "" || err != api.ErrArg {
				t.Errorf("Make(%d, %d) = %q, %d; want \"\", ErrArg", kind, n, got, err)
			}
		}
		for _, s := range []string{"", "7", "-7", "port-7", "channel-7", "connection-7", "client-7", "channel-07", "a/b"} {
			if got, err := names.Number(kind, s); got != 0 || err != api.ErrArg {
				t.Errorf("Number(%d, %q) = %d, %d; want 0, ErrArg", kind, s, got, err)
			}
		}
	}
}

// Promise 3.2, Number: what is no number as Make writes it, behind the right beginning.
func TestWrongNumbers(t *testing.T) {
	for kind, start := range begins {
		for _, digits := range []string{
			"", "00", "000", "01", "07", "007", "0000000000000000000000000000000",
			"-0", "-1", "-7", "--7", "+0", "+7", "-", "+",
			"7 ", " 7", "7\n", "\n7", "7\x00", "\x007", "1_000", "_1", "1_", "1,000", "1.0", "1e3", "7.",
			"0x7", "0b1", "0o7", "0X7", "a", "7a", "a7", "ff", "\u0667", "7\u0667", "\xff", "7-7", "7/",
			"1099511627777", "1099511627780", "1099511627786", "2000000000000", "9999999999999", "10995116277760",
			"9223372036854775807", "9223372036854775808", "18446744073709551615", "18446744073709551616", "18446744073709551623",
			"-9223372036854775808", "-9223372036854775809",
			"340282366920938463463374607431768211463", strings.Repeat("9", 1<<16), strings.Repeat("0", 1<<16) + "7",
		} {
			mustBeNoNumber(t, kind, start+digits)
		}
	}
}

// Promise 3.2, Number: what does not begin as Make's names of that kind do.
func TestWrongBeginnings(t *testing.T) {
	for kind, start := range begins {
		for cut := range len(start) {
			mustBeNoNumber(t, kind, start[:cut])
			mustBeNoNumber(t, kind, start[:cut]+"7")
			mustBeNoNumber(t, kind, start[:cut]+start[cut+1:]+"7")
			mustBeNoNumber(t, kind, start[:cut]+"x"+start[cut+1:]+"7")
		}
		for _, s := range []string{
			"7", "port-7", "conn-7", "chan-7", "chain-7", strings.ToUpper(start) + "7", strings.ToUpper(start[:1]) + start[1:] + "7",
			" " + start + "7", "\x00" + start + "7", start + start + "7", strings.TrimSuffix(start, "-") + "_7", strings.TrimSuffix(start, "-") + "\u20117",
		} {
			mustBeNoNumber(t, kind, s)
		}
	}
}

// Promises 3.1 and 3.2: a byte other than the right one, or one too many, at any place of a name.
func TestWrongByteInNumbered(t *testing.T) {
	for kind, start := range begins {
		good := start + "123"
		for at := range len(good) + 1 {
			for i := range 256 {
				b := string([]byte{byte(i)})
				digit := i >= '0' && i <= '9'
				leading := at == len(start) && i == '0'
				if at < len(good) && b != good[at:at+1] && (!digit || at < len(start) || leading) {
					mustBeNoNumber(t, kind, good[:at]+b+good[at+1:])
				}
				if !digit || at < len(start) || leading {
					mustBeNoNumber(t, kind, good[:at]+b+good[at:])
				}
			}
		}
	}
}

// Promises 3.1 and 3.2, and rule R1: whatever is asked, it is answered, and the three functions agree with one another.
func FuzzAgreement(f *testing.F) {
	for kind := -1; kind <= 7; kind++ {
		for _, s := range []string{"", "a", "al.ice", "a/b", "channel-7", "channel-07", "connection-0", "client-1099511627776", "client-1099511627777"} {
			f.Add(kind, s, 7)
		}
	}
	f.Fuzz(func(t *testing.T, kind int, s string, n int) {
		start, numbered := begins[kind]
		number, err := names.Number(kind, s)
		switch {
		case !numbered && (number != 0 || err != api.ErrArg):
			t.Errorf("Number(%d, %q) = %d, %d; want 0, ErrArg", kind, s, number, err)
		case numbered && err == api.OK && start+strconv.Itoa(number) != s:
			t.Errorf("Number(%d, %q) = %d", kind, s, number)
		case numbered && err != api.OK && (number != 0 || err != api.ErrName):
			t.Errorf("Number(%d, %q) = %d, %d; want 0, ErrName", kind, s, number, err)
		}
		if numbered {
			mustCheck(t, kind, s, err)
		}
		made, err := names.Make(kind, n)
		if err == api.OK {
			mustBeNumber(t, kind, made, n)
		} else if made != "" {
			t.Errorf("Make(%d, %d) = %q, %d", kind, n, made, err)
		}
		for _, kind := range plain {
			good := len(s) >= 1 && len(s) <= api.MaxName
			for i := range len(s) {
				good = good && strings.IndexByte(letters, s[i]) >= 0
			}
			if got := names.Check(kind, s); (got == api.OK) != good {
				t.Errorf("Check(%d, %q) = %d", kind, s, got)
			}
		}
	})
}
