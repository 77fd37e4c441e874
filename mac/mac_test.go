package mac_test

import (
	"fmt"
	"strings"
	"testing"

	"footbridge/mac"
	"footbridge/sha"
)

// mustSum holds Sum against a code that is known, in hexadecimal digits.
func mustSum(t *testing.T, key, s, want string) {
	t.Helper()
	if got := fmt.Sprintf("%x", mac.Sum(key, s)); got != want {
		t.Errorf("Sum of %d bytes (%.20q) under %d bytes (%.20q) = %s; want %s", len(s), s, len(key), key, got, want)
	}
}

// Promise 5.1, Sum: the codes that RFC 4231 publishes (the first half alone of the fifth), and two more that are widely known.
func TestPublishedCodes(t *testing.T) {
	mustSum(t, strings.Repeat("\x0b", 20), "Hi There",
		"b0344c61d8db38535ca8afceaf0bf12b881dc200c9833da726e9376c2e32cff7")
	mustSum(t, "Jefe", "what do ya want for nothing?",
		"5bdcc146bf60754e6a042426089575c75a003f089d2739839dec58b964ec3843")
	mustSum(t, strings.Repeat("\xaa", 20), strings.Repeat("\xdd", 50),
		"773ea91e36800e46854db8ebd09181a72959098b3ef8c122d9635514ced565fe")
	mustSum(t, "\x01\x02\x03\x04\x05\x06\x07\x08\x09\x0a\x0b\x0c\x0d\x0e\x0f\x10\x11\x12\x13\x14\x15\x16\x17\x18\x19",
		strings.Repeat("\xcd", 50),
		"82558a389a443c0ea4cc819899f2083a85f0faa3e578f8077a2e3ff46729665b")
	mustSum(t, strings.Repeat("\x0c", 20), "Test With Truncation",
		"a3b6167473100ee06e0c796c2955552bfa6f7c0a6a8aef8b93f860aab0cd20c5")
	mustSum(t, strings.Repeat("\xaa", 131), "Test Using Larger Than Block-Size Key - Hash Key First",
		"60e431591ee0b67f0d8a26aacbf5b77f8e0bc6213728c5140546040f0ee37f54")
	mustSum(t, strings.Repeat("\xaa", 131), "This is a test using a larger than block-size key and a larger than block-size data. The key needs to be hashed before being used by the HMAC algorithm.",
		"9b09ffa71b942fcb27635fbcd5b0e944bfdc63644f0713938a7f51535c3a35e2")
	mustSum(t, "", "", "b613679a0814d9ec772f95d778c35fc5ff1697c493715653c6c712144292c5ad")
	mustSum(t, "key", "The quick brown fox jumps over the lazy dog",
		"f7bc83f430538424b13298e6aa6fb143ef4d59a14946175997479dbc2d1a3cd8")
}

// Promise 5.1, Sum: keys around 64 bytes, where the hash takes a key's place; the codes were worked out by another program.
func TestLengthsOfTheKey(t *testing.T) {
	for _, c := range []struct {
		size int
		want string
	}{
		{0, "eb08c1f56d5ddee07f7bdf80468083da06b64cf4fac64fe3a90883df5feacae4"},
		{1, "9831a5afefa770d5fe6c985f6c343796ca3d27651d69e24864f1f9948debfacf"},
		{31, "e8911676912c11e071e1aae9bfc832ce6f6400f41a006cdfc392b5332e521549"},
		{32, "63a375b8a62b7025b0b00fb07b716b44a608692b5ff609e31bdc7e2219548646"},
		{33, "302568ccaf4e9263603fcbebf2da60761c85257858e98c934f9393afed125c0f"},
		{63, "e27efa30bcbfbc25b4d936ffd8553392f398eb2edada1dac2423a961af0c305b"},
		{64, "890f3a16e0ca0aaa3bf180f70fa8e3970b3fd6505e98fde157988dcc19d1685c"},
		{65, "0c256505306af48015530c139bb7add5ad7a6a9291cd511278a067e765816fbd"},
		{66, "3a087e608766da814edc23be37511f6fa4c89941002bc32666c1b3c7c21deb50"},
		{127, "6aceb848646fba1a13df8b0beb2bf30dd7d4f69690d62e516e3545dbb0c4b057"},
		{128, "a1c1f063bb735c543c0ae6f7337601029f26e4622c4bc0da64151605b384301e"},
		{129, "c86a40471f8eefc36a72313a3945543cf3b9e084052e6029ceb69204938f5000"},
		{1000, "3062ccc83cf92ca7f8b7751d9d61b21ee123e59060a88970bdd54f55b1b7ce4a"},
	} {
		mustSum(t, strings.Repeat("k", c.size), "message", c.want)
	}
}

// Promise 5.1, Sum: messages at the edges of a block; the codes were worked out by another program.
func TestLengthsOfTheMessage(t *testing.T) {
	for _, c := range []struct {
		size int
		want string
	}{
		{0, "5d5d139563c95b5967b9bd9a8c9b233a9dedb45072794cd232dc1b74832607d0"},
		{1, "2d5079b09a4a16f0058652b0abf52e7ace14a95d13dfa81f668669f3e63dba73"},
		{55, "3f6140d30562d746fbce50e81c1b20f73e9c01a1751c1507936ebb230890bced"},
		{56, "882efcbcd2be7c6eae3619d9fde13a9297a5e89aa4d29089030544a4bf3b9d36"},
		{63, "121e27c874bf99dd73174d4e9f7f3be341549886f3cab4388f9dda8ec90d3817"},
		{64, "19534168067618c002f47071ef460cfd2cf36f8a2a045ce989eae5d64ea52f25"},
		{65, "a85f1ace71ca031b6e146ca6a60b4fa0e27eba57953b131b952d2c4fa56d3b9b"},
		{119, "824eb9666ade8704699390e859c97e4f0e87f9d4b7ad2b9a780e982c191a2df4"},
		{120, "1f86c079e4e053850b7ef1a11d95db58c045ebf4d0ff6ecf4166c92479ea9a2c"},
		{1000, "0fb69dcbde930afe7072734f2b546a5e6aaa15172ca425cda06601d7a682e748"},
	} {
		mustSum(t, "key", strings.Repeat("s", c.size), c.want)
	}
	mustSum(t, strings.Repeat("a", 1000000), strings.Repeat("b", 1000000),
		"d6982aa9b12de0bc34f79e4dd2289e1aebd60966f521df9ab79d34f4bbfdedbd")
}

// Promise 5.1, Sum: keys and messages are bytes, whatever text they make, those among them that a mask turns to 0.
func TestBytesNotText(t *testing.T) {
	mustSum(t, "gr\u00fc\u00dfe", "\xe4\xff\xfe", "c94753b1d8cc6c1cf95980f8a897afbc8cbf2aa28e3bbc62e6375db35e3005f0")
	mustSum(t, strings.Repeat("\xff", 64), strings.Repeat("\x00", 64),
		"6ca371c3b43acdb068631085fd84fb08ce7b97c71435801f0a7d97557664957e")
	mustSum(t, strings.Repeat("\x36", 64), "", "65e7a21fb5dd0ff8688bf13cd76a25c890c16160a8cdf308d327297a08685c0f")
	mustSum(t, strings.Repeat("\x5c", 64), "", "f991cd7d0fc0ee55876f37d4333852553cba7aa18072f9cf648be61fe1a254bd")
}

// message makes bytes that differ from length to length, and from place to place.
func message(size int) string {
	m := make([]byte, size)
	for i := range m {
		m[i] = byte(7*size + i*i + i/3)
	}
	return string(m)
}

// Promise 5.1, Sum: all lengths of keys up to 199, and codes under codes; the two results were worked out by another program.
func TestManyCodes(t *testing.T) {
	var all strings.Builder
	for size := range 200 {
		for _, n := range []int{0, 1, 2, 54, 55, 56, 57, 63, 64, 65, 100, 200} {
			all.WriteString(mac.Sum(message(size), message(n)))
		}
	}
	if got := fmt.Sprintf("%x", sha.Sum(all.String())); got != "2df0f2449e14b15fde131eef2f7b604abf18841e13005ec7b5de5e89847e7006" {
		t.Errorf("the hash of all codes is %s", got)
	}
	s := ""
	for range 1000 {
		s = mac.Sum(s, "again"+s)
	}
	if got := fmt.Sprintf("%x", s); got != "d25baf7bb6fb1b358d8f44fc6ae5ba402f27e45964798c96b470548c2e2f50bc" {
		t.Errorf("a thousand codes under codes end with %s", got)
	}
}

// Promise 5.1, Sum: a key of more than 64 bytes is replaced by its hash, and none that is shorter.
func TestLongKeyIsItsHash(t *testing.T) {
	for size := range 300 {
		key := message(size)
		if same := mac.Sum(key, "s") == mac.Sum(sha.Sum(key), "s"); same != (size > 64) {
			t.Errorf("a key of %d bytes is replaced by its hash: %v", size, same)
		}
	}
}

// Promise 5.1, Sum: zero bytes behind a key change nothing up to 64 bytes, and something beyond; those ahead of it count.
func TestKeyIsPaddedWithZeros(t *testing.T) {
	for size := range 65 {
		key := strings.Repeat("k", size)
		want := mac.Sum(key, "s")
		for n := size; n <= 64; n++ {
			if mac.Sum(key+strings.Repeat("\x00", n-size), "s") != want {
				t.Errorf("a key of %d bytes is not the one that is filled up to %d", size, n)
			}
		}
		if mac.Sum(key+strings.Repeat("\x00", 65-size), "s") == want {
			t.Errorf("a key of %d bytes is the one that is filled up to 65", size)
		}
		if size > 0 && mac.Sum("\x00"+key, "s") == want {
			t.Errorf("a zero byte ahead of a key of %d bytes does not count", size)
		}
	}
}

// Promise 5.1, Sum: each bit of the key and of the message counts, and so does the place where one ends and the other begins.
func TestEachBitCounts(t *testing.T) {
	for _, size := range []int{1, 32, 64, 65, 100} {
		key, s := message(size), message(70)
		seen := map[string]bool{mac.Sum(key, s): true}
		for i := range 8 * size {
			other := []byte(key)
			other[i/8] ^= 1 << (i % 8)
			seen[mac.Sum(string(other), s)] = true
		}
		for i := range 8 * 70 {
			other := []byte(s)
			other[i/8] ^= 1 << (i % 8)
			seen[mac.Sum(key, string(other))] = true
		}
		seen[mac.Sum(key+s[:1], s[1:])] = true
		seen[mac.Sum(s, key)] = true
		if want := 1 + 8*size + 8*70 + 2; len(seen) != want {
			t.Errorf("key of %d bytes: %d codes; want %d", size, len(seen), want)
		}
	}
}

// Promise 5.1, Same: strings are equal if they have the same bytes, all of them.
func TestSame(t *testing.T) {
	all := []string{"", "\x00", "\x00\x00", "a", "A", "b", "aa", "ab", "ba", "a\x00", "\x00a", "a ", "\u00e4", "a\u0308", "\xe4", "\xff", "\xfe\xff"}
	for i, a := range all {
		for j, b := range all {
			if got := mac.Same(a, strings.Clone(b)); got != (i == j) {
				t.Errorf("Same(%q, %q) = %v", a, b, got)
			}
		}
	}
}

// Promise 5.1, Same: one bit makes a difference wherever it stands, and so does one byte more or less.
func TestSameUpToOneBit(t *testing.T) {
	for _, size := range []int{1, 31, 32, 33, 64, 257} {
		a := message(size)
		if !mac.Same(a, strings.Clone(a)) {
			t.Errorf("%d bytes are not the same as their copy", size)
		}
		for i := range 8 * size {
			other := []byte(a)
			other[i/8] ^= 1 << (i % 8)
			if mac.Same(a, string(other)) || mac.Same(string(other), a) {
				t.Errorf("%d bytes are the same with bit %d turned", size, i)
			}
		}
		for _, b := range []string{a[:size-1], a[1:], a + "\x00", "\x00" + a, a + a} {
			if mac.Same(a, b) || mac.Same(b, a) {
				t.Errorf("%d bytes are the same as %d", size, len(b))
			}
		}
	}
}

// Promise 5.1: a code is the same as that of the same key and message, and as no other.
func TestSameOfCodes(t *testing.T) {
	code := mac.Sum("key", "s")
	if !mac.Same(code, mac.Sum("key", "s")) {
		t.Errorf("a code is not the same when it is made again")
	}
	for _, c := range []struct{ key, s string }{{"kez", "s"}, {"key", "t"}, {"", "keys"}, {"keys", ""}, {"s", "key"}, {"key", "s\x00"}} {
		if mac.Same(code, mac.Sum(c.key, c.s)) {
			t.Errorf("the code of %q under %q is that of \"s\" under \"key\"", c.s, c.key)
		}
	}
}

// Rules R4 and R5: a call hangs on its arguments alone, not on the calls ahead of it.
func TestCallsAreAlone(t *testing.T) {
	for _, size := range []int{0, 3, 64, 65} {
		key := message(size)
		once := mac.Sum(key, "s")
		mac.Sum("another", "something else")
		mac.Sum(message(200), "")
		if mac.Sum(key, "s") != once || key != message(size) {
			t.Errorf("under a key of %d bytes, Sum answers otherwise the second time", size)
		}
	}
}

// plain is promise 5.1 step by step.
func plain(key, s string) string {
	if len(key) > 64 {
		key = sha.Sum(key)
	}
	for len(key) < 64 {
		key += "\x00"
	}
	var outer, inner []byte
	for _, b := range []byte(key) {
		outer = append(outer, b^92)
		inner = append(inner, b^54)
	}
	return sha.Sum(string(outer) + sha.Sum(string(inner)+s))
}

// Promise 5.1 and rule R1: whatever the key and the message are, the calls end and answer what the promise's words give.
func FuzzAgainstTheWords(f *testing.F) {
	f.Add("", "")
	f.Add("key", "The quick brown fox jumps over the lazy dog")
	f.Add(message(64), message(64))
	f.Add(message(65), "\xff\x00")
	f.Fuzz(func(t *testing.T, key, s string) {
		if got, want := mac.Sum(key, s), plain(key, s); len(got) != 32 || got != want {
			t.Errorf("Sum(%q, %q) = %x; want %x", key, s, got, want)
		}
		if got := mac.Same(key, s); got != (strings.Compare(key, s) == 0) {
			t.Errorf("Same(%q, %q) = %v", key, s, got)
		}
		if !mac.Same(key, strings.Clone(key)) {
			t.Errorf("%q is not the same as its copy", key)
		}
	})
}
