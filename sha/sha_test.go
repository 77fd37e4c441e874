package sha_test

import (
	"fmt"
	"math"
	"math/big"
	"strings"
	"testing"

	"footbridge/sha"
)

// mustSum holds Sum against a hash that is known, in hexadecimal digits.
func mustSum(t *testing.T, s, want string) {
	t.Helper()
	if got := fmt.Sprintf("%x", sha.Sum(s)); got != want {
		t.Errorf("Sum of %d bytes (%.20q) = %s; want %s", len(s), s, got, want)
	}
}

// Promise 4.1, Sum: messages whose hashes are published, of the standard and of its tests, one of a million bytes among them.
func TestPublishedHashes(t *testing.T) {
	mustSum(t, "", "e3b0c44298fc1c149afbf4c8996fb92427ae41e4649b934ca495991b7852b855")
	mustSum(t, "abc", "ba7816bf8f01cfea414140de5dae2223b00361a396177a9cb410ff61f20015ad")
	mustSum(t, "abcdbcdecdefdefgefghfghighijhijkijkljklmklmnlmnomnopnopq",
		"248d6a61d20638b8e5c026930c3e6039a33ce45964ff2167f6ecedd419db06c1")
	mustSum(t, "abcdefghbcdefghicdefghijdefghijkefghijklfghijklmghijklmnhijklmnoijklmnopjklmnopqklmnopqrlmnopqrsmnopqrstnopqrstu",
		"cf5b16a778af8380036ce59e7b0492370b249b11e8f07a51afac45037afee9d1")
	mustSum(t, "\xbd", "68325720aabd7c82f30f554b313d0570c95accbb7dc4b5aae11204c08ffe732b")
	mustSum(t, "\xc9\x8c\x8e\x55", "7abc22c0ae5af26ce93dbb94433a0e0b2e119d014f8e7f65bd56c61ccccd9504")
	mustSum(t, strings.Repeat("A", 1000), "c2e686823489ced2017f6059b8b239318b6364f6dcd835d0a519105a1eadd6e4")
	mustSum(t, strings.Repeat("U", 1005), "f4d62ddec0f3dd90ea1380fa16a5ff8dc4c54b21740650f24afc4120903552b0")
	mustSum(t, strings.Repeat("a", 1000000), "cdc76e5c9914fb9281a1c7e284d73e67f1809a48a497200e046d39ccc7112cd0")
	mustSum(t, strings.Repeat("\x00", 1000000), "d29751f2649b32ff572b5e0a9f541ea660a50f94ff0beedfb0b692b924cc8025")
}

// Promise 4.1, Sum: the lengths at which the padding needs a block more, in zero bytes, which a padding of wrong length would not show otherwise.
func TestHashesAtTheEdgesOfABlock(t *testing.T) {
	for _, c := range []struct {
		size int
		want string
	}{
		{1, "6e340b9cffb37a989ca544e6bb780a2c78901d3fb33738768511a30617afa01d"},
		{55, "02779466cdec163811d078815c633f21901413081449002f24aa3e80f0b88ef7"},
		{56, "d4817aa5497628e7c77e6b606107042bbba3130888c5f47a375e6179be789fbb"},
		{57, "65a16cb7861335d5ace3c60718b5052e44660726da4cd13bb745381b235a1785"},
		{63, "c7723fa1e0127975e49e62e753db53924c1bd84b8ac1ac08df78d09270f3d971"},
		{64, "f5a5fd42d16a20302798ef6ed309979b43003d2320d9f0e8ea9831a92759fb4b"},
		{65, "98ce42deef51d40269d542f5314bef2c7468d401ad5d85168bfab4c0108f75f7"},
		{1000, "541b3e9daa09b20bf85fa273e5cbd3e80185aa4ec298e765db87742b70138a53"},
	} {
		mustSum(t, strings.Repeat("\x00", c.size), c.want)
	}
}

// Promise 4.1, Sum: a string is bytes, whatever text they make.
func TestBytesNotText(t *testing.T) {
	mustSum(t, "gr\u00fc\u00dfe", "8285d1ad84c6b6e475d3b50dbf90389c8c7a07a278d9ae46d5698cbe872e3834")
	mustSum(t, "\xe4\xff\xfe", "aabebe15f458fb93997189e2618aca19b47137d2146eaa6dd55ec6b0adb0aaca")
	mustSum(t, "a\x00", "ffe9aaeaa2a2d5048174df0b80599ef0197ec024c4b051bc9860cff58ef7f9f3")
	mustSum(t, strings.Repeat("\xff", 64), "8667e718294e9e0df1d30600ba3eeb201f764aad2dad72748643e4a285e1d1f7")
	mustSum(t, strings.Repeat("\x00\xff\x80\x7f", 16), "ac0623c1672d1cd57dcc140c9c07a0c90c91efde7644d8ef51d5eab063d45022")
}

// message makes bytes that differ from length to length, and from place to place.
func message(size int) string {
	m := make([]byte, size)
	for i := range m {
		m[i] = byte(7*size + i*i + i/3)
	}
	return string(m)
}

// Promise 4.1, Sum: all lengths up to 999, and hashes of hashes; the two results were worked out by another program.
func TestManyHashes(t *testing.T) {
	var all strings.Builder
	for size := range 1000 {
		all.WriteString(sha.Sum(message(size)))
	}
	mustSum(t, all.String(), "fef097cd6dd8c49c0c77751253de318394272b34ca907b623319f18112ae4577")
	s := ""
	for range 1000 {
		s = sha.Sum(s)
	}
	if got := fmt.Sprintf("%x", s); got != "ccacebeaa615bc6656e00e68c86e9a2664a98f6742fa3eb280dda3200432026b" {
		t.Errorf("a thousand hashes of hashes end with %s", got)
	}
}

// padding is what the chapter says of it, step by step.
func padding(n int) string {
	p := []byte{128}
	for (n%64+len(p))%64 != 56 {
		p = append(p, 0)
	}
	size := new(big.Int).Mul(big.NewInt(int64(n)), big.NewInt(8))
	return string(p) + string(size.FillBytes(make([]byte, 8)))
}

// Promise 4.1, Pad: the paddings of small messages, written out.
func TestPadWrittenOut(t *testing.T) {
	zeros := func(n int) string { return strings.Repeat("\x00", n) }
	for _, c := range []struct {
		n    int
		want string
	}{
		{0, "\x80" + zeros(55) + "\x00\x00\x00\x00\x00\x00\x00\x00"},
		{1, "\x80" + zeros(54) + "\x00\x00\x00\x00\x00\x00\x00\x08"},
		{3, "\x80" + zeros(52) + "\x00\x00\x00\x00\x00\x00\x00\x18"},
		{54, "\x80" + zeros(1) + "\x00\x00\x00\x00\x00\x00\x01\xb0"},
		{55, "\x80" + "\x00\x00\x00\x00\x00\x00\x01\xb8"},
		{56, "\x80" + zeros(63) + "\x00\x00\x00\x00\x00\x00\x01\xc0"},
		{63, "\x80" + zeros(56) + "\x00\x00\x00\x00\x00\x00\x01\xf8"},
		{64, "\x80" + zeros(55) + "\x00\x00\x00\x00\x00\x00\x02\x00"},
		{119, "\x80" + "\x00\x00\x00\x00\x00\x00\x03\xb8"},
		{1000000, "\x80" + zeros(55) + "\x00\x00\x00\x00\x00\x7a\x12\x00"},
		{0x1020304050607, "\x80" + zeros(48) + "\x00\x08\x10\x18\x20\x28\x30\x38"},
	} {
		if got := sha.Pad(c.n); got != c.want {
			t.Errorf("Pad(%d) = %q; want %q", c.n, got, c.want)
		}
	}
}

// Promise 4.1, Pad: it fills a message of any length up to whole blocks, up to the greatest whose bits eight bytes can tell.
func TestPadOfAnyLength(t *testing.T) {
	var sizes []int
	for n := range 2000 {
		sizes = append(sizes, n)
	}
	for shift := 11; shift < 61; shift++ {
		for d := -65; d <= 65; d++ {
			sizes = append(sizes, 1<<shift+d)
		}
	}
	sizes = append(sizes, 1<<61-1)
	for _, n := range sizes {
		got := sha.Pad(n)
		if want := padding(n); got != want {
			t.Fatalf("Pad(%d) = %q; want %q", n, got, want)
		}
		if (n%64+len(got))%64 != 0 || len(got) < 9 || len(got) > 72 {
			t.Errorf("Pad(%d) has %d bytes", n, len(got))
		}
	}
}

// Promise 4.1, Pad, and rule R6: a negative length has no padding; the greatest lengths have one, whose last eight bytes keep the lower bits of the number.
func TestPadOfAnyInt(t *testing.T) {
	for _, n := range []int{-1, -2, -8, -9, -55, -56, -63, -64, -65, -1 << 31, -1 << 61, math.MinInt + 1, math.MinInt} {
		if got := sha.Pad(n); got != "" {
			t.Errorf("Pad(%d) = %q; want \"\"", n, got)
		}
	}
	if got, want := sha.Pad(1<<61), "\x80"+strings.Repeat("\x00", 63); got != want {
		t.Errorf("Pad(1<<61) = %q; want %q", got, want)
	}
	if got, want := sha.Pad(math.MaxInt), "\x80"+strings.Repeat("\x00", 56)+"\xff\xff\xff\xff\xff\xff\xff\xf8"; got != want {
		t.Errorf("Pad(MaxInt) = %q; want %q", got, want)
	}
}

// primes returns the first n primes.
func primes(n int) []int64 {
	var found []int64
next:
	for p := int64(2); len(found) < n; p++ {
		for _, q := range found {
			if p%q == 0 {
				continue next
			}
		}
		found = append(found, p)
	}
	return found
}

// fraction returns the first 32 bits of the fractional part of p's root of that degree, by halving.
func fraction(p int64, degree int64) uint32 {
	want := new(big.Int).Lsh(big.NewInt(p), uint(32*degree))
	low, high := big.NewInt(0), new(big.Int).Lsh(big.NewInt(p), 32)
	for low.Cmp(high) < 0 {
		mid := new(big.Int).Add(low, high)
		mid.Add(mid, big.NewInt(1)).Rsh(mid, 1)
		if new(big.Int).Exp(mid, big.NewInt(degree), nil).Cmp(want) <= 0 {
			low = mid
		} else {
			high = mid.Sub(mid, big.NewInt(1))
		}
	}
	return uint32(low.Uint64())
}

// firstRegisters works the starting registers out of the primes, as promise 4.1 says.
func firstRegisters() [8]uint32 {
	var h [8]uint32
	for i, p := range primes(8) {
		h[i] = fraction(p, 2)
	}
	return h
}

func rotated(x uint32, n int) uint32 { return x>>n | x<<(32-n) }

// plainBlock is promise 4.2 word by word, with constants that are worked out of the primes.
func plainBlock(regs [8]uint32, block string, k []uint32) [8]uint32 {
	full := (block + strings.Repeat("\x00", 64))[:64]
	w := make([]uint32, 64)
	for i := range 64 {
		w[i/4] |= uint32(full[i]) << (24 - 8*(i%4))
	}
	for t := 16; t < 64; t++ {
		x, y := w[t-15], w[t-2]
		w[t] = (rotated(y, 17) ^ rotated(y, 19) ^ y>>10) + w[t-7] + (rotated(x, 7) ^ rotated(x, 18) ^ x>>3) + w[t-16]
	}
	v := map[string]uint32{}
	for i := range 8 {
		v["abcdefgh"[i:i+1]] = regs[i]
	}
	for t := range 64 {
		a, b, c, e := v["a"], v["b"], v["c"], v["e"]
		up := v["h"] + (rotated(e, 6) ^ rotated(e, 11) ^ rotated(e, 25)) + (e&v["f"] | ^e&v["g"]) + k[t] + w[t]
		down := (rotated(a, 2) ^ rotated(a, 13) ^ rotated(a, 22)) + (a&b | a&c | b&c)
		v["h"], v["g"], v["f"] = v["g"], v["f"], v["e"]
		v["e"] = v["d"] + up
		v["d"], v["c"], v["b"] = v["c"], v["b"], v["a"]
		v["a"] = up + down
	}
	for i := range 8 {
		regs[i] += v["abcdefgh"[i:i+1]]
	}
	return regs
}

func constants() []uint32 {
	var k []uint32
	for _, p := range primes(64) {
		k = append(k, fraction(p, 3))
	}
	return k
}

// someRegisters are the starting ones, the least, the greatest, and those of one bit.
func someRegisters() [][8]uint32 {
	all := [][8]uint32{firstRegisters(), {}, {1, 2, 3, 4, 5, 6, 7, 8}}
	var full [8]uint32
	for i := range full {
		full[i] = math.MaxUint32
		for _, bit := range []int{0, 1, 15, 31} {
			var one [8]uint32
			one[i] = 1 << bit
			all = append(all, one)
		}
	}
	return append(all, full)
}

// Promise 4.2, Block: it answers what the promise's own words give, for blocks of every length up to 64 and beyond.
func TestBlock(t *testing.T) {
	k := constants()
	for _, h := range someRegisters() {
		for size := range 80 {
			b := message(size)
			if got, want := sha.Block(h, b), plainBlock(h, b, k); got != want {
				t.Fatalf("Block(%x, %q) = %x; want %x", h, b, got, want)
			}
		}
		for _, fill := range []string{"\x00", "\x01", "\x7f", "\x80", "\xff"} {
			b := strings.Repeat(fill, 64)
			if got, want := sha.Block(h, b), plainBlock(h, b, k); got != want {
				t.Fatalf("Block(%x, 64 of %q) = %x; want %x", h, fill, got, want)
			}
		}
	}
}

// Promise 4.2, Block: missing bytes are 0, and bytes behind the 64th are not used.
func TestBlockShortAndLong(t *testing.T) {
	for _, h := range someRegisters() {
		for size := range 64 {
			b := message(size)
			filled := b + strings.Repeat("\x00", 64-size)
			if sha.Block(h, b) != sha.Block(h, filled) {
				t.Errorf("a block of %d bytes is not the one that is filled with zeros", size)
			}
		}
		b := message(64)
		for _, more := range []string{"\x00", "x", "\xff\xff\xff\xff", message(64), message(1000)} {
			if sha.Block(h, b+more) != sha.Block(h, b) {
				t.Errorf("%d bytes behind a block are used", len(more))
			}
		}
	}
}

// Promise 4.2, Block: each bit of a block and of the registers counts.
func TestEachBitCounts(t *testing.T) {
	h, b := firstRegisters(), message(64)
	seen := map[[8]uint32]bool{sha.Block(h, b): true}
	for i := range 512 {
		other := []byte(b)
		other[i/8] ^= 1 << (i % 8)
		seen[sha.Block(h, string(other))] = true
	}
	for i := range 256 {
		other := h
		other[i/32] ^= 1 << (i % 32)
		seen[sha.Block(other, b)] = true
	}
	if len(seen) != 1+512+256 {
		t.Errorf("%d results; want %d", len(seen), 1+512+256)
	}
}

// Rules R4 and R5: a call neither changes its arguments nor hangs on the calls ahead of it.
func TestCallsAreAlone(t *testing.T) {
	h, b := firstRegisters(), message(64)
	once := sha.Block(h, b)
	sha.Sum("something else")
	sha.Pad(17)
	if h != firstRegisters() || b != message(64) {
		t.Errorf("Block changed its arguments")
	}
	if sha.Block(h, b) != once {
		t.Errorf("Block answers otherwise the second time")
	}
	if sha.Sum("abc") != sha.Sum("abc") {
		t.Errorf("Sum answers otherwise the second time")
	}
}

// folded hashes a message by Block and Pad alone, with registers that are worked out of the primes.
func folded(s string) string {
	h := firstRegisters()
	for p := s + sha.Pad(len(s)); p != ""; p = p[64:] {
		h = sha.Block(h, p)
	}
	var out strings.Builder
	for _, x := range h {
		out.WriteString(string([]byte{byte(x >> 24), byte(x >> 16), byte(x >> 8), byte(x)}))
	}
	return out.String()
}

// Promise 4.1: Sum is Block over the blocks of the padded message, from the registers of the square roots.
func TestSumIsBlocksOfThePadded(t *testing.T) {
	for size := range 300 {
		if s := message(size); sha.Sum(s) != folded(s) {
			t.Errorf("Sum of %d bytes is not that of its blocks", size)
		}
	}
}

// Promises 4.1 and 4.2, and rule R1: whatever the bytes and registers are, the calls end and answer what the promises' words give.
func FuzzAgainstTheWords(f *testing.F) {
	f.Add("", uint32(0), uint32(0))
	f.Add("abc", uint32(1), uint32(math.MaxUint32))
	f.Add(message(56), uint32(0x6a09e667), uint32(1<<31))
	k := constants()
	f.Fuzz(func(t *testing.T, s string, x, y uint32) {
		if got := sha.Sum(s); len(got) != 32 || got != folded(s) {
			t.Errorf("Sum(%q) = %x; want %x", s, got, folded(s))
		}
		if got := sha.Pad(len(s)); got != padding(len(s)) {
			t.Errorf("Pad(%d) = %q; want %q", len(s), got, padding(len(s)))
		}
		h := [8]uint32{x, y, x ^ y, x + y, x - y, ^x, ^y, x * y}
		if got, want := sha.Block(h, s), plainBlock(h, s, k); got != want {
			t.Errorf("Block(%x, %q) = %x; want %x", h, s, got, want)
		}
	})
}
