package sign_test

import (
	"bytes"
	"crypto/hmac"
	"crypto/sha256"
	"encoding/hex"
	"math"
	"math/rand/v2"
	"slices"
	"strings"
	"testing"

	"interlace/api"
	"interlace/sign"
	"interlace/wire"
)

// sample returns a digest that looks random and is the same at each call.
func sample(n int) api.Digest {
	r := rand.New(rand.NewPCG(5, uint64(n)))
	var d api.Digest
	for i := range d {
		d[i] = byte(r.Uint32())
	}
	return d
}

// samples returns digests of all kinds: with few different bytes, and such that look random.
func samples() []api.Digest {
	var l []api.Digest
	for x := range 256 {
		l = append(l, api.Digest(bytes.Repeat([]byte{byte(x)}, 16)))
	}
	for n := range 500 {
		l = append(l, sample(n))
	}
	return l
}

// The following functions say what the chapter says, with the library's hash function and with other encodings than
// those of package wire: all integers here are from 0 to 63, and have one byte.

func smallInts(l ...int) []byte {
	b := []byte{byte(2 * len(l))}
	for _, n := range l {
		b = append(b, byte(2*n))
	}
	return b
}

// digestOf is hash.Of for parts with less than 64 bytes, and for longer ones with less than 2^13.
func digestOf(tag byte, parts ...[]byte) api.Digest {
	input := []byte{tag}
	for _, part := range parts {
		if z := 2 * len(part); z < 128 {
			input = append(input, byte(z))
		} else {
			input = append(input, byte(z%128+128), byte(z/128))
		}
		input = append(input, part...)
	}
	sum := sha256.Sum256(input)
	return api.Digest(sum[:16])
}

// chainValue returns the value k of the chain j of the one-time key i.
func chainValue(seed string, i, j, k int) api.Digest {
	if k == 0 {
		h := hmac.New(sha256.New, []byte(seed))
		h.Write(smallInts(i, j))
		return api.Digest(h.Sum(nil)[:16])
	}
	before := chainValue(seed, i, j, k-1)
	return digestOf(1, smallInts(i, j, k), before[:])
}

// treeValue returns the value n of a level.
func treeValue(seed string, level, n int) api.Digest {
	if level == 0 {
		lasts := []byte{2 * 35}
		for j := range 35 {
			last := chainValue(seed, n, j, 15)
			lasts = append(lasts, last[:]...)
		}
		return digestOf(1, lasts)
	}
	left, right := treeValue(seed, level-1, 2*n), treeValue(seed, level-1, 2*n+1)
	return digestOf(2, smallInts(level, n), left[:], right[:])
}

func expectedDigits(d api.Digest) []int {
	var l []int
	sum := 0
	for _, c := range hex.EncodeToString(d[:]) {
		digit := strings.IndexRune("0123456789abcdef", c)
		l = append(l, digit)
		sum += 15 - digit
	}
	return append(l, sum/256, sum/16%16, sum%16)
}

func expectedSignature(seed string, height, index int, message string) string {
	public := treeValue(seed, height, 0)
	b := []byte{byte(2 * index)}
	for j, digit := range expectedDigits(digestOf(3, public[:], []byte{byte(2 * index)}, []byte(message))) {
		value := chainValue(seed, index, j, digit)
		b = append(b, value[:]...)
	}
	for level := range height {
		n := index
		for range level {
			n /= 2
		}
		if n%2 == 0 {
			n++
		} else {
			n--
		}
		value := treeValue(seed, level, n)
		b = append(b, value[:]...)
	}
	return string(b)
}

func TestConstants(t *testing.T) {
	if sign.Chains != 35 || sign.MaxHeight != 6 {
		t.Error("constants:", sign.Chains, sign.MaxHeight)
	}
}

func TestDigits(t *testing.T) {
	if got := sign.Digits(api.Digest{}); !slices.Equal(got[:], append(make([]int, 32), 1, 14, 0)) {
		t.Error("P3.1: 16 zero bytes:", got)
	}
	want := append([]int{15, 15, 1, 0}, append(make([]int, 28), 1, 12, 1)...)
	if got := sign.Digits(api.Digest{255, 16}); !slices.Equal(got[:], want) {
		t.Error("P3.1: the bytes 255, 16 and zeros:", got)
	}
	want = append(slices.Repeat([]int{15}, 32), 0, 0, 0)
	if got := sign.Digits(api.Digest(bytes.Repeat([]byte{255}, 16))); !slices.Equal(got[:], want) {
		t.Error("P3.1: 16 bytes 255:", got)
	}
	for _, d := range samples() {
		if got := sign.Digits(d); !slices.Equal(got[:], expectedDigits(d)) {
			t.Fatalf("P3.1: %x: %v", d, got)
		}
	}
}

// TestDigitsCross compares the digits of digests that differ a lot, in one byte, and in one unit of one digit.
func TestDigitsCross(t *testing.T) {
	crosses := func(d, e api.Digest) bool {
		less, greater := false, false
		x, y := sign.Digits(d), sign.Digits(e)
		for i := range x {
			less = less || x[i] < y[i]
			greater = greater || x[i] > y[i]
		}
		return less && greater
	}
	l := samples()
	for i, d := range l {
		for _, e := range l[:i] {
			if d != e && !crosses(d, e) {
				t.Fatalf("P3.6: %x and %x", d, e)
			}
		}
		for at := range d {
			for _, by := range []byte{1, 16, 17, 15, 240, 255} {
				e := d
				e[at] += by
				if !crosses(d, e) {
					t.Fatalf("P3.6: %x and %x", d, e)
				}
			}
		}
	}
}

// seeds are short, long and strange.
func seeds() []string {
	return []string{"", "s", "seed", "\x00", "\x00\x00", "a\xffb", strings.Repeat("k", 64), strings.Repeat("k", 65)}
}

// wrongHeights are not permitted.
func wrongHeights() []int {
	return []int{-1, 7, 8, 62, 63, 64, 65, -64, math.MaxInt, math.MinInt}
}

func TestPublic(t *testing.T) {
	for height := range 4 {
		for _, seed := range seeds() {
			if got, e := sign.Public(seed, height); got != treeValue(seed, height, 0) || e != api.OK {
				t.Fatalf("P3.2: %q, height %d: %x, %d", seed, height, got, e)
			}
		}
	}
	for height := 4; height <= 6; height++ {
		if got, e := sign.Public("s", height); got != treeValue("s", height, 0) || e != api.OK {
			t.Fatalf("P3.2: height %d: %x, %d", height, got, e)
		}
	}
	for _, height := range wrongHeights() {
		if got, e := sign.Public("s", height); got != (api.Digest{}) || e != api.ErrArg {
			t.Errorf("P3.2: height %d: %x, %d", height, got, e)
		}
	}
}

func TestCountAndSize(t *testing.T) {
	count := 1
	for height := range 7 {
		if got := sign.Count(height); got != count {
			t.Errorf("P3.2: Count(%d) is %d", height, got)
		}
		for index := range count {
			if got := sign.Size(height, index); got != 1+16*(35+height) {
				t.Errorf("P3.2: Size(%d, %d) is %d", height, index, got)
			}
		}
		for _, index := range []int{-1, count, count + 1, -count, 64, math.MaxInt, math.MinInt} {
			if got := sign.Size(height, index); got != 0 {
				t.Errorf("P3.2: Size(%d, %d) is %d", height, index, got)
			}
		}
		count *= 2
	}
	for _, height := range wrongHeights() {
		if got := sign.Count(height); got != 0 {
			t.Errorf("P3.2: Count(%d) is %d", height, got)
		}
		for _, index := range []int{0, 1, -1, 64, math.MaxInt, math.MinInt} {
			if got := sign.Size(height, index); got != 0 {
				t.Errorf("P3.2: Size(%d, %d) is %d", height, index, got)
			}
		}
	}
	if sign.Count(3) != 8 || sign.Size(2, 3) != 593 {
		t.Error("P3.2: the examples:", sign.Count(3), sign.Size(2, 3))
	}
}

func TestMessage(t *testing.T) {
	for n, message := range []string{"", "m", "a longer message", strings.Repeat("x", 63), strings.Repeat("x", 64), strings.Repeat("\x00", 5000)} {
		public := sample(n)
		for _, index := range []int{0, 1, 5, 63, 64, -1, 1000, math.MaxInt, math.MinInt} {
			if got := sign.Message(public, index, message); got != digestOf(3, public[:], wire.Int(index), []byte(message)) {
				t.Errorf("P3.3: index %d, message %d: %x", index, n, got)
			}
		}
	}
}

func TestSign(t *testing.T) {
	for height := range 4 {
		for index := range 1 << height {
			for n, message := range []string{"", "m", strings.Repeat("x", 1000)} {
				seed := seeds()[(height+index+n)%len(seeds())]
				got, e := sign.Sign(seed, height, index, message)
				if got != expectedSignature(seed, height, index, message) || e != api.OK {
					t.Fatalf("P3.3: %q, height %d, index %d: %x, %d", seed, height, index, got, e)
				}
				if len(got) != sign.Size(height, index) {
					t.Fatalf("P3.2: height %d, index %d: a signature has %d bytes", height, index, len(got))
				}
			}
		}
	}
	for _, index := range []int{0, 21, 42, 63} {
		if got, e := sign.Sign("s", 6, index, "m"); got != expectedSignature("s", 6, index, "m") || e != api.OK {
			t.Fatalf("P3.3: height 6, index %d: %x, %d", index, got, e)
		}
	}
}

func TestSignErrors(t *testing.T) {
	for height := range 7 {
		for _, index := range []int{-1, 1 << height, 1<<height + 1, 64, math.MaxInt, math.MinInt} {
			if got, e := sign.Sign("s", height, index, "m"); got != "" || e != api.ErrSpent {
				t.Errorf("P3.3: height %d, index %d: %d bytes, %d", height, index, len(got), e)
			}
		}
	}
	for _, height := range wrongHeights() {
		for _, index := range []int{0, 1, -1, 64, math.MaxInt, math.MinInt} {
			if got, e := sign.Sign("s", height, index, "m"); got != "" || e != api.ErrArg {
				t.Errorf("P3.3: height %d, index %d: %d bytes, %d", height, index, len(got), e)
			}
		}
	}
}

// pair returns a public key and a signature.
func pair(t *testing.T, seed string, height, index int, message string) (api.Digest, string) {
	t.Helper()
	public, e := sign.Public(seed, height)
	if e != api.OK {
		t.Fatal("Public:", e)
	}
	signature, e := sign.Sign(seed, height, index, message)
	if e != api.OK {
		t.Fatal("Sign:", e)
	}
	return public, signature
}

// expect checks what Verify answers: an index and api.OK, or 0 and an error.
func expect(t *testing.T, what string, public api.Digest, height int, message, signature string, index int, e api.Errno) {
	t.Helper()
	if got, gotE := sign.Verify(public, height, message, signature); got != index || gotE != e {
		t.Errorf("P3.4: %s, height %d: %d, %d instead of %d, %d", what, height, got, gotE, index, e)
	}
}

func TestVerifyAccepts(t *testing.T) {
	for height := range 7 {
		for index := range 1 << height {
			if height > 4 && index%13 != 0 && index != 1<<height-1 {
				continue
			}
			for n, message := range []string{"", "m", strings.Repeat("x", 1000)} {
				seed := seeds()[(height+index+n)%len(seeds())]
				public, signature := pair(t, seed, height, index, message)
				if got, e := sign.Verify(public, height, message, signature); got != index || e != api.OK {
					t.Fatalf("P3.5: height %d, index %d: %d, %d", height, index, got, e)
				}
			}
		}
	}
}

// TestVerifyOrder gives signatures with several faults, of which the first one of the document's order is told.
func TestVerifyOrder(t *testing.T) {
	for height := range 7 {
		count := 1 << height
		public, signature := pair(t, "s", height, count-1, "m")
		for _, wrong := range wrongHeights() {
			expect(t, "a height that is not permitted", public, wrong, "m", signature, 0, api.ErrArg)
			expect(t, "a height that is not permitted", public, wrong, "m", "", 0, api.ErrArg)
		}
		expect(t, "no bytes", public, height, "m", "", 0, api.ErrTruncated)
		expect(t, "an integer without an end", public, height, "m", "\x80", 0, api.ErrTruncated)
		expect(t, "an integer with a zero", public, height, "m", "\x80\x00"+signature[1:], 0, api.ErrEncoding)
		expect(t, "an integer that is too long", public, height, "m", strings.Repeat("\xff", 600), 0, api.ErrEncoding)
		for _, index := range []int{-1, -count, count, count + 1, 64, 1000, math.MaxInt, math.MinInt} {
			for _, rest := range []string{"", "x", signature[1:], signature} {
				expect(t, "an index out of range", public, height, "m", string(wire.Int(index))+rest, 0, api.ErrAuth)
			}
		}
		for n := 1; n < len(signature); n++ {
			expect(t, "a signature cut off", public, height, "m", signature[:n], 0, api.ErrTruncated)
		}
		for _, more := range []string{"\x00", "x", strings.Repeat("x", 16), signature} {
			expect(t, "a signature with more bytes", public, height, "m", signature+more, 0, api.ErrEncoding)
			expect(t, "a wrong signature with more bytes", public, height, "other", signature+more, 0, api.ErrEncoding)
		}
		expect(t, "a signature of zeros", public, height, "m", "\x00"+strings.Repeat("\x00", len(signature)-1), 0, api.ErrAuth)
		expect(t, "a signature", public, height, "m", signature, count-1, api.OK)
	}
}

// TestVerifyDenies changes a signature, its message and its key in every place.
func TestVerifyDenies(t *testing.T) {
	for _, x := range []struct{ height, index int }{{0, 0}, {1, 1}, {3, 5}, {6, 33}} {
		public, signature := pair(t, "seed", x.height, x.index, "message")
		for i := range signature {
			changed := []byte(signature)
			changed[i] ^= 1 << (i % 8)
			if i == 0 {
				// Another index from 0 on that the height permits, if there is one.
				if changed[0] = signature[0] ^ 2; x.height == 0 {
					continue
				}
			}
			expect(t, "a changed byte", public, x.height, "message", string(changed), 0, api.ErrAuth)
		}
		for i := range public {
			other := public
			other[i] ^= 128 >> (i % 8)
			expect(t, "another key", other, x.height, "message", signature, 0, api.ErrAuth)
		}
		for _, other := range []string{"", "messag", "message ", "Message", "message\x00"} {
			expect(t, "another message", public, x.height, other, signature, 0, api.ErrAuth)
		}
		stranger, _ := sign.Sign("another seed", x.height, x.index, "message")
		expect(t, "another seed", public, x.height, "message", stranger, 0, api.ErrAuth)
	}
}

// TestVerifyOtherHeight takes a signature for one by a key of another height.
func TestVerifyOtherHeight(t *testing.T) {
	public, signature := pair(t, "s", 2, 1, "m")
	expect(t, "more levels", public, 3, "m", signature, 0, api.ErrTruncated)
	expect(t, "fewer levels", public, 1, "m", signature, 0, api.ErrEncoding)
	expect(t, "fewer levels", public, 0, "m", signature, 0, api.ErrAuth)
}

// TestHigherChains climbs a chain of a signature further: that makes no signature of another message.
func TestHigherChains(t *testing.T) {
	public, signature := pair(t, "s", 1, 1, "m")
	digits := sign.Digits(sign.Message(public, 1, "m"))
	for j, digit := range digits {
		value := chainValue("s", 1, j, digit)
		at := 1 + 16*j
		if signature[at:at+16] != string(value[:]) {
			t.Fatalf("P3.3: the value of the chain %d is not that with the number %d", j, digit)
		}
		if digit == 15 {
			continue
		}
		value = chainValue("s", 1, j, digit+1)
		expect(t, "a higher value", public, 1, "m", signature[:at]+string(value[:])+signature[at+16:], 0, api.ErrAuth)
	}
}

// TestAnyBytes verifies texts that are no signatures, which must neither panic nor be accepted.
func TestAnyBytes(t *testing.T) {
	r := rand.New(rand.NewPCG(7, 7))
	for range 3000 {
		height := r.IntN(9) - 1
		b := make([]byte, r.IntN(700))
		if count := sign.Count(height); r.IntN(2) == 0 && count > 0 {
			b = make([]byte, sign.Size(height, 0))
		}
		for i := range b {
			b[i] = byte(r.Uint32())
		}
		if len(b) > 0 && r.IntN(2) == 0 {
			b[0] = byte(2 * r.IntN(3))
		}
		if got, e := sign.Verify(sample(height), height, "m", string(b)); got != 0 || e == api.OK {
			t.Fatalf("P3.4: height %d, %x: %d, %d", height, b, got, e)
		}
	}
}

// TestRepeated makes the same calls again: no call changes what later ones return.
func TestRepeated(t *testing.T) {
	public, signature := pair(t, "s", 3, 6, "m")
	for range 2 {
		again, other := pair(t, "s", 3, 6, "m")
		if again != public || other != signature {
			t.Error("P3.3: a key or a signature is another one at the next call")
		}
		pair(t, "x", 2, 1, "y")
	}
}
