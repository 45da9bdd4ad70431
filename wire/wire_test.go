package wire_test

import (
	"bytes"
	"math"
	"math/big"
	"math/rand/v2"
	"runtime"
	"slices"
	"strings"
	"testing"

	"interlace/api"
	"interlace/wire"
)

// full returns n times the byte 255, and some further bytes.
func full(n int, more ...byte) []byte { return append(bytes.Repeat([]byte{255}, n), more...) }

// join returns the bytes of all parts, in order.
func join(parts ...[]byte) []byte { return bytes.Join(parts, nil) }

// sampleInts returns integers around all powers of two, around 0 and at both ends, and some of every size.
func sampleInts() []int {
	var l []int
	for k := range 64 {
		for d := -3; d <= 3; d++ {
			l = append(l, 1<<k+d, -(1<<k)+d)
		}
	}
	for n := -300; n <= 300; n++ {
		l = append(l, n)
	}
	r := rand.New(rand.NewPCG(1, 2))
	for range 2000 {
		l = append(l, int(r.Uint64())>>r.IntN(64))
	}
	return l
}

// expectedInt encodes as P1.1 says, with integers of unlimited size.
func expectedInt(n int) []byte {
	z := new(big.Int).Mul(big.NewInt(2), big.NewInt(int64(n)))
	if n < 0 {
		z.Neg(z).Sub(z, big.NewInt(1))
	}
	var b []byte
	for {
		digit := new(big.Int)
		z.DivMod(z, big.NewInt(128), digit)
		if z.Sign() == 0 {
			return append(b, byte(digit.Int64()))
		}
		b = append(b, byte(digit.Int64())+128)
	}
}

// expectedError tells which error P1.2 names for b.
func expectedError(b []byte) api.Errno {
	for i := 0; i < len(b) && i < 10; i++ {
		if b[i] < 128 {
			if i == 9 && b[i] > 1 || b[i] == 0 && i != 0 {
				return api.ErrEncoding
			}
			return api.OK
		}
	}
	if len(b) >= 10 {
		return api.ErrEncoding
	}
	return api.ErrTruncated
}

// odd returns byte sequences of which many are not encodings: all the short ones of some bytes, and long ones.
func odd() [][]byte {
	some := []byte{0, 1, 2, 3, 4, 32, 127, 128, 129, 255}
	l := [][]byte{nil}
	for from := 0; len(l[from]) < 4; from++ {
		for _, x := range some {
			l = append(l, join(l[from], []byte{x}))
		}
	}
	for n := range 13 {
		for _, x := range some {
			for _, y := range some {
				l = append(l, full(n, x, y), append(bytes.Repeat([]byte{128}, n), x, y))
			}
		}
	}
	r := rand.New(rand.NewPCG(3, 4))
	for range 3000 {
		b := make([]byte, r.IntN(40))
		for i := range b {
			b[i] = some[r.IntN(len(some))]
		}
		l = append(l, b)
	}
	return l
}

func TestIntExamples(t *testing.T) {
	for _, x := range []struct {
		n    int
		want []byte
	}{
		{0, []byte{0}},
		{1, []byte{2}},
		{63, []byte{126}},
		{64, []byte{128, 1}},
		{8191, []byte{254, 127}},
		{8192, []byte{128, 128, 1}},
		{-1, []byte{1}},
		{-64, []byte{127}},
		{-65, []byte{129, 1}},
		{math.MaxInt, append([]byte{254}, full(8, 1)...)},
		{math.MinInt, full(9, 1)},
	} {
		if b := wire.Int(x.n); !bytes.Equal(b, x.want) {
			t.Errorf("P1.1: Int(%d) is %v, not %v", x.n, b, x.want)
		}
		if n, used, e := wire.GetInt(x.want); n != x.n || used != len(x.want) || e != api.OK {
			t.Errorf("P1.2: GetInt(%v) is %d, %d, %d", x.want, n, used, e)
		}
	}
}

func TestInt(t *testing.T) {
	for _, n := range sampleInts() {
		if b, want := wire.Int(n), expectedInt(n); !bytes.Equal(b, want) {
			t.Fatalf("P1.1: Int(%d) is %v, not %v", n, b, want)
		}
	}
}

func TestGetIntErrors(t *testing.T) {
	for _, x := range []struct {
		b []byte
		e api.Errno
	}{
		{nil, api.ErrTruncated},
		{[]byte{}, api.ErrTruncated},
		{[]byte{128}, api.ErrTruncated},
		{full(1), api.ErrTruncated},
		{full(9), api.ErrTruncated},
		{full(10), api.ErrEncoding},
		{full(11), api.ErrEncoding},
		{full(10, 0), api.ErrEncoding},
		{full(10, 1), api.ErrEncoding},
		{full(9, 0), api.ErrEncoding},
		{full(9, 2), api.ErrEncoding},
		{full(9, 127), api.ErrEncoding},
		{full(9, 2, 1), api.ErrEncoding},
		{[]byte{128, 0}, api.ErrEncoding},
		{[]byte{128, 0, 5}, api.ErrEncoding},
		{[]byte{129, 0}, api.ErrEncoding},
		{[]byte{255, 128, 0}, api.ErrEncoding},
		{full(8, 0), api.ErrEncoding},
	} {
		if n, used, e := wire.GetInt(x.b); n != 0 || used != 0 || e != x.e {
			t.Errorf("P1.2: GetInt(%v) is %d, %d, %d", x.b, n, used, e)
		}
	}
	for _, b := range odd() {
		if _, _, e := wire.GetInt(b); e != expectedError(b) {
			t.Fatalf("P1.2: GetInt(%v) has the error %d, not %d", b, e, expectedError(b))
		}
	}
}

func TestBytes(t *testing.T) {
	for _, x := range []struct {
		s    string
		want []byte
	}{
		{"", []byte{0}},
		{"ab", []byte{4, 97, 98}},
		{"\x00\xff\x80", []byte{6, 0, 255, 128}},
		{strings.Repeat("x", 63), join([]byte{126}, bytes.Repeat([]byte("x"), 63))},
		{strings.Repeat("x", 64), join([]byte{128, 1}, bytes.Repeat([]byte("x"), 64))},
	} {
		if b := wire.Bytes(x.s); !bytes.Equal(b, x.want) {
			t.Errorf("P1.3: Bytes(%q) is %v, not %v", x.s, b, x.want)
		}
		if s, used, e := wire.GetBytes(append(slices.Clone(x.want), 99, 128)); s != x.s || used != len(x.want) || e != api.OK {
			t.Errorf("P1.3: GetBytes(%v) is %q, %d, %d", x.want, s, used, e)
		}
	}
}

func TestGetBytesErrors(t *testing.T) {
	for _, x := range []struct {
		b []byte
		e api.Errno
	}{
		{nil, api.ErrTruncated},
		{[]byte{128}, api.ErrTruncated},
		{[]byte{128, 0}, api.ErrEncoding},
		{full(9, 2), api.ErrEncoding},
		{full(10), api.ErrEncoding},
		{[]byte{1}, api.ErrEncoding},
		{[]byte{3, 97, 98}, api.ErrEncoding},
		{wire.Int(math.MinInt), api.ErrEncoding},
		{[]byte{2}, api.ErrTruncated},
		{[]byte{4, 97}, api.ErrTruncated},
		{wire.Int(math.MaxInt), api.ErrTruncated},
		{append(wire.Int(math.MaxInt), "abc"...), api.ErrTruncated},
		{append(wire.Int(64), strings.Repeat("x", 63)...), api.ErrTruncated},
	} {
		if s, used, e := wire.GetBytes(x.b); s != "" || used != 0 || e != x.e {
			t.Errorf("P1.3: GetBytes(%v) is %q, %d, %d", x.b, s, used, e)
		}
	}
}

func TestListExamples(t *testing.T) {
	d, f := api.Digest{1, 2, 3}, api.Digest{15: 255}
	for i, x := range []struct{ b, want []byte }{
		{wire.Ints([]int{1, -1}), []byte{4, 2, 1}},
		{wire.Ints([]int{}), []byte{0}},
		{wire.Ints(nil), []byte{0}},
		{wire.Ints([]int{64, 0}), []byte{4, 128, 1, 0}},
		{wire.Strings([]string{"", "a"}), []byte{4, 0, 2, 97}},
		{wire.Strings([]string{}), []byte{0}},
		{wire.Strings(nil), []byte{0}},
		{wire.Strings([]string{""}), []byte{2, 0}},
		{wire.Digests([]api.Digest{d, f}), join([]byte{4}, d[:], f[:])},
		{wire.Digests([]api.Digest{}), []byte{0}},
		{wire.Digests(nil), []byte{0}},
	} {
		if !bytes.Equal(x.b, x.want) {
			t.Errorf("P1.4: %d: %v, not %v", i, x.b, x.want)
		}
	}
}

// TestLists checks long lists part by part: their lengths take more than one byte.
func TestLists(t *testing.T) {
	numbers := sampleInts()
	texts := make([]string, 100)
	digests := make([]api.Digest, 100)
	for i := range 100 {
		texts[i] = strings.Repeat("y", i)
		digests[i] = api.Digest{byte(i), 15: byte(i * 2)}
	}
	a, b, c := wire.Int(len(numbers)), wire.Int(len(texts)), wire.Int(len(digests))
	for _, n := range numbers {
		a = append(a, wire.Int(n)...)
	}
	for i := range 100 {
		b = append(b, wire.Bytes(texts[i])...)
		c = append(c, digests[i][:]...)
	}
	if !bytes.Equal(wire.Ints(numbers), a) || !bytes.Equal(wire.Strings(texts), b) || !bytes.Equal(wire.Digests(digests), c) {
		t.Error("P1.4: a list is not its length and its elements")
	}
	if l, used, e := wire.GetInts(append(a, 5)); !slices.Equal(l, numbers) || used != len(a) || e != api.OK {
		t.Error("P1.5: GetInts:", used, e)
	}
	if l, used, e := wire.GetStrings(append(b, 5)); !slices.Equal(l, texts) || used != len(b) || e != api.OK {
		t.Error("P1.5: GetStrings:", used, e)
	}
	if l, used, e := wire.GetDigests(append(c, 5)); !slices.Equal(l, digests) || used != len(c) || e != api.OK {
		t.Error("P1.5: GetDigests:", used, e)
	}
}

func TestListErrors(t *testing.T) {
	for _, x := range []struct {
		b                    []byte
		ints, texts, digests api.Errno
	}{
		{nil, api.ErrTruncated, api.ErrTruncated, api.ErrTruncated},
		{[]byte{128}, api.ErrTruncated, api.ErrTruncated, api.ErrTruncated},
		{[]byte{128, 0}, api.ErrEncoding, api.ErrEncoding, api.ErrEncoding},
		{full(9, 2), api.ErrEncoding, api.ErrEncoding, api.ErrEncoding},
		{full(10), api.ErrEncoding, api.ErrEncoding, api.ErrEncoding},
		// Negative lengths, whatever follows.
		{[]byte{1}, api.ErrEncoding, api.ErrEncoding, api.ErrEncoding},
		{[]byte{3, 0, 0}, api.ErrEncoding, api.ErrEncoding, api.ErrEncoding},
		{wire.Int(math.MinInt), api.ErrEncoding, api.ErrEncoding, api.ErrEncoding},
		// No elements.
		{[]byte{0}, api.OK, api.OK, api.OK},
		{[]byte{0, 128, 0}, api.OK, api.OK, api.OK},
		// Fewer bytes than elements: this error comes before those of the elements.
		{[]byte{2}, api.ErrTruncated, api.ErrTruncated, api.ErrTruncated},
		{[]byte{6, 128, 0}, api.ErrTruncated, api.ErrTruncated, api.ErrTruncated},
		{[]byte{6, 1, 1}, api.ErrTruncated, api.ErrTruncated, api.ErrTruncated},
		{wire.Int(math.MaxInt), api.ErrTruncated, api.ErrTruncated, api.ErrTruncated},
		// 16 times these lengths are 0 and 16 in 64 bits.
		{append(wire.Int(1<<60), full(40)...), api.ErrTruncated, api.ErrTruncated, api.ErrTruncated},
		{append(wire.Int(1<<60+1), full(40)...), api.ErrTruncated, api.ErrTruncated, api.ErrTruncated},
		// The first element that cannot be decoded decides.
		{[]byte{2, 128, 0}, api.ErrEncoding, api.ErrEncoding, api.ErrTruncated},
		{[]byte{4, 128, 0, 128}, api.ErrEncoding, api.ErrEncoding, api.ErrTruncated},
		{[]byte{4, 0, 128}, api.ErrTruncated, api.ErrTruncated, api.ErrTruncated},
		{[]byte{4, 4, 97, 98, 128, 0}, api.OK, api.ErrEncoding, api.ErrTruncated},
		{[]byte{4, 4, 97, 98, 4, 97}, api.OK, api.ErrTruncated, api.ErrTruncated},
		{[]byte{2, 1, 0}, api.OK, api.ErrEncoding, api.ErrTruncated},
		{append([]byte{2}, make([]byte, 15)...), api.OK, api.OK, api.ErrTruncated},
		{append([]byte{2}, make([]byte, 16)...), api.OK, api.OK, api.OK},
		{append([]byte{4}, make([]byte, 31)...), api.OK, api.OK, api.ErrTruncated},
	} {
		if l, used, e := wire.GetInts(x.b); e != x.ints || e != api.OK && (len(l) != 0 || used != 0) {
			t.Errorf("P1.5: GetInts(%v) is %v, %d, %d", x.b, l, used, e)
		}
		if l, used, e := wire.GetStrings(x.b); e != x.texts || e != api.OK && (len(l) != 0 || used != 0) {
			t.Errorf("P1.5: GetStrings(%v) is %q, %d, %d", x.b, l, used, e)
		}
		if l, used, e := wire.GetDigests(x.b); e != x.digests || e != api.OK && (len(l) != 0 || used != 0) {
			t.Errorf("P1.5: GetDigests(%v) is %v, %d, %d", x.b, l, used, e)
		}
	}
}

// checkCode checks P1.6 for a value x.
func checkCode[T any](t *testing.T, x T, put func(T) []byte, get func([]byte) (T, int, api.Errno), same func(T, T) bool) {
	t.Helper()
	code := put(x)
	for _, rest := range [][]byte{nil, {0}, {1}, {128}, {255}, code} {
		if y, used, e := get(join(code, rest)); !same(x, y) || used != len(code) || e != api.OK {
			t.Fatalf("P1.6: %v and %v: %#v, %d, %d", code, rest, y, used, e)
		}
	}
	for n := range code {
		if _, used, e := get(code[:n:n]); used != 0 || e != api.ErrTruncated {
			t.Fatalf("P1.6: the prefix %v of %v: %d, %d", code[:n], code, used, e)
		}
	}
}

// checkCanonical checks P1.6 for bytes that may be an encoding or not, and the rules on errors and on arguments.
func checkCanonical[T any](t *testing.T, b []byte, put func(T) []byte, get func([]byte) (T, int, api.Errno), empty func(T) bool) bool {
	t.Helper()
	before := slices.Clone(b)
	x, used, e := get(b)
	switch {
	case e == api.OK && (used > len(b) || !bytes.Equal(put(x), b[:used])):
		t.Fatalf("P1.6: %v is decoded as %#v, which is encoded as %v", b, x, put(x))
	case e != api.OK && (used != 0 || !empty(x)):
		t.Fatalf("%v gives an error with %#v and %d", b, x, used)
	case e != api.OK && e != api.ErrTruncated && e != api.ErrEncoding:
		t.Fatalf("%v gives the error %d", b, e)
	case !bytes.Equal(b, before):
		t.Fatalf("%v became %v", before, b)
	}
	return e == api.OK
}

func TestDecodingOfEncoding(t *testing.T) {
	equal := func(a, b int) bool { return a == b }
	for _, n := range sampleInts() {
		checkCode(t, n, wire.Int, wire.GetInt, equal)
	}
	for _, s := range []string{"", "a", "\x80", "\xff\x00", strings.Repeat("z", 63), strings.Repeat("z", 64)} {
		checkCode(t, s, wire.Bytes, wire.GetBytes, func(a, b string) bool { return a == b })
	}
	for _, l := range [][]int{nil, {0}, {-1, 1}, {math.MinInt, 64, math.MaxInt}, make([]int, 70)} {
		checkCode(t, l, wire.Ints, wire.GetInts, slices.Equal[[]int])
	}
	for _, l := range [][]string{nil, {""}, {"", "", ""}, {"ab", "", "\x80"}, make([]string, 70), {strings.Repeat("z", 200)}} {
		checkCode(t, l, wire.Strings, wire.GetStrings, slices.Equal[[]string])
	}
	for _, l := range [][]api.Digest{nil, {{}}, {{1}, {15: 128}}, make([]api.Digest, 70)} {
		checkCode(t, l, wire.Digests, wire.GetDigests, slices.Equal[[]api.Digest])
	}
}

func TestEncodingOfDecoding(t *testing.T) {
	counts := make([]int, 5)
	count := func(i int, ok bool) {
		if ok {
			counts[i]++
		}
	}
	for _, b := range odd() {
		count(0, checkCanonical(t, b, wire.Int, wire.GetInt, func(n int) bool { return n == 0 }))
		count(1, checkCanonical(t, b, wire.Bytes, wire.GetBytes, func(s string) bool { return s == "" }))
		count(2, checkCanonical(t, b, wire.Ints, wire.GetInts, func(l []int) bool { return len(l) == 0 }))
		count(3, checkCanonical(t, b, wire.Strings, wire.GetStrings, func(l []string) bool { return len(l) == 0 }))
		count(4, checkCanonical(t, b, wire.Digests, wire.GetDigests, func(l []api.Digest) bool { return len(l) == 0 }))
	}
	if slices.Min(counts) < 100 {
		t.Error("P1.6: too few of these bytes are encodings:", counts)
	}
}

func TestLengthsOfInts(t *testing.T) {
	length := func(n int) int { return len(wire.Int(n)) }
	l := sampleInts()
	// -1-n is as far from -1/2 as n is: the distances of n from 0 on are in the order of n.
	distance := func(n int) int { return max(n, -1-n) }
	slices.SortFunc(l, func(a, b int) int { return distance(a) - distance(b) })
	for i, n := range l {
		if k := length(n); k < 1 || k > 10 || (k == 1) != (n >= -64 && n <= 63) || k != length(-1-n) {
			t.Fatal("P1.7:", n, k, length(-1-n))
		}
		if i > 0 && length(l[i-1]) > length(n) {
			t.Fatal("P1.7:", l[i-1], "has a longer encoding than", n)
		}
	}
	if length(math.MinInt) != 10 || length(math.MaxInt) != 10 {
		t.Error("P1.7: the ends")
	}
}

func TestNewMemory(t *testing.T) {
	numbers, texts, digests := []int{1, 2}, []string{"a", "bc"}, []api.Digest{{1}, {2}}
	for _, b := range [][]byte{wire.Ints(numbers), wire.Strings(texts), wire.Digests(digests)} {
		clear(b)
	}
	if !slices.Equal(numbers, []int{1, 2}) || !slices.Equal(texts, []string{"a", "bc"}) || !slices.Equal(digests, []api.Digest{{1}, {2}}) {
		t.Error("an encoding shares memory with its argument")
	}
	a, b, c, d := wire.Ints(numbers), wire.Strings(texts), wire.Digests(digests), wire.Bytes("abc")
	getA, _, _ := wire.GetInts(a)
	getB, _, _ := wire.GetStrings(b)
	getC, _, _ := wire.GetDigests(c)
	getD, _, _ := wire.GetBytes(d)
	for _, x := range [][]byte{a, b, c, d} {
		clear(x)
	}
	if !slices.Equal(getA, numbers) || !slices.Equal(getB, texts) || !slices.Equal(getC, digests) || getD != "abc" {
		t.Error("P1.5: a result shares memory with its argument")
	}
	first := wire.Int(5)
	clear(first)
	if !bytes.Equal(wire.Int(5), []byte{10}) {
		t.Error("P1.1: a result shares memory with another one")
	}
}

// allocated returns the number of bytes that a call allocates.
func allocated(call func()) uint64 {
	var before, after runtime.MemStats
	runtime.ReadMemStats(&before)
	call()
	runtime.ReadMemStats(&after)
	return after.TotalAlloc - before.TotalAlloc
}

// TestMemory decodes lengths that are much greater than what follows them, and lists that are wrong at their end.
func TestMemory(t *testing.T) {
	const room = 1 << 16
	var l [][]byte
	for _, n := range []int{1 << 20, 1 << 30, 1 << 31, 1 << 40, 1 << 56, 1<<59 + 1, 1 << 60, 1<<60 + 1, math.MaxInt} {
		l = append(l, wire.Int(n), append(wire.Int(n), make([]byte, 1000)...))
	}
	l = append(l, append(append(wire.Int(1000), make([]byte, 999)...), 128))
	for _, b := range l {
		used := allocated(func() {
			wire.GetBytes(b)
			wire.GetInts(b)
			wire.GetStrings(b)
			wire.GetDigests(b)
		})
		if used > room+100*uint64(len(b)) {
			t.Errorf("decoding %d bytes allocates %d bytes", len(b), used)
		}
	}
}
