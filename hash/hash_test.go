package hash_test

import (
	"bytes"
	"crypto/hmac"
	"crypto/sha256"
	"encoding/hex"
	"math"
	"math/rand/v2"
	"slices"
	"strings"
	"testing"
	"time"

	"interlace/api"
	"interlace/hash"
	"interlace/wire"
)

// sample returns n bytes that look random and are the same at each call.
func sample(n int) []byte {
	r := rand.New(rand.NewPCG(3, uint64(n)))
	b := make([]byte, n)
	for i := range b {
		b[i] = byte(r.Uint32())
	}
	return b
}

// fromHex returns the bytes that hexadecimal digits stand for.
func fromHex(t *testing.T, digits string) []byte {
	t.Helper()
	b, err := hex.DecodeString(strings.ReplaceAll(digits, " ", ""))
	if err != nil {
		t.Fatal(err)
	}
	return b
}

// inShort writes bytes as the document's examples do: the first and the last four.
func inShort(b []byte) string {
	return hex.EncodeToString(b[:4]) + " .. " + hex.EncodeToString(b[len(b)-4:])
}

// messages returns messages of all lengths around the first blocks, and some long ones.
func messages() [][]byte {
	var l [][]byte
	for n := range 4*64 + 8 {
		l = append(l, sample(n), make([]byte, n), bytes.Repeat([]byte{255}, n))
	}
	for _, n := range []int{1000, 4095, 4096, 4097, 1<<16 + 55, 1<<16 + 56, 1<<20 + 1} {
		l = append(l, sample(n))
	}
	return l
}

// TestKnownHashes checks the hashes that the standard of SHA-256 gives for its own examples.
func TestKnownHashes(t *testing.T) {
	for _, x := range []struct{ text, want string }{
		{"", "e3b0c442 98fc1c14 9afbf4c8 996fb924 27ae41e4 649b934c a495991b 7852b855"},
		{"abc", "ba7816bf 8f01cfea 414140de 5dae2223 b00361a3 96177a9c b410ff61 f20015ad"},
		{"abcdbcdecdefdefgefghfghighijhijkijkljklmklmnlmnomnopnopq", "248d6a61 d20638b8 e5c02693 0c3e6039 a33ce459 64ff2167 f6ecedd4 19db06c1"},
		{strings.Repeat("a", 1000000), "cdc76e5c 9914fb92 81a1c7e2 84d73e67 f1809a48 a497200e 046d39cc c7112cd0"},
	} {
		want := [32]byte(fromHex(t, x.want))
		if got := hash.Sum([]byte(x.text)); got != want {
			t.Errorf("P2.1: %d bytes: %x", len(x.text), got)
		}
		if got := hash.Begin().Add(x.text).Sum(); got != want {
			t.Errorf("P2.2: %d bytes: %x", len(x.text), got)
		}
	}
}

func TestSum(t *testing.T) {
	for _, b := range messages() {
		want := sha256.Sum256(b)
		if got := hash.Sum(b); got != want {
			t.Fatalf("P2.1: %d bytes: %x", len(b), got)
		}
		if got := hash.Begin().Add(string(b)).Sum(); got != want {
			t.Fatalf("P2.2: %d bytes: %x", len(b), got)
		}
	}
	if hash.Sum(nil) != sha256.Sum256(nil) {
		t.Error("P2.1: nil")
	}
}

// TestLongMessage hashes a message whose length in bits has more than 32 bits.
func TestLongMessage(t *testing.T) {
	piece := string(sample(1 << 20))
	want := sha256.New()
	s := hash.Begin()
	for range 1 << 9 {
		want.Write([]byte(piece))
		s = s.Add(piece)
	}
	if got := s.Sum(); !bytes.Equal(got[:], want.Sum(nil)) {
		t.Errorf("P2.2: 2^32 bits: %x", got)
	}
	want.Write([]byte("abc"))
	if got := s.Add("abc").Sum(); !bytes.Equal(got[:], want.Sum(nil)) {
		t.Errorf("P2.2: 2^32 + 24 bits: %x", got)
	}
}

// TestStreamsStay continues streams several times, and uses them afterwards.
func TestStreamsStay(t *testing.T) {
	b := string(sample(400))
	for n := range 200 {
		s := hash.Begin().Add(b[:n])
		want := sha256.Sum256([]byte(b[:n]))
		before := s
		for _, more := range []string{"", "x", b[n:], b, "y"} {
			longer := s.Add(more)
			if longer.Sum() != sha256.Sum256([]byte(b[:n]+more)) {
				t.Fatalf("P2.2: %d bytes continued by %d", n, len(more))
			}
			if s != before || s.Sum() != want {
				t.Fatalf("P2.2: a stream of %d bytes changes when %d are added to another one", n, len(more))
			}
		}
		if s.Sum() != want || s != before {
			t.Fatalf("P2.2: Sum changes a stream of %d bytes", n)
		}
	}
	if hash.Begin().Sum() != sha256.Sum256(nil) || hash.Begin().Add("").Sum() != sha256.Sum256(nil) {
		t.Error("P2.2: Begin is not empty")
	}
}

// TestKnownCodes checks the examples of RFC 4231 with codes of full length.
func TestKnownCodes(t *testing.T) {
	long := strings.Repeat("\xaa", 131)
	for i, x := range []struct{ key, text, want string }{
		{strings.Repeat("\x0b", 20), "Hi There", "b0344c61 d8db3853 5ca8afce af0bf12b 881dc200 c9833da7 26e9376c 2e32cff7"},
		{"Jefe", "what do ya want for nothing?", "5bdcc146 bf60754e 6a042426 089575c7 5a003f08 9d273983 9dec58b9 64ec3843"},
		{strings.Repeat("\xaa", 20), strings.Repeat("\xdd", 50), "773ea91e 36800e46 854db8eb d09181a7 2959098b 3ef8c122 d9635514 ced565fe"},
		{long, "Test Using Larger Than Block-Size Key - Hash Key First", "60e43159 1ee0b67f 0d8a26aa cbf5b77f 8e0bc621 3728c514 0546040f 0ee37f54"},
		{long, "This is a test using a larger than block-size key and a larger than block-size data. The key needs to be hashed before being used by the HMAC algorithm.", "9b09ffa7 1b942fcb 27635fbc d5b0e944 bfdc6364 4f071393 8a7f5153 5c3a35e2"},
	} {
		if got := hash.Mac(x.key, x.text); got != string(fromHex(t, x.want)) {
			t.Errorf("P2.3: %d: %x", i, got)
		}
	}
	if got := inShort([]byte(hash.Mac("", ""))); got != "b613679a .. 4292c5ad" {
		t.Error("P2.3:", got)
	}
}

func TestMac(t *testing.T) {
	for keyLength := range 200 {
		for _, textLength := range []int{0, 1, 55, 56, 63, 64, 65, 200} {
			key, text := sample(keyLength), sample(textLength)
			want := hmac.New(sha256.New, key)
			want.Write(text)
			if got := hash.Mac(string(key), string(text)); got != string(want.Sum(nil)) {
				t.Fatalf("P2.3: a key of %d bytes, a text of %d: %x", keyLength, textLength, got)
			}
		}
	}
	full, long := string(sample(64)), string(sample(65))
	sum := hash.Sum([]byte(long))
	if hash.Mac(long, "x") != hash.Mac(string(sum[:]), "x") {
		t.Error("P2.3: a key of 65 bytes is not replaced by its Sum")
	}
	if sum = hash.Sum([]byte(full)); hash.Mac(full, "x") == hash.Mac(string(sum[:]), "x") {
		t.Error("P2.3: a key of 64 bytes is replaced by its Sum")
	}
	if hash.Mac("key", "x") != hash.Mac("key\x00", "x") {
		t.Error("P2.3: a short key is not extended by zero bytes")
	}
}

// expectedOf follows P2.4 with the hash function of the library.
func expectedOf(tag byte, parts []string) api.Digest {
	input := []byte{tag}
	for _, part := range parts {
		input = append(input, wire.Bytes(part)...)
	}
	sum := sha256.Sum256(input)
	return api.Digest(sum[:16])
}

func TestOf(t *testing.T) {
	for _, parts := range [][]string{nil, {""}, {"", ""}, {"a"}, {"a", ""}, {"ab", "c"}, {strings.Repeat("x", 64)}, make([]string, 100), {string(sample(5000)), "y"}} {
		for tag := -600; tag <= 600; tag++ {
			// The remainder of a division by 256 that is rounded down.
			rest := byte((tag + 3*256) % 256)
			if d := hash.Of(tag, parts...); d != expectedOf(rest, parts) {
				t.Fatalf("P2.4: %d and %d parts: %x", tag, len(parts), d)
			}
		}
		for _, x := range []struct {
			tag  int
			rest byte
		}{{math.MinInt, 0}, {math.MinInt + 1, 1}, {math.MaxInt, 255}, {1 << 32, 0}, {-1<<40 - 1, 255}} {
			if d := hash.Of(x.tag, parts...); d != expectedOf(x.rest, parts) {
				t.Fatalf("P2.4: %d and %d parts: %x", x.tag, len(parts), d)
			}
		}
	}
	one, two := hash.Of(1), hash.Of(api.TagState, "a", "")
	if inShort(one[:]) != "4bf5122f .. 8cd2b7e3" || inShort(two[:]) != "fa154ba5 .. eedcacb7" {
		t.Errorf("P2.4: %x, %x", one, two)
	}
}

func TestEqual(t *testing.T) {
	for _, x := range []struct {
		a, b string
		want bool
	}{
		{"ab", "ab", true}, {"ab", "ac", false}, {"", "a", false}, {"", "", true}, {"a", "", false},
		{"a", "a\x00", false}, {"\x00", "\x00\x00", false}, {"\x80", "\x00", false}, {"ab", "ba", false},
		// Differences in several bytes, whose sum or combination by exclusive or is zero.
		{"\x01\x01", "\x00\x00", false}, {"\x01\xff", "\x00\x00", false}, {strings.Repeat("\x01", 256), strings.Repeat("\x00", 256), false},
	} {
		if hash.Equal(x.a, x.b) != x.want {
			t.Errorf("P2.5: %q, %q", x.a, x.b)
		}
	}
	b := sample(100)
	a := string(b)
	for i := range b {
		for bit := range 8 {
			b[i] ^= 1 << bit
			if hash.Equal(a, string(b)) || hash.Equal(string(b), a) {
				t.Fatalf("P2.5: a difference in the bit %d of the byte %d", bit, i)
			}
			b[i] ^= 1 << bit
		}
		if !hash.Equal(a, string(b)) || hash.Equal(a, string(b[:i])) || hash.Equal(string(b[:i]), a) {
			t.Fatalf("P2.5: %d bytes", i)
		}
	}
}

// quickest returns the shortest time that a call takes.
func quickest(call func()) time.Duration {
	least := time.Duration(math.MaxInt64)
	for range 10 {
		begin := time.Now()
		call()
		least = min(least, time.Since(begin))
	}
	return least
}

// TestEqualLooksAtAllBytes allows for a factor that no machine is slowed down by at each of ten calls; a comparison that
// ends at the first difference is faster than that by several thousands.
func TestEqualLooksAtAllBytes(t *testing.T) {
	const factor = 20
	b := sample(1 << 22)
	a := string(b)
	same := quickest(func() { hash.Equal(a, a) })
	b[0]++
	different := string(b)
	if early := quickest(func() { hash.Equal(a, different) }); early*factor < same {
		t.Errorf("P2.5: %v for equal texts, %v for texts whose first bytes differ", same, early)
	}
}

// TestPieces cuts a message in all ways in two, and in many ways in more pieces.
func TestPieces(t *testing.T) {
	b := string(sample(300))
	want := hash.Sum([]byte(b))
	for i := range len(b) + 1 {
		if hash.Begin().Add(b[:i]).Add(b[i:]).Sum() != want {
			t.Fatalf("P2.6: pieces of %d and %d bytes", i, len(b)-i)
		}
	}
	r := rand.New(rand.NewPCG(4, 5))
	for range 500 {
		s, most := hash.Begin(), 1+r.IntN(150)
		var lengths []int
		for rest := b; len(rest) > 0; {
			n := min(r.IntN(most+1), len(rest))
			lengths = append(lengths, n)
			s, rest = s.Add(rest[:n]), rest[n:]
		}
		if s.Sum() != want {
			t.Fatalf("P2.6: pieces of %v bytes", lengths)
		}
	}
}

// partLists returns all lists of at most three of some parts, which have many concatenations in common, also with the
// encodings of others.
func partLists() [][]string {
	some := []string{"", "a", "b", "ab", "ba", "aa", "\x00", "\x00\x00", "\x02a", "\x02a\x02b", "a\x02b", "\x01", "\x80\x01"}
	l := [][]string{nil}
	for from := 0; len(l[from]) < 3; from++ {
		for _, part := range some {
			l = append(l, append(slices.Clone(l[from]), part))
		}
	}
	return l
}

// TestInputsDiffer relies on that no two inputs of SHA-256 with the same first 16 bytes of their hashes are known.
func TestInputsDiffer(t *testing.T) {
	type input struct {
		tag  int
		list string
	}
	seen := map[api.Digest]input{}
	for _, tag := range []int{0, 1, 2, 97, 128, 255} {
		for _, parts := range partLists() {
			d, here := hash.Of(tag, parts...), input{tag, strings.Join(parts, "|")}
			if other, found := seen[d]; found {
				t.Fatalf("P2.6: %v and %v have the same digest", other, here)
			}
			seen[d] = here
		}
	}
	for tag := range 256 {
		for other := range tag {
			if hash.Of(tag, "x") == hash.Of(other, "x") {
				t.Fatalf("P2.6: the tags %d and %d have the same digest", tag, other)
			}
		}
	}
}

// TestArguments checks that arguments stay as they are, also beyond their ends.
func TestArguments(t *testing.T) {
	for n := range 200 {
		room := sample(400)
		before := slices.Clone(room)
		got := hash.Sum(room[:n])
		if !bytes.Equal(room, before) {
			t.Fatalf("P2.1: Sum changes its argument of %d bytes, or what is after it", n)
		}
		clear(room)
		if got != sha256.Sum256(before[:n]) {
			t.Fatalf("P2.1: the hash of %d bytes shares memory with them", n)
		}
	}
	room := []string{"a", "b", "c", "d"}
	first := hash.Of(5, room[:2]...)
	if !slices.Equal(room, []string{"a", "b", "c", "d"}) || first != hash.Of(5, "a", "b") {
		t.Error("P2.4: Of changes its arguments")
	}
}
