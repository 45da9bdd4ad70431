package journal

import (
	"slices"
	"strings"
	"testing"
)

// join returns the stream of records, as its parts give it.
func join(t *testing.T, records []string) string {
	t.Helper()
	list := slices.Collect(parts(records))
	for k, part := range list {
		if n := len(part); n == 0 || n > 128 || n < 128 && k+1 < len(list) {
			t.Errorf("P5.8: the part %d of %d has %d bytes", k, len(list), n)
		}
	}
	return strings.Join(list, "")
}

func TestParts(t *testing.T) {
	for _, records := range [][]string{
		nil, {""}, {"a", "", "bc"}, slices.Repeat([]string{""}, 64), slices.Repeat([]string{""}, 65),
		{strings.Repeat("x", 125)}, {strings.Repeat("x", 125), "y"}, {strings.Repeat("x", 126)}, {strings.Repeat("x", 127), ""},
		{strings.Repeat("x", 255)}, {strings.Repeat("x", 256)}, {"", strings.Repeat("\x00", 8000), "z"},
	} {
		stream := join(t, records)
		if len(stream) != use(records) {
			t.Errorf("P5.8: %d bytes for records that use %d", len(stream), use(records))
		}
		if l, ok := cut(stream); !ok || !slices.Equal(l, records) {
			t.Errorf("P5.8: %d records become %d, %v", len(records), len(l), ok)
		}
		for range parts(records) {
			break
		}
	}
}

// TestCut cuts streams that no journal writes, so that a disk that is none of a journal's cannot make Open panic.
func TestCut(t *testing.T) {
	for _, stream := range []string{"\x00", "\x00\x01", "\x00\x02a", "\x00\x00\x00", "\x01\x00abc", "\x00\x01ab", "\xff\xff"} {
		if l, ok := cut(stream); ok || l != nil {
			t.Errorf("P1: the stream %q is cut into %q", stream, l)
		}
	}
}

// TestHead compares heads: those of two lengths differ in two places, whatever the sums are.
func TestHead(t *testing.T) {
	if (headOf(0, summer()("")) != head{}) {
		t.Error("P5.1: the head of no records is not that of a new disk")
	}
	bits := func(a, b head) int {
		n := 0
		for i := range a {
			for x := a[i] ^ b[i]; x != 0; x &= x - 1 {
				n++
			}
		}
		return n
	}
	for _, size := range []int{0, 1, 2, 127, 128, 255, 256, 4096, 262016} {
		if h := headOf(size, 1<<64-1); h.size() != size {
			t.Errorf("P5.6: the length %d is read as %d", size, h.size())
		}
		for bit := range 32 {
			if n := bits(headOf(size, 7), headOf(size^1<<bit, 7)); n != 2 {
				t.Errorf("P5.6: another length than %d changes %d bits", size, n)
			}
		}
		for bit := range 64 {
			if n := bits(headOf(size, 0), headOf(size, 1<<bit)); n != 1 {
				t.Errorf("P5.6: one bit of the sum changes %d bits", n)
			}
		}
	}
}

// TestSum compares the sums of streams that differ in one bit, or in their lengths.
func TestSum(t *testing.T) {
	for _, stream := range []string{"a", strings.Repeat("\x00", 300), strings.Repeat("\xff\x01", 400)} {
		sum := summer()(stream)
		for i := range len(stream) {
			for bit := range 8 {
				rotten := []byte(stream)
				rotten[i] ^= 1 << bit
				if summer()(string(rotten)) == sum {
					t.Errorf("P5.6: the bit %d of the byte %d does not count", bit, i)
				}
			}
			if summer()(stream[:i]) == sum {
				t.Errorf("P5.6: the sum of %d bytes is that of all", i)
			}
			add := summer()
			add(stream[:i])
			if add(stream[i:]) != sum || add("") != sum {
				t.Errorf("P5.6: the sum depends on where the stream is cut")
			}
		}
	}
}
