package token_test

import (
	"fmt"
	"math"
	"math/rand/v2"
	"strconv"
	"strings"
	"testing"

	"interlace/token"
)

const greatest = 1 << 30

func TestNumber(t *testing.T) {
	for s, want := range map[string]int{
		"0": 0, "1": 1, "9": 9, "10": 10, "1073741824": greatest, "0x0": 0, "0x00ff": 255, "0x00000000": 0, "0xabcdef": 0xabcdef, "0x40000000": greatest,
		"0x3fffffff": greatest - 1, "0x09": 9, "1000000000": 1000000000,
	} {
		if n, ok := token.Number(s); n != want || !ok {
			t.Errorf("P10.2: Number(%q) gives %d and %v, want %d", s, n, ok, want)
		}
	}
	for _, s := range []string{
		"", "00", "01", "007", "0x", "0x100000000", "0x000000001", "0x40000001", "0xffffffff", "1073741825", "2147483648", "9999999999", "18446744073709551617",
		"0X1", "0x1F", "0xg", "1a", "a", "-1", "+1", " 1", "1 ", "1\n", "1_0", "0b1", "0o7", "x1", "0x-1", "0x 1", "1.0", "1e3", "0x0x1", "/", ":", "0x`", "0x/", "0x:",
		"\xff", "0x\xff", "１", strings.Repeat("9", 1<<16), "0x" + strings.Repeat("0", 1<<16), strings.Repeat("0", 30), "1" + strings.Repeat("0", 19),
	} {
		if n, ok := token.Number(s); n != 0 || ok {
			t.Errorf("P10.2: Number(%.40q) gives %d and %v, want none", s, n, ok)
		}
	}
}

func TestRandomNumbers(t *testing.T) {
	r := source(2)
	for range 100000 {
		s := []string{"", "0x", "0", "1"}[r.IntN(4)]
		for range r.IntN(12) {
			s += string("0123456789abcdefgx_F /:"[r.IntN(10+13*r.IntN(2))])
		}
		want, known := valueOf(s)
		if n, ok := token.Number(s); n != want || ok != known {
			t.Fatalf("P10.2: Number(%q) gives %d and %v, want %d and %v", s, n, ok, want, known)
		}
	}
}

func TestHex(t *testing.T) {
	for n, want := range map[int]string{
		0: "0x0", 1: "0x1", 9: "0x9", 10: "0xa", 16: "0x10", 255: "0xff", 0xabcdef: "0xabcdef", greatest: "0x40000000", greatest - 1: "0x3fffffff",
		-1: "", greatest + 1: "", math.MaxInt: "", math.MinInt: "", 1 << 32: "", -greatest: "",
	} {
		if got := token.Hex(n); got != want {
			t.Errorf("P10.2: Hex(%d) gives %q, want %q", n, got, want)
		}
	}
}

// someNumber returns a number from 0 to greatest, with any number of bits.
func someNumber(r *rand.Rand) int { return r.IntN(greatest+1) >> r.IntN(31) }

func TestNumbersOfTexts(t *testing.T) {
	r := source(3)
	for range 50000 {
		n := someNumber(r)
		if got, want := token.Hex(n), fmt.Sprintf("0x%x", n); got != want {
			t.Fatalf("P10.2: Hex(%d) gives %q, want %q", n, got, want)
		}
		for _, s := range []string{token.Hex(n), strconv.Itoa(n)} {
			if got, ok := token.Number(s); got != n || !ok {
				t.Fatalf("P10.6: Number(%q) gives %d and %v, want %d", s, got, ok, n)
			}
		}
	}
}
