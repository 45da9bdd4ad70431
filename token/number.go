package token

import (
	"strconv"
	"strings"

	"interlace/api"
)

const (
	hexPrefix    = "0x"
	maxHexDigits = 8
	allDigits    = "0123456789abcdef"
	hexBase      = len(allDigits)
	decimalBase  = 10
)

// Number returns the value of a number.
func Number(s string) (int, bool) {
	if digits, isHex := strings.CutPrefix(s, hexPrefix); isHex {
		if len(digits) > maxHexDigits {
			return 0, false
		}
		return value(digits, hexBase)
	}
	if strings.HasPrefix(s, "0") && s != "0" {
		return 0, false
	}
	return value(s, decimalBase)
}

// value returns the number with some digits, of which there is at least one, if it is not greater than api.MaxNumber.
func value[T string | []byte](digits T, base int) (int, bool) {
	n := 0
	for i := range len(digits) {
		d := strings.IndexByte(allDigits[:base], digits[i])
		n = n*base + d
		if d < 0 || n > api.MaxNumber {
			return 0, false
		}
	}
	return n, len(digits) > 0
}

// Hex returns a number in base 16.
func Hex(n int) string {
	if n < 0 || n > api.MaxNumber {
		return ""
	}
	return hexPrefix + strconv.FormatInt(int64(n), hexBase)
}
