package field

import (
	"strconv"
	"strings"

	"interlace/api"
)

const (
	digits    = "0123456789abcdef"
	digitBits = 4
	groupSize = wordBits / digitBits // the digits of a word
	dot       = "."
	blank     = " "
	equals    = "="
)

// write appends parts to a text.
func write(b *strings.Builder, parts ...string) {
	for _, s := range parts {
		b.WriteString(s)
	}
}

// Text returns the text of a head.
func Text(h api.Head) string {
	var b strings.Builder
	write(&b, group(h[0]))
	for _, x := range h[1:] {
		write(&b, dot, group(x))
	}
	return b.String()
}

// group returns the digits of a word.
func group(x int) string {
	var b [groupSize]byte
	for i := len(b) - 1; i >= 0; i-- {
		b[i] = digits[x&(len(digits)-1)]
		x >>= digitBits
	}
	return string(b[:])
}

// Parse returns the head with a text.
func Parse(text string) (api.Head, api.Errno) {
	groups := strings.SplitN(text, dot, api.Words+1)
	if len(groups) != api.Words {
		return api.Head{}, api.ErrSyntax
	}
	var h api.Head
	for w, s := range groups {
		x, ok := wordOf(s)
		if !ok {
			return api.Head{}, api.ErrSyntax
		}
		h[w] = x
	}
	return h, api.OK
}

// wordOf returns the word with the digits of a group.
func wordOf(s string) (int, bool) {
	if len(s) != groupSize {
		return 0, false
	}
	x := 0
	for i := range len(s) {
		digit := strings.IndexByte(digits, s[i])
		if digit < 0 {
			return 0, false
		}
		x = x<<digitBits | digit
	}
	return x, true
}

// Show returns the fields of a head.
func Show(l []api.Field, h api.Head) string {
	var b strings.Builder
	write(&b, portName, equals, strconv.Itoa(h[api.WordPort]))
	for _, f := range l {
		write(&b, blank, f.Name, equals, strconv.Itoa(Get(f, h)))
	}
	if tag := h[api.WordTag]; tag != 0 {
		write(&b, blank, tagName, equals, strconv.Itoa(tag))
	}
	return b.String()
}
