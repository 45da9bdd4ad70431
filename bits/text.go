package bits

import (
	"strings"

	"interlace/api"
)

// Range returns patterns for the numbers from lo to hi: each is the greatest block that begins where the one before it
// ends, so that there are as few as possible.
func Range(at, width, lo, hi int) ([]api.Pattern, api.Errno) {
	if width < 1 || width > wordBits || at < 0 || at > Bits-width || at%wordBits+width > wordBits {
		return nil, api.ErrArg
	}
	if lo < 0 || lo > hi || hi >= 1<<width {
		return nil, api.ErrArg
	}
	var l []api.Pattern
	shift := wordBits - at%wordBits - width
	for lo <= hi {
		size := block(lo, hi)
		var p api.Pattern
		p.Mask[at/wordBits] = (1<<width - size) << shift
		p.Bits[at/wordBits] = lo << shift
		l = append(l, p)
		lo += size
	}
	return l, api.OK
}

// block returns the size of the greatest block of numbers with a common prefix that begins at lo and does not go beyond
// hi.
func block(lo, hi int) int {
	size := 1
	for lo%(2*size) == 0 && lo+2*size-1 <= hi {
		size *= 2
	}
	return size
}

const (
	digits    = "0123456789abcdef"
	wordTexts = 4 // the digits of a word
	freeWord  = "*"
	blank     = " "
	slash     = "/"
)

// Text returns the text of a pattern.
func Text(p api.Pattern) string {
	var b strings.Builder
	for w, mask := range p.Mask {
		if w > 0 {
			b.WriteString(blank)
		}
		b.WriteString(wordText(mask, p.Bits[w]))
	}
	return b.String()
}

func wordText(mask, set int) string {
	switch mask {
	case 0:
		return freeWord
	case maxWord:
		return hex(set)
	}
	return hex(set) + slash + hex(mask)
}

// hex returns the four digits of a word.
func hex(x int) string {
	var b [wordTexts]byte
	for i := range b {
		b[i] = digits[x>>(4*(wordTexts-1-i))&15]
	}
	return string(b[:])
}

// Parse returns the pattern with a text. What is no text is read as some pattern, too, but as one with another text.
func Parse(s string) (api.Pattern, api.Errno) {
	var p api.Pattern
	words := strings.SplitN(s, blank, api.Words+1)
	if len(words) != api.Words {
		return api.Pattern{}, api.ErrSyntax
	}
	for w, text := range words {
		p.Mask[w], p.Bits[w] = wordOf(text)
	}
	if !Right(p) || Text(p) != s {
		return api.Pattern{}, api.ErrSyntax
	}
	return p, api.OK
}

// wordOf reads a word of a text.
func wordOf(text string) (mask, set int) {
	if text == freeWord {
		return 0, 0
	}
	first, second, found := strings.Cut(text, slash)
	if !found {
		return maxWord, number(first)
	}
	return number(second), number(first)
}

// number reads digits; with other characters, or too many digits, it returns any number.
func number(text string) int {
	n := 0
	for i := range len(text) {
		n = n*len(digits) + strings.IndexByte(digits, text[i])
	}
	return n
}
