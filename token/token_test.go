package token_test

import (
	"fmt"
	"math/rand/v2"
	"regexp"
	"slices"
	"strings"
	"testing"

	"interlace/api"
	"interlace/token"
)

// wordList is the list of the chapter.
const wordList = "and, any, at, back, box, burst, by, capacity, ceiling, check, contract, count, demand, drop, each, edge, entries, false, field, floor, from, id, in, inner, into, link, network, node, not, open, or, path, port, price, route, rules, stage, take, tenant, then, time, to, token, translate, true, via, width, wire, within"

func chapterWords() []string { return strings.Split(wordList, ", ") }

// A second way to tokens: regular expressions over sources whose bytes are written as runes from 0 to 255.
var (
	gapForm    = regexp.MustCompile(`^(?:[ \t\r\n]|#[^\n]*)*`)
	letterForm = regexp.MustCompile(`^[a-z][a-z0-9_]*`)
	digitForm  = regexp.MustCompile(`^[0-9][a-z0-9_]*`)
	signForm   = regexp.MustCompile(`^(?::=|\.\.|->|[()\[\]{},;:.=+*/|])`)
	strangeOne = regexp.MustCompile(`^(?s:.)`)
	decimal    = regexp.MustCompile(`^(?:0|[1-9][0-9]{0,9})$`)
	hex        = regexp.MustCompile(`^0x[0-9a-f]{1,8}$`)
)

func latin(source string) string {
	var b strings.Builder
	for i := range len(source) {
		b.WriteRune(rune(source[i]))
	}
	return b.String()
}

func bytesOf(text string) string {
	var b []byte
	for _, r := range text {
		b = append(b, byte(r))
	}
	return string(b)
}

// valueOf returns the value of a number.
func valueOf(s string) (int, bool) {
	n := 0
	switch {
	case decimal.MatchString(s):
		fmt.Sscanf(s, "%d", &n)
	case hex.MatchString(s):
		fmt.Sscanf(s, "0x%x", &n)
	default:
		return 0, false
	}
	if n > 1<<30 {
		return 0, false
	}
	return n, true
}

// expected returns the tokens of a source.
func expected(source string) []api.Token {
	var l []api.Token
	rest := latin(source)
	used := ""
	take := func(text string) string {
		used += text
		rest = rest[len(text):]
		return text
	}
	add := func(kind, n int, text string) {
		lines := strings.Split(used, "\n")
		column := len(bytesOf(lines[len(lines)-1])) + 1
		l = append(l, api.Token{Kind: kind, N: n, Text: bytesOf(text), Line: len(lines), Column: column})
	}
	for {
		take(gapForm.FindString(rest))
		if rest == "" {
			add(api.TokEnd, 0, "")
			return l
		}
		var text string
		if text = letterForm.FindString(rest); text != "" {
			switch {
			case slices.Contains(chapterWords(), text):
				add(api.TokWord, 0, text)
			case len(text) <= 24:
				add(api.TokName, 0, text)
			default:
				add(api.TokBad, 0, text)
			}
		} else if text = digitForm.FindString(rest); text != "" {
			if n, ok := valueOf(text); ok {
				add(api.TokNumber, n, text)
			} else {
				add(api.TokBad, 0, text)
			}
		} else if text = signForm.FindString(rest); text != "" {
			add(api.TokSign, 0, text)
		} else {
			text = strange(rest)
			add(api.TokBad, 0, text)
		}
		take(text)
	}
}

// strange returns the bytes with which nothing else begins.
func strange(rest string) string {
	text := ""
	for rest != "" {
		for _, form := range []*regexp.Regexp{letterForm, digitForm, signForm, gapForm} {
			if form.FindString(rest) != "" {
				return text
			}
		}
		one := strangeOne.FindString(rest)
		text += one
		rest = rest[len(one):]
	}
	return text
}

func source(seed uint64) *rand.Rand { return rand.New(rand.NewPCG(seed, 10)) }

// pieces are what random sources are made of.
var pieces = []string{
	"a", "z", "_", "0", "9", "1", "x", "0x", "0xf", "f", "g", "-", ">", "->", ":", "=", ":=", ".", "..", "(", ")", "[", "]",
	"{", "}", ",", ";", "+", "*", "/", "|", " ", "\t", "\r", "\n", "\n\n", "#", "# x", "A", "Z", "@", "[", "`", "~", "\x00",
	"\x7f", "\x80", "\xff", "é", "\v", "\f", "\u00a0", "port", "stage", "within", "and", "1073741824", "1073741825",
	"0x40000000", "0x40000001", "0x00000000", "0x000000001", "99999999999999999999", "abcdefghijklmnopqrstuvwx",
	"abcdefghijklmnopqrstuvwxy", "<", "!", "&", "\"", "'", "$", "%", "?", "\\", "^",
}

func someSource(r *rand.Rand) string {
	var b strings.Builder
	for range r.IntN(30) {
		b.WriteString(pieces[r.IntN(len(pieces))])
	}
	return b.String()
}

// tokensOf returns the tokens of a source that is not too long.
func tokensOf(t *testing.T, source string) []api.Token {
	t.Helper()
	l, e := token.Tokens(source)
	if e != api.OK {
		t.Fatalf("P10.1: Tokens(%.60q) of %d bytes gives the error %d", source, len(source), e)
	}
	return l
}

func checkSource(t *testing.T, source string) {
	t.Helper()
	if got, want := tokensOf(t, source), expected(source); !slices.Equal(got, want) {
		t.Fatalf("P10.1: Tokens(%q) gives\n%v, want\n%v", source, got, want)
	}
}

func tok(kind int, text string, line, column int) api.Token {
	return api.Token{Kind: kind, Text: text, Line: line, Column: column}
}

func num(n int, text string, line, column int) api.Token {
	return api.Token{Kind: api.TokNumber, N: n, Text: text, Line: line, Column: column}
}

func TestChapterSources(t *testing.T) {
	const name, word, sign, bad, end = api.TokName, api.TokWord, api.TokSign, api.TokBad, api.TokEnd
	long := strings.Repeat("a", 24)
	for source, want := range map[string][]api.Token{
		"":                   {tok(end, "", 1, 1)},
		"port x_1 := 0x1f":   {tok(word, "port", 1, 1), tok(name, "x_1", 1, 6), tok(sign, ":=", 1, 10), num(31, "0x1f", 1, 13), tok(end, "", 1, 17)},
		"a # b\n5..9":        {tok(name, "a", 1, 1), num(5, "5", 2, 1), tok(sign, "..", 2, 2), num(9, "9", 2, 4), tok(end, "", 2, 5)},
		"007 x->1 - 0x":      {tok(bad, "007", 1, 1), tok(name, "x", 1, 5), tok(sign, "->", 1, 6), num(1, "1", 1, 8), tok(bad, "-", 1, 10), tok(bad, "0x", 1, 12), tok(end, "", 1, 14)},
		"A":                  {tok(bad, "A", 1, 1), tok(end, "", 1, 2)},
		"a...b":              {tok(name, "a", 1, 1), tok(sign, "..", 1, 2), tok(sign, ".", 1, 4), tok(name, "b", 1, 5), tok(end, "", 1, 6)},
		"A--->b":             {tok(bad, "A--", 1, 1), tok(sign, "->", 1, 4), tok(name, "b", 1, 6), tok(end, "", 1, 7)},
		"_a":                 {tok(bad, "_", 1, 1), tok(name, "a", 1, 2), tok(end, "", 1, 3)},
		"0x1F":               {num(1, "0x1", 1, 1), tok(bad, "F", 1, 4), tok(end, "", 1, 5)},
		">#>\n\n>\r\t ":      {tok(bad, ">", 1, 1), tok(bad, ">", 3, 1), tok(end, "", 3, 5)},
		"\n#":                {tok(end, "", 2, 2)},
		"::==:=":             {tok(sign, ":", 1, 1), tok(sign, ":=", 1, 2), tok(sign, "=", 1, 4), tok(sign, ":=", 1, 5), tok(end, "", 1, 7)},
		"é\xff\x00 ports":    {tok(bad, "é\xff\x00", 1, 1), tok(name, "ports", 1, 6), tok(end, "", 1, 11)},
		long + " " + long:    {tok(name, long, 1, 1), tok(name, long, 1, 26), tok(end, "", 1, 50)},
		long + "_\n1a":       {tok(bad, long+"_", 1, 1), tok(bad, "1a", 2, 1), tok(end, "", 2, 3)},
		"-":                  {tok(bad, "-", 1, 1), tok(end, "", 1, 2)},
		"1073741824":         {num(1<<30, "1073741824", 1, 1), tok(end, "", 1, 11)},
		"a#\n#b":             {tok(name, "a", 1, 1), tok(end, "", 2, 3)},
		"@#a\n@":             {tok(bad, "@", 1, 1), tok(bad, "@", 2, 1), tok(end, "", 2, 2)},
		"0x40000001 0x0.0_0": {tok(bad, "0x40000001", 1, 1), num(0, "0x0", 1, 12), tok(sign, ".", 1, 15), tok(bad, "0_0", 1, 16), tok(end, "", 1, 19)},
	} {
		if got := tokensOf(t, source); !slices.Equal(got, want) {
			t.Errorf("P10.1: Tokens(%q) gives\n%v, want\n%v", source, got, want)
		}
		checkSource(t, source)
	}
}

func TestEachPairOfBytes(t *testing.T) {
	for a := range 256 {
		for b := range 256 {
			pair := string([]byte{byte(a), byte(b)})
			checkSource(t, pair)
			checkSource(t, "a"+pair+"1"+pair)
		}
	}
}

func TestRandomSources(t *testing.T) {
	r := source(1)
	for range 20000 {
		checkSource(t, someSource(r))
	}
}

func TestLongSources(t *testing.T) {
	for _, piece := range []string{"a", "1", "A", "_", "\n", "#", "-", ">", "a1\n", ".", "-.", "_a", "# \n", " ", "and "} {
		source := strings.Repeat(piece, token.MaxSource/len(piece))
		source += strings.Repeat(" ", token.MaxSource-len(source))
		l := tokensOf(t, source)
		if last := l[len(l)-1]; last.Kind != api.TokEnd || last.Text != "" {
			t.Errorf("P10.1: the tokens of many %q end with %v", piece, last)
		}
		if line := l[len(l)-1].Line; line != strings.Count(source, "\n")+1 {
			t.Errorf("P10.1: many %q end in the line %d", piece, line)
		}
		if l, e := token.Tokens(source + " "); l != nil || e != api.ErrLimit {
			t.Errorf("P10.1: a source of %d bytes gives %d tokens and the error %d, want none and %d", len(source)+1, len(l), e, api.ErrLimit)
		}
	}
	if l, e := token.Tokens(strings.Repeat("@", 1<<20)); l != nil || e != api.ErrLimit {
		t.Errorf("P10.1: a source of 2^20 bytes gives %d tokens and the error %d", len(l), e)
	}
	if token.MaxSource != 60000 {
		t.Errorf("P10.1: MaxSource is %d", token.MaxSource)
	}
}

func TestWords(t *testing.T) {
	want := chapterWords()
	got := token.Words()
	if !slices.Equal(got, want) || !slices.IsSorted(got) {
		t.Errorf("P10.1: Words() gives %q, want %q", got, want)
	}
	for i := range got {
		got[i] = "changed"
	}
	if again := token.Words(); !slices.Equal(again, want) {
		t.Errorf("P10.1: Words() gives %q after its result was changed", again)
	}
	for _, w := range want {
		for text, kind := range map[string]int{w: api.TokWord, w + "s": api.TokName, w[:len(w)-1]: api.TokName, w + "_": api.TokName, "x" + w: api.TokName} {
			if slices.Contains(want, text) {
				kind = api.TokWord
			}
			if l := tokensOf(t, text); len(l) != 2 || l[0].Kind != kind {
				t.Errorf("P10.1: Tokens(%q) gives %v", text, l)
			}
		}
	}
}

func TestNewMemory(t *testing.T) {
	const text = "port x := 1 @"
	l := tokensOf(t, text)
	clear(l)
	if again := tokensOf(t, text); !slices.Equal(again, expected(text)) {
		t.Errorf("P10.1: Tokens(%q) gives %v after an earlier result was changed", text, again)
	}
}

func TestName(t *testing.T) {
	check := func(s string) {
		l := expected(s)
		if want := l[0].Kind == api.TokName && l[0].Text == s; token.Name(s) != want {
			t.Errorf("P10.2: Name(%q) gives %v", s, !want)
		}
	}
	for s, want := range map[string]bool{
		"": false, "a": true, "z9_": true, "port": false, "ports": true, "a b": false, " a": false, "a ": false, "a\n": false, "9a": false, "_a": false,
		"A": false, "aB": false, "aé": false, "a\xff": false, "a.b": false, "a#": false, "within": false, "x": true, "0": false, "tag": true,
		strings.Repeat("z", 24): true, strings.Repeat("z", 25): false, strings.Repeat("z", 1<<16): false, strings.Repeat("z", 23) + "-": false,
	} {
		if token.Name(s) != want {
			t.Errorf("P10.2: Name(%.40q) gives %v", s, !want)
		}
		check(s)
	}
	for _, s := range append(chapterWords(), pieces...) {
		for _, u := range append(chapterWords(), pieces...) {
			check(s)
			check(s + u)
		}
	}
}

func TestJoin(t *testing.T) {
	given := []api.Token{tok(api.TokName, "a", 1, 1), tok(api.TokEnd, "end", 0, 0), num(7, "x y", 2, 2), {}, tok(api.TokBad, "@", 0, 0), tok(-9, "\n", 5, 5), tok(api.TokEnd, "", 1, 1)}
	kept := slices.Clone(given)
	if got, want := token.Join(given), "a x y  @ \n"; got != want {
		t.Errorf("P10.3: Join gives %q, want %q", got, want)
	}
	if !slices.Equal(given, kept) {
		t.Errorf("P10.3: Join changes its argument to %v", given)
	}
	for _, l := range [][]api.Token{nil, {}, {tok(api.TokEnd, "x", 1, 1)}, tokensOf(t, " # a\n")} {
		if got := token.Join(l); got != "" {
			t.Errorf("P10.3: Join(%v) gives %q", l, got)
		}
	}
	if got := token.Join(tokensOf(t, "a.b  # c\n:=1")); got != "a . b := 1" {
		t.Errorf("P10.3: Join gives %q", got)
	}
}

func TestBetweenTokens(t *testing.T) {
	r := source(4)
	for range 5000 {
		text := someSource(r)
		lines := strings.SplitAfter(text, "\n")
		before := func(line, column int) string { return strings.Join(lines[:line-1], "") + lines[line-1][:column-1] }
		at := 0
		for _, x := range tokensOf(t, text) {
			begin := len(before(x.Line, x.Column))
			between := text[at:begin]
			if gapForm.FindString(between) != between {
				t.Fatalf("P10.4: %q is between tokens of %q", between, text)
			}
			at = begin + len(x.Text)
			if text[begin:at] != x.Text || strings.Contains(x.Text, "\n") {
				t.Fatalf("P10.4: %v is no token of %q", x, text)
			}
		}
		if at != len(text) {
			t.Fatalf("P10.4: the tokens of %q end at %d", text, at)
		}
	}
}

func TestErrorsAreLocal(t *testing.T) {
	r := source(5)
	for range 5000 {
		a, b := someSource(r), someSource(r)
		want := tokensOf(t, a)
		want = want[:len(want)-1]
		for _, x := range tokensOf(t, b) {
			x.Line += strings.Count(a, "\n") + 1
			want = append(want, x)
		}
		if got := tokensOf(t, a+"\n"+b); !slices.Equal(got, want) {
			t.Fatalf("P10.5: Tokens(%q) gives\n%v, want\n%v", a+"\n"+b, got, want)
		}
	}
}

// placeless returns tokens without their places.
func placeless(l []api.Token) []api.Token {
	l = slices.Clone(l)
	for i := range l {
		l[i].Line, l[i].Column = 0, 0
	}
	return l
}

func bad(x api.Token) bool { return x.Kind == api.TokBad }

func TestJoinedTokens(t *testing.T) {
	r := source(6)
	good := slices.DeleteFunc(slices.Clone(pieces), func(s string) bool { return slices.ContainsFunc(expected(s), bad) })
	count := 0
	for range 20000 {
		var b strings.Builder
		for range r.IntN(20) {
			b.WriteString(good[r.IntN(len(good))])
		}
		l := tokensOf(t, b.String())
		if slices.ContainsFunc(l, bad) {
			continue
		}
		count++
		again := tokensOf(t, token.Join(l))
		var spread strings.Builder
		for _, x := range l {
			for range 1 + r.IntN(3) {
				spread.WriteString([]string{" ", "\t", "\r", "\n", "#@_\xff\n"}[r.IntN(5)])
			}
			spread.WriteString(x.Text)
		}
		for _, got := range [][]api.Token{again, tokensOf(t, spread.String())} {
			if !slices.Equal(placeless(got), placeless(l)) {
				t.Fatalf("P10.6: %v joined gives %v", l, got)
			}
		}
	}
	if count < 5000 {
		t.Errorf("P10.6: only %d sources without bad tokens", count)
	}
}
