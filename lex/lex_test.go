package lex_test

import (
	"fmt"
	"math"
	"slices"
	"strings"
	"testing"

	"standish/api"
	"standish/lex"
	"standish/signs"
)

func ExampleTokens() {
	s := []rune("${1:ab} ")
	tokens, fault := lex.Tokens(s)
	for _, t := range tokens {
		fmt.Printf("%d %q\n", t.Kind, string(s[t.From:t.To]))
	}
	fmt.Println(fault.Code == api.OK)
	// Output:
	// 36 "$"
	// 123 "{"
	// 1 "1"
	// 58 ":"
	// 2 "ab"
	// 125 "}"
	// 0 " "
	// true
}

// A piece is what a token must be.
type piece struct {
	kind int
	text string
}

func rest(s string) piece   { return piece{api.LexRest, s} }
func number(s string) piece { return piece{api.LexInt, s} }
func name(s string) piece   { return piece{api.LexName, s} }

// mark is one of the characters that are tokens by themselves.
func mark(s string) piece { return piece{int(s[0]), s} }

// marks are such characters, one after the other.
func marks(s string) []piece {
	var l []piece
	for i := range s {
		l = append(l, mark(s[i:i+1]))
	}
	return l
}

// tokensOf are the tokens that the pieces must be, side by side from index 0 on (P13.2), and their text.
func tokensOf(pieces []piece) ([]rune, []api.Token) {
	var s []rune
	var l []api.Token
	for _, p := range pieces {
		from := len(s)
		s = append(s, []rune(p.text)...)
		l = append(l, api.Token{Kind: p.kind, From: from, To: len(s)})
	}
	return s, l
}

// mustSplit is that the text of the pieces is split into them.
func mustSplit(t *testing.T, pieces ...piece) {
	t.Helper()
	s, want := tokensOf(pieces)
	mustBe(t, s, want)
}

// mustBe is that these are the tokens of s.
func mustBe(t *testing.T, s []rune, want []api.Token) {
	t.Helper()
	if got, f := lex.Tokens(s); f != (api.Fault{}) || !slices.Equal(got, want) {
		t.Fatalf("Tokens(%.40q): %v, %v, want %v", string(s), got, f, want)
	}
}

// mustFail is that there is this fault and no token.
func mustFail(t *testing.T, s []rune, code api.Errno, at int) {
	t.Helper()
	if got, f := lex.Tokens(s); f != (api.Fault{Code: code, At: at}) || len(got) != 0 {
		t.Errorf("Tokens(%.40q) of %d elements: %d tokens, %v, want %d at %d", string(s), len(s), len(got), f, code, at)
	}
}

// The alphabets of P13.1, character by character.
const (
	digits  = "0123456789"
	letters = "abcdefghijklmnopqrstuvwxyzABCDEFGHIJKLMNOPQRSTUVWXYZ"
	single  = "${}:|,/\\"
)

// kindAlone tells by these alphabets the kind of the token that a character alone is.
func kindAlone(c rune) int {
	switch {
	case strings.ContainsRune(single, c):
		return int(c)
	case strings.ContainsRune(digits, c):
		return api.LexInt
	case strings.ContainsRune(letters+"_", c):
		return api.LexName
	}
	return api.LexRest
}

// TestP131EveryCharacter is each character alone, twice, and on both sides of one of each kind.
func TestP131EveryCharacter(t *testing.T) {
	for c := rune(0); c <= 0x10ffff; c++ {
		if signs.Class(c) == api.ClassNone {
			mustFail(t, []rune{c}, api.ErrForm, 0)
			continue
		}
		p := piece{kindAlone(c), string(c)}
		twice := []piece{{p.kind, p.text + p.text}}
		behind := []piece{number("1"), p, mark("$"), p, name("b"), mark("}"), rest("-"), p}
		before := []piece{p, number("1"), mark("/"), p, name("b"), mark(":"), p, rest("-")}
		switch p.kind {
		case api.LexRest:
			behind = []piece{number("1"), p, mark("$"), p, name("b"), mark("}"), rest("-" + p.text)}
			before = []piece{p, number("1"), mark("/"), p, name("b"), mark(":"), rest(p.text + "-")}
		case api.LexInt:
			behind = []piece{number("1" + p.text), mark("$"), p, name("b"), mark("}"), rest("-"), p}
			before = []piece{number(p.text + "1"), mark("/"), p, name("b"), mark(":"), p, rest("-")}
		case api.LexName:
			behind = []piece{number("1"), p, mark("$"), name(p.text + "b"), mark("}"), rest("-"), p}
			before = []piece{name(p.text + "1"), mark("/"), name(p.text + "b"), mark(":"), p, rest("-")}
		default:
			twice = []piece{p, p}
		}
		mustSplit(t, p)
		mustSplit(t, twice...)
		mustSplit(t, behind...)
		mustSplit(t, before...)
	}
}

// TestP131Single is that the eight characters are tokens by themselves, whatever stands beside them.
func TestP131Single(t *testing.T) {
	if want := "[36 123 125 58 124 44 47 92]"; fmt.Sprint([]rune(single)) != want {
		t.Fatalf("the characters are %v, want %s", []rune(single), want)
	}
	mustSplit(t, marks(single)...)
	for _, a := range single {
		mustSplit(t, marks(strings.Repeat(string(a), 9))...)
		for _, b := range single {
			mustSplit(t, marks(string(a)+string(b))...)
			mustSplit(t, mark(string(a)), name("n1"), mark(string(b)), number("12"), mark(string(a)), rest("- "), mark(string(b)))
		}
	}
	mustSplit(t, mark("\\"), mark("$"), number("1"), mark("\\"), mark("\\"), mark("\\"), name("n")) // a backslash escapes nothing
}

func TestP131Ints(t *testing.T) {
	for _, s := range []string{"0", "1", "9", "00", "007", "10", "999", "1000", digits, strings.Repeat("9", 30), strings.Repeat("0", 600)} {
		mustSplit(t, number(s))
	}
	mustSplit(t, number("1"), name("a"))
	mustSplit(t, number("1"), name("_"), rest(" "), number("1"), name("e5"))
	mustSplit(t, number("0"), name("x1F"))
	mustSplit(t, number("1"), rest("."), number("5"), mark(","), number("6"))
	mustSplit(t, rest("-"), number("1"), rest("+"), number("2"))
	mustSplit(t, number("1"), rest("²"), number("2"), rest("½"))
	mustSplit(t, number("12"), name("ab12_34"), rest("é"), number("34"), name("c"))
}

func TestP131Names(t *testing.T) {
	for _, s := range []string{"a", "z", "A", "Z", "_", "__", "a1", "_1", "a1_b", "_0_", "TM_FILENAME", "a007b", letters, letters + digits + "_", strings.Repeat("n", 33), strings.Repeat("_9", 300)} {
		mustSplit(t, name(s))
	}
	mustSplit(t, name("a"), rest(" "), name("b"))
	mustSplit(t, name("a"), rest("-"), name("b1"), rest("."), name("c"))
	mustSplit(t, mark("$"), name("a1"), rest(" "))
	mustSplit(t, number("1"), name("a1"), mark(":"), number("1"), name("a1"))
}

// TestP131LettersOfOtherAlphabets is that what signs or other alphabets count as letters and digits is not what names and numbers have.
func TestP131LettersOfOtherAlphabets(t *testing.T) {
	for _, s := range []string{"é", "À", "ÿ", "ß", "×", "÷", "ª", "µ", "²", "¼", "ı", "\u017f", "\u212a", "α", "я", "文", "١", "१", "１", "Ａ", "＿", "‿", "𝟏", "𝐚", "\u0301", "\u200d"} {
		mustSplit(t, rest(s))
		mustSplit(t, rest(s+s))
		mustSplit(t, name("a"), rest(s), name("b"), mark("{"), number("1"), rest(s), number("2"), mark("}"), rest("-"+s+" "))
	}
	mustSplit(t, name("caf"), rest("é"))
	mustSplit(t, name("na"), rest("ï"), name("ve_"), rest("Ü"), name("b1"))
}

// TestP131LookAlikes is that what looks like the eight characters, or is near them, is not one of them.
func TestP131LookAlikes(t *testing.T) {
	for _, s := range []string{"#", "%", "`", "@", "[", "]", "^", "~", ";", "+", "-", ".", "?", "!", "&", "(", ")", "*", "\"", "'", "<", "=", ">", "＄", "｛", "｝", "：", "｜", "，", "／", "＼", "€", "¦", "⁄", "\ufffd"} {
		mustSplit(t, mark("$"), rest(s), mark("{"), rest(s+s), name("a"), rest(s), number("1"), rest(s))
	}
}

func TestP131Rests(t *testing.T) {
	for _, s := range []string{" ", "\t", "\n", "\x00", "\r\n", " \n\u00e9-+\u00e9", "()[]<>", "\x7f\u0080", "\ud7ff\ue000", "\U0010ffff\U00010000\uffff\ufffe\ufffd\ufeff", strings.Repeat("-", 600)} {
		mustSplit(t, rest(s))
		if len(s) < 100 {
			mustSplit(t, name("a"), rest(s), mark("|"), rest(s), number("5"), rest(s), mark("|"), mark("|"), rest(s))
		}
	}
}

// TestP131Full is ErrFull, ahead of ErrForm wherever that would be.
func TestP131Full(t *testing.T) {
	if api.MaxSnip != 600 {
		t.Fatalf("MaxSnip is %d", api.MaxSnip)
	}
	for _, unit := range []rune{'a', '1', '_', '-', '$', '\\', '\n', 'é', 0x10ffff, -1, 0xd800, 0x110000} {
		for _, n := range []int{601, 602, 1200, 100000} {
			mustFail(t, slices.Repeat([]rune{unit}, n), api.ErrFull, 600)
		}
	}
	long := slices.Repeat([]rune{'a'}, 601)
	for at := range long {
		bad := slices.Clone(long)
		bad[at] = -1
		mustFail(t, bad, api.ErrFull, 600)
		if at < 600 {
			mustFail(t, bad[:600], api.ErrForm, at)
		}
	}
}

// TestP131LongestTexts is of MaxSnip elements and of nearly as many.
func TestP131LongestTexts(t *testing.T) {
	for n := 597; n <= 600; n++ {
		for _, c := range single {
			mustSplit(t, marks(strings.Repeat(string(c), n))...)
		}
		mustSplit(t, append([]piece{name(strings.Repeat("a", n-1))}, mark("}"))...)
		mustSplit(t, append(marks(strings.Repeat("$", n-1)), name("a"))...)
		mustSplit(t, append(marks(strings.Repeat("$", n-1)), number("1"))...)
		mustSplit(t, append(marks(strings.Repeat("$", n-1)), rest("é"))...)
		mustSplit(t, name("a"+strings.Repeat("1", n-1)))
		mustSplit(t, number(strings.Repeat("1", n-1)), name("a"))
		mustSplit(t, rest(strings.Repeat("文", n)))
	}
}

// TestP131NoCharacters is ErrForm at the first of them, wherever it stands and whatever else stands there.
func TestP131NoCharacters(t *testing.T) {
	for _, bad := range []rune{math.MinInt32, -2, -1, 0xd800, 0xdbff, 0xdc00, 0xdfff, 0x110000, math.MaxInt32, -'$', -'a', '$' + math.MinInt32} {
		for _, text := range []string{"abcdef", "123456", "------", "$$$$$$", "${1:a}", "a1_-{}", "\\\\\\\\\\\\"} {
			for at := range 6 {
				s := []rune(text)
				s[at], s[5] = bad, -1
				mustFail(t, s, api.ErrForm, at)
				s[5] = 0xdfff
				mustFail(t, append(s[:at:at], bad), api.ErrForm, at)
				mustFail(t, append([]rune{bad}, s...), api.ErrForm, 0)
			}
		}
	}
}

// TestP131NilAndEmpty is R3.
func TestP131NilAndEmpty(t *testing.T) {
	for _, s := range [][]rune{nil, {}, []rune("abc")[:0], []rune("abc")[3:]} {
		mustBe(t, s, nil)
	}
}

// TestP131OwnMemory is R4, R5 and R10: what stands behind a text plays no part, no call changes it, and results share no memory.
func TestP131OwnMemory(t *testing.T) {
	const written = "${1:ab|c,d|}/\\12 x1é-y$${_}a1"
	whole := []rune(written)
	for from := range len(whole) + 1 {
		for to := from; to <= len(whole); to++ {
			cut, f := lex.Tokens(whole[from:to])
			alone, g := lex.Tokens(slices.Clip(slices.Clone(whole[from:to])))
			if f != g || !slices.Equal(cut, alone) || string(whole) != written {
				t.Fatalf("Tokens(%q) with more behind it: %v, %v, alone: %v, %v; the text is %q", string(whole[from:to]), cut, f, alone, g, string(whole))
			}
		}
	}
	spare := append([]rune("a1"), -1, 0xd800)
	mustBe(t, spare[:2], []api.Token{{Kind: api.LexName, From: 0, To: 2}})
	first, _ := lex.Tokens(whole)
	second, _ := lex.Tokens(whole)
	before := slices.Clone(first)
	for i := range second[:cap(second)] {
		second[:cap(second)][i] = api.Token{Kind: -1, From: -1, To: -1}
	}
	third, _ := lex.Tokens(whole)
	if string(whole) != written || !slices.Equal(first, before) || !slices.Equal(third, before) {
		t.Errorf("results share memory: %v, %v, want %v; the text is %q", first, third, before, string(whole))
	}
}
