package lex_test

import (
	"math/rand"
	"regexp"
	"strings"
	"testing"
	"unicode/utf8"

	"standish/api"
	"standish/lex"
)

// modelToken finds the next token by the library's expressions: its groups are a single character, an int, a name and a rest.
var modelToken = regexp.MustCompile(`^(?:([\x{24}\x{7b}\x{7d}\x{3a}\x{7c}\x{2c}\x{2f}\x{5c}])|([0-9]+)|([a-zA-Z_][a-zA-Z0-9_]*)|([^\x{24}\x{7b}\x{7d}\x{3a}\x{7c}\x{2c}\x{2f}\x{5c}0-9a-zA-Z_]+))`)

// modelTokens is what P13.1 says of a text of characters.
func modelTokens(s string) []api.Token {
	var l []api.Token
	for at := 0; s != ""; {
		groups := modelToken.FindStringSubmatch(s)
		n := utf8.RuneCountInString(groups[0])
		kind := api.LexRest
		switch {
		case groups[1] != "":
			kind = int(s[0])
		case groups[2] != "":
			kind = api.LexInt
		case groups[3] != "":
			kind = api.LexName
		}
		l = append(l, api.Token{Kind: kind, From: at, To: at + n})
		s, at = s[len(groups[0]):], at+n
	}
	return l
}

// everyText runs do on all texts of up to n elements of an alphabet, behind a head.
func everyText(head, alphabet string, n int, do func(s string)) {
	do(head)
	if n == 0 {
		return
	}
	for _, c := range alphabet {
		everyText(head+string(c), alphabet, n-1, do)
	}
}

// TestP131AllShortTexts holds every short text of some alphabets to the model.
func TestP131AllShortTexts(t *testing.T) {
	cases := []struct {
		alphabet string
		n        int
	}{
		{"a1-$", 7},
		{"aZ_09", 6},
		{"${}:|,/\\a1 ", 5},
		{"éa1_ \n.$", 5},
		{"@AZ[^`az{/09:#$%+,-|}~_\\]", 3},
	}
	for _, c := range cases {
		everyText("", c.alphabet, c.n, func(s string) { mustBe(t, []rune(s), modelTokens(s)) })
	}
}

// anyText returns a text of at most most of some pieces, but of no more than MaxSnip elements.
func anyText(rnd *rand.Rand, most int) string {
	pieces := []string{"$", "{", "}", ":", "|", ",", "/", "\\", "1", "007", "a", "_", "TM_LINE", "x1", "é", " ", "\n", "-+", "文字", "${1:", "${2|a,b|}", "${x/(a)/$1/gi}", "\\$", "\U0001f600", "\x00", "\ufffd"}
	var s []rune
	for range rnd.Intn(most + 1) {
		s = append(s, []rune(pieces[rnd.Intn(len(pieces))])...)
	}
	return string(s[:min(len(s), api.MaxSnip)])
}

// TestP131AnyText holds longer texts to the model.
func TestP131AnyText(t *testing.T) {
	rnd := rand.New(rand.NewSource(13))
	for i := range 20000 {
		most := 20
		if i%10 == 0 {
			most = 600
		}
		s := anyText(rnd, most)
		mustBe(t, []rune(s), modelTokens(s))
	}
}

// TestP132SideBySide is P13.2 in its own words, for every short text and for longer ones.
func TestP132SideBySide(t *testing.T) {
	side := func(s string) {
		l, f := lex.Tokens([]rune(s))
		if f.Code != api.OK {
			t.Fatalf("Tokens(%q): %v", s, f)
		}
		end := 0
		for _, token := range l {
			if token.From != end || token.To <= token.From {
				t.Fatalf("Tokens(%q): %v", s, l)
			}
			end = token.To
		}
		if end != len([]rune(s)) {
			t.Fatalf("Tokens(%q): %v, of %d elements", s, l, len([]rune(s)))
		}
	}
	everyText("", "${1a_-é\\", 5, side)
	rnd := rand.New(rand.NewSource(132))
	for range 5000 {
		side(anyText(rnd, 100))
	}
	side(strings.Repeat("文1", 300))
}
