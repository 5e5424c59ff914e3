package signs_test

import (
	"fmt"
	"math"
	"slices"
	"strings"
	"testing"

	"standish/api"
	"standish/signs"
)

func ExampleCase() {
	fmt.Println(string(signs.Case([]rune("a-b_c"), api.CasePascal)))
	fmt.Println(string(signs.Case([]rune("a-b_c"), api.CaseCamel)))
	// Output:
	// ABC
	// aBC
}

// bounds are the numbers on both sides of each place where a chapter's rule begins or ends, and the greatest and least numbers there are.
func bounds() []rune {
	out := []rune{math.MinInt32, math.MinInt32 + 1, -32, math.MaxInt32 - 32, math.MaxInt32 - 1, math.MaxInt32}
	for _, r := range []rune{0, 9, 10, 32, '0', '9', 'A', 'Z', '_', 'a', 'z', 0xc0, 0xd7, 0xde, 0xdf, 0xe0, 0xf7, 0xfe, 0xff, 0xd800, 0xdfff, 0x10ffff} {
		out = append(out, r-1, r, r+1)
	}
	return out
}

// everyNumber runs do on every character, on a margin of numbers on both sides, and on the bounds.
func everyNumber(do func(r rune)) {
	for r := rune(-100); r < 0x110064; r++ {
		do(r)
	}
	for _, r := range bounds() {
		do(r)
	}
}

// The letters of P1.2, pair by pair, written out so that they do not repeat the program's ranges.
const (
	smallLetters   = "abcdefghijklmnopqrstuvwxyz" + "àáâãäåæçèéêëìíîïðñòóôõö" + "øùúûüýþ"
	capitalLetters = "ABCDEFGHIJKLMNOPQRSTUVWXYZ" + "ÀÁÂÃÄÅÆÇÈÉÊËÌÍÎÏÐÑÒÓÔÕÖ" + "ØÙÚÛÜÝÞ"
	otherWords     = "0123456789_ßÿ"
)

func wantClass(r rune) int {
	switch {
	case r < 0 || r > 0x10ffff || r >= 0xd800 && r <= 0xdfff:
		return api.ClassNone
	case r == 32 || r == 9:
		return api.ClassBlank
	case r == 10:
		return api.ClassLine
	case r < 0x100 && strings.ContainsRune(smallLetters+capitalLetters+otherWords, r):
		return api.ClassWord
	}
	return api.ClassOther
}

func TestP11May(t *testing.T) {
	for _, s := range [][]rune{nil, {}, []rune("a b\n"), {0}, {0xd7ff}, {0xe000}, {0xfffd}, {0xffff}, {0x10ffff}} {
		if !signs.May(s) {
			t.Errorf("May(%x): false", s)
		}
	}
	for _, bad := range []rune{math.MinInt32, -1, 0xd800, 0xdbff, 0xdc00, 0xdfff, 0x110000, math.MaxInt32} {
		for at := range 3 {
			s := []rune("abc")
			s[at] = bad
			if signs.May(s) {
				t.Errorf("May(%x): true", s)
			}
		}
	}
}

func TestP11MayOfEveryNumber(t *testing.T) {
	everyNumber(func(r rune) {
		if got := signs.May([]rune{r}); got != (wantClass(r) != api.ClassNone) {
			t.Errorf("May of %x: %v", r, got)
		}
	})
}

func TestP11Order(t *testing.T) {
	ascending := [][]rune{
		{}, {math.MinInt32}, {-1}, {-1, 5}, {0}, {0, 0}, {'A'}, {'a'}, {'a', 'a'}, {'a', 'b'}, {'a', 'b', 'a'}, {'b'}, {0xe9}, {0xd800}, {0x10ffff}, {math.MaxInt32}, {math.MaxInt32, -1},
	}
	for i, a := range ascending {
		for k, b := range ascending {
			b = slices.Clone(b)
			if got := signs.Same(a, b); got != (i == k) {
				t.Errorf("Same(%x, %x): %v", a, b, got)
			}
			if got := signs.Less(a, b); got != (i < k) {
				t.Errorf("Less(%x, %x): %v", a, b, got)
			}
		}
	}
}

func TestP11NilIsEmpty(t *testing.T) {
	if !signs.Same(nil, []rune{}) || !signs.Same([]rune{}, nil) || !signs.Same(nil, nil) {
		t.Error("Same: nil and empty texts differ")
	}
	if signs.Less(nil, []rune{}) || signs.Less([]rune{}, nil) || signs.Less(nil, nil) {
		t.Error("Less: nil and empty texts differ")
	}
	if !signs.Less(nil, []rune{-1}) || signs.Less([]rune{-1}, nil) || signs.Same(nil, []rune{0}) {
		t.Error("nil is not less than a text of one element")
	}
}

func TestP12Class(t *testing.T) {
	everyNumber(func(r rune) {
		if got, want := signs.Class(r), wantClass(r); got != want {
			t.Errorf("Class of %x: %d, want %d", r, got, want)
		}
	})
}

func TestP12UpperAndLower(t *testing.T) {
	small, capital := []rune(smallLetters), []rune(capitalLetters)
	if len(small) != 56 || len(capital) != 56 {
		t.Fatalf("%d small letters, %d capital ones", len(small), len(capital))
	}
	upper, lower := map[rune]rune{}, map[rune]rune{}
	for i, s := range small {
		upper[s], lower[capital[i]] = capital[i], s
	}
	everyNumber(func(r rune) {
		wantUpper, wantLower := r, r
		if u, ok := upper[r]; ok {
			wantUpper = u
		}
		if l, ok := lower[r]; ok {
			wantLower = l
		}
		if got := signs.Upper(r); got != wantUpper {
			t.Errorf("Upper of %x: %x, want %x", r, got, wantUpper)
		}
		if got := signs.Lower(r); got != wantLower {
			t.Errorf("Lower of %x: %x, want %x", r, got, wantLower)
		}
	})
}

func TestP13Case(t *testing.T) {
	cases := []struct {
		text string
		how  int
		want string
	}{
		{"aZ é÷ß\n", api.CaseNone, "aZ é÷ß\n"},
		{"aZ é÷ßÿ_9", api.CaseUp, "AZ É÷ßÿ_9"},
		{"aZ É×ß_9", api.CaseDown, "az é×ß_9"},
		{"ab cd", api.CaseCap, "Ab cd"},
		{"aB CD", api.CaseCap, "AB CD"},
		{"éa", api.CaseCap, "Éa"},
		{" ab", api.CaseCap, " ab"},
		{"_ab", api.CaseCap, "_ab"},
		{"a", api.CaseCap, "A"},
		{"a-b_c", api.CasePascal, "ABC"},
		{"foo bar9baz __Qux", api.CasePascal, "FooBar9bazQux"},
		{"fooBAR bAZ", api.CasePascal, "FooBARBAZ"},
		{"  foo\tbar\nbaz.  ", api.CasePascal, "FooBarBaz"},
		{"9a ça÷èa", api.CasePascal, "9aÇaÈa"},
		{"_", api.CasePascal, ""},
		{"a-b_c", api.CaseCamel, "aBC"},
		{"FOO BAR", api.CaseCamel, "fOOBAR"},
		{"-_Foo", api.CaseCamel, "foo"},
		{"Éa Éa éa", api.CaseCamel, "éaÉaÉa"},
		{"9A b", api.CaseCamel, "9AB"},
		{"_A_b_", api.CaseCamel, "aB"},
		{" .-_\n", api.CaseCamel, ""},
	}
	for _, c := range cases {
		if got := string(signs.Case([]rune(c.text), c.how)); got != c.want {
			t.Errorf("Case(%q, %d): %q, want %q", c.text, c.how, got, c.want)
		}
	}
}

func TestP13NamelessHow(t *testing.T) {
	text := []rune{'a', '-', 'B', '_', 0xe9, -1, 0xd800}
	for _, how := range []int{math.MinInt, -1, api.CaseNone, 6, 7, 99, math.MaxInt} {
		if got := signs.Case(text, how); !slices.Equal(got, text) {
			t.Errorf("Case with how %d: %x", how, got)
		}
	}
}

func TestP13NoCharacters(t *testing.T) {
	text := []rune{'a', -1, 'b', 0xd800, 'C', 0x110000, math.MinInt32, math.MaxInt32}
	want := map[int][]rune{
		api.CaseUp:     {'A', -1, 'B', 0xd800, 'C', 0x110000, math.MinInt32, math.MaxInt32},
		api.CaseDown:   {'a', -1, 'b', 0xd800, 'c', 0x110000, math.MinInt32, math.MaxInt32},
		api.CaseCap:    {'A', -1, 'b', 0xd800, 'C', 0x110000, math.MinInt32, math.MaxInt32},
		api.CasePascal: {'A', 'B', 'C'},
		api.CaseCamel:  {'a', 'B', 'C'},
	}
	for how, w := range want {
		if got := signs.Case(text, how); !slices.Equal(got, w) {
			t.Errorf("Case(%x, %d): %x, want %x", text, how, got, w)
		}
	}
}

func TestP13EmptyText(t *testing.T) {
	for how := -1; how <= 7; how++ {
		for _, s := range [][]rune{nil, {}} {
			if got := signs.Case(s, how); len(got) != 0 {
				t.Errorf("Case of an empty text with how %d: %x", how, got)
			}
		}
	}
}

// TestP13CaseCopies is P1.3's copy under R4: neither s nor what stands behind it changes, by the call or by what is done to its result.
func TestP13CaseCopies(t *testing.T) {
	for how := -1; how <= 7; how++ {
		for length := range 6 {
			whole := []rune("a-B_cd")
			got := signs.Case(whole[:length], how)
			if string(whole) != "a-B_cd" {
				t.Errorf("Case with how %d changed its argument to %q", how, string(whole))
			}
			got = got[:cap(got)]
			for i := range got {
				got[i] = '!'
			}
			if string(whole) != "a-B_cd" {
				t.Errorf("the result of Case with how %d shares memory with its argument", how)
			}
		}
	}
}

func TestP14(t *testing.T) {
	everyNumber(func(r rune) {
		upper, both, class := signs.Upper(r), signs.Upper(signs.Lower(r)), signs.Class(r)
		if both != upper {
			t.Errorf("Upper(Lower(%x)): %x, Upper: %x", r, both, upper)
		}
		for _, other := range []rune{upper, both, signs.Lower(r)} {
			if signs.Class(other) != class {
				t.Errorf("%x has class %d, %x has class %d", r, class, other, signs.Class(other))
			}
		}
	})
}
