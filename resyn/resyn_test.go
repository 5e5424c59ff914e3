package resyn_test

import (
	"fmt"
	"math"
	"slices"
	"strings"
	"testing"

	"standish/api"
	"standish/resyn"
	"standish/signs"
)

func ExampleParse() {
	tree, fault := resyn.Parse([]rune("a|b"))
	for _, node := range tree {
		fmt.Printf("%d %d %q\n", node.Deep, node.Kind, string(node.Set))
	}
	fmt.Println(fault.Code == api.OK)
	// Output:
	// 0 1 ""
	// 1 0 ""
	// 2 2 "aa"
	// 1 0 ""
	// 2 2 "bb"
	// true
}

// The nodes of the trees that must be returned.

func seq(deep int) api.Re { return api.Re{Kind: api.ReSeq, Deep: deep} }

func alt(deep int) api.Re { return api.Re{Kind: api.ReAlt, Deep: deep} }

func start(deep int) api.Re { return api.Re{Kind: api.ReStart, Deep: deep} }

func stop(deep int) api.Re { return api.Re{Kind: api.ReEnd, Deep: deep} }

func group(deep, number int) api.Re { return api.Re{Kind: api.ReGroup, Deep: deep, Lo: number} }

func set(deep int, ranges string) api.Re {
	return api.Re{Kind: api.ReSet, Deep: deep, Set: []rune(ranges)}
}

func not(re api.Re) api.Re {
	re.Not = true
	return re
}

func rep(deep, low, high int) api.Re {
	return api.Re{Kind: api.ReRep, Deep: deep, Lo: low, Hi: high}
}

func lazy(re api.Re) api.Re {
	re.Lazy = true
	return re
}

// mustParse is that a pattern has this tree.
func mustParse(t *testing.T, pattern string, want ...api.Re) {
	t.Helper()
	got, f := resyn.Parse([]rune(pattern))
	if f != (api.Fault{}) || fmt.Sprint(got) != fmt.Sprint(want) {
		t.Errorf("Parse(%q): %v, %v, want %v", pattern, got, f, want)
	}
}

// mustAccept is that a text is a pattern.
func mustAccept(t *testing.T, pattern string) {
	t.Helper()
	if got, f := resyn.Parse([]rune(pattern)); f != (api.Fault{}) || len(got) == 0 {
		t.Errorf("Parse(%q): %d nodes, %v", pattern, len(got), f)
	}
}

// mustFail is that a text has this fault, and no tree.
func mustFail(t *testing.T, pattern string, code api.Errno, at int) {
	t.Helper()
	if got, f := resyn.Parse([]rune(pattern)); f != (api.Fault{Code: code, At: at}) || len(got) != 0 {
		t.Errorf("Parse(%q): %d nodes, %v, want %d at %d", pattern, len(got), f, code, at)
	}
}

func TestP81TooLong(t *testing.T) {
	if api.MaxPattern != 60 {
		t.Fatalf("MaxPattern is %d", api.MaxPattern)
	}
	for _, unit := range []string{"a", "*", "(", ")", "|", "é", "\n"} {
		for _, n := range []int{61, 62, 1000} {
			mustFail(t, strings.Repeat(unit, n), api.ErrFull, 60)
		}
	}
	long := []rune(strings.Repeat("a", 60) + "b")
	for at := range long { // ErrFull comes first
		bad := slices.Clone(long)
		bad[at] = -1
		if _, f := resyn.Parse(bad); f != (api.Fault{Code: api.ErrFull, At: 60}) {
			t.Errorf("no character at %d of 61: %v", at, f)
		}
	}
	mustAccept(t, strings.Repeat("a", 60))
	mustAccept(t, strings.Repeat("|", 60))
	mustFail(t, strings.Repeat("a", 59)+"(", api.ErrSyntax, 60)
	mustFail(t, strings.Repeat("a", 59)+")", api.ErrSyntax, 59)
}

// TestP81NoCharacters is ErrForm at the first of them, wherever it stands and whatever else is wrong.
func TestP81NoCharacters(t *testing.T) {
	for _, bad := range []rune{math.MinInt32, -2, -1, 0xd800, 0xdbff, 0xdc00, 0xdfff, 0x110000, math.MaxInt32} {
		for _, text := range []string{"abcdef", "a\\bcde", "[abc]d", "(a)b(c", "**ab*)", "[c-a])", "a{3,2}", "((?:))"} {
			for at := range 6 {
				p := []rune(text)
				p[at], p[5] = bad, -1
				if got, f := resyn.Parse(p); f != (api.Fault{Code: api.ErrForm, At: at}) || len(got) != 0 {
					t.Errorf("Parse(%q with %x at %d): %d nodes, %v", text, bad, at, len(got), f)
				}
			}
		}
	}
}

func TestP81Syntax(t *testing.T) {
	cases := []struct {
		pattern string
		at      int
	}{
		{"*", 0}, {"+a", 0}, {"?", 0}, {"{1}", 0}, {"ab|*", 3}, {"|?", 1}, {"(+)", 1}, {"(?:*)", 3}, {"({1})", 1},
		{"a**", 2}, {"a*+", 2}, {"a+*", 2}, {"a??*", 3}, {"a???", 3}, {"a*??", 3}, {"a{1}{1}", 4}, {"a{1}??", 5}, {"a+?{1}", 3},
		{"^*", 1}, {"^+", 1}, {"^?", 1}, {"^{1}", 1}, {"$*", 1}, {"$?", 1}, {"a$+", 2}, {"(^?)", 2},
		{")", 0}, {"a)", 1}, {"a|)", 2}, {"(a))", 3}, {"(?:a))b", 5},
		{"(", 1}, {"((", 2}, {"(a", 2}, {"(a|", 3}, {"((a)", 4}, {"(?", 2}, {"(?:", 3}, {"(?:a", 4}, {"(?a)", 2}, {"(?)", 2}, {"(?=a)", 2}, {"(??:a)", 2}, {"(?*", 2},
		{"{", 0}, {"a{", 2}, {"a{}", 2}, {"a{,1}", 2}, {"a{ 1}", 2}, {"a{-1}", 2}, {"a{x", 2}, {"a{1", 3}, {"a{1 }", 3}, {"a{12}", 3}, {"a{1x", 3}, {"a{1,", 4}, {"a{1, 2}", 4}, {"a{1,,", 4}, {"a{1,2", 5}, {"a{1,23}", 5}, {"a{1,2 }", 5}, {"a{/}", 2}, {"a{:}", 2}, {"a{٣}", 2},
		{"[", 1}, {"[]", 1}, {"[]a]", 1}, {"[^", 2}, {"[^]", 2}, {"[^]a]", 2}, {"[a", 2}, {"[a-", 3}, {"[a-b", 4}, {"[a\\]", 4}, {"a[", 2},
		{"[\\", 2}, {"[\\D]", 2}, {"[\\W]", 2}, {"[a\\S]", 3}, {"[a-\\D]", 4}, {"[a-\\", 4}, {"[\\-\\W]", 4}, {"[\\q]", 2}, {"[\\_]", 2}, {"[\\0]", 2}, {"[\\\n]", 2}, {"[\\d-\\S]", 5},
		{"\\", 1}, {"a\\", 2}, {"\\a", 1}, {"\\1", 1}, {"\\_", 1}, {"\\b", 1}, {"\\N", 1}, {"\\T", 1}, {"\\\n", 1}, {"\\é", 1}, {"(\\x)", 2},
	}
	for _, c := range cases {
		mustFail(t, c.pattern, api.ErrSyntax, c.at)
	}
}

// TestP81LowAndHigh holds a repeat of each two numbers to its {.
func TestP81LowAndHigh(t *testing.T) {
	if api.MaxRepeat != 9 {
		t.Fatalf("MaxRepeat is %d", api.MaxRepeat)
	}
	for low := range 10 {
		for high := range 10 {
			repeat := fmt.Sprintf("{%d,%d}", low, high)
			if low <= high {
				mustParse(t, "a"+repeat, seq(0), rep(1, low, high), set(2, "aa"))
				continue
			}
			for _, behind := range []string{"", "?", "*", "{1}", ")", "(", "[", "\\", "a"} {
				mustFail(t, "a"+repeat+behind, api.ErrSyntax, 1)
				mustFail(t, "a|(b)"+repeat+behind, api.ErrSyntax, 5)
			}
			mustFail(t, "(a"+repeat, api.ErrSyntax, 2)
			mustFail(t, "a"+repeat[:4], api.ErrSyntax, 5)
			mustFail(t, "a"+repeat[:4]+"1", api.ErrSyntax, 5)
		}
	}
}

func TestP81RangeBackwards(t *testing.T) {
	cases := []struct {
		pattern string
		at      int
	}{
		{"[b-a]", 1}, {"[b-a", 1}, {"[b-a*", 1}, {"[^b-a]", 2}, {"x[b-a]", 2}, {"([b-a", 2}, {"[xyb-a]", 3}, {"[a-cz-x]", 4}, {"[a-c-c-a]", 5},
		{"[a--]", 1}, {"[--+]", 1}, {"[-a-+]", 2}, {"[\\]-A]", 1}, {"[a\\]-\\[]", 2}, {"[b-\\t]", 1}, {"[\\n-\\t]", 1}, {"[ -\\n]", 1}, {"[\\d-b-a]", 4}, {"[a-^]", 1}, {"[b-a\\D]", 1}, {"[\\d\\.--]", 3},
		{"[\U0010ffff-\U0010fffe]", 1}, {"[\ue000-\ud7ff]", 1},
	}
	for _, c := range cases {
		mustFail(t, c.pattern, api.ErrSyntax, c.at)
	}
	for _, text := range []string{"[a-a]", "[a-b]", "[--a]", "[+--]", "[---]", "[\\t-\\n]", "[\\t- ]", "[\x00-\U0010ffff]", "[Z-\\]]"} {
		mustAccept(t, text)
	}
}

// nested returns parentheses within one another: of both kinds, in turns.
func nested(n int) (opened, closed string) {
	for i := range n {
		opened += [2]string{"(?:", "("}[i%3%2]
	}
	return opened, strings.Repeat(")", n)
}

func TestP81Deep(t *testing.T) {
	if api.MaxNest != 12 {
		t.Fatalf("MaxNest is %d", api.MaxNest)
	}
	opened, closed := nested(12)
	mustAccept(t, opened+closed)
	mustAccept(t, opened+"a[(]\\("+closed)
	for _, behind := range []string{"", "(", ")", "?", "?:", "?:)", "?x", "*", "a)"} {
		mustFail(t, opened+"("+behind, api.ErrDeep, len(opened))
		mustFail(t, opened+")("+"("+behind, api.ErrDeep, len(opened)+2)
	}
	mustFail(t, opened+"a|b(", api.ErrDeep, len(opened)+3)
	mustFail(t, opened+"*(", api.ErrSyntax, len(opened))
	mustFail(t, opened+")"+"(?:)", api.ErrSyntax, len(opened)+5)
	mustAccept(t, opened+")"+"(?:)"+closed[1:])
	opened, closed = nested(11)
	mustAccept(t, opened+"()|(?:)"+closed)
}

func TestP81Groups(t *testing.T) {
	if api.MaxGroups != 9 {
		t.Fatalf("MaxGroups is %d", api.MaxGroups)
	}
	for _, nine := range []string{strings.Repeat("()", 9), strings.Repeat("(", 9) + strings.Repeat(")", 9), strings.Repeat("(?:())", 4) + "(a(b)((c))d)*()", "[(]\\(" + strings.Repeat("()|", 9)} {
		mustAccept(t, nine)
		mustAccept(t, nine+"(?:)")
		mustAccept(t, nine+"(?:a)*[(]\\(")
		for _, behind := range []string{"", "(", ")", "a)", "(?:", ":", "*", "+)", "|", "]", "\\"} {
			mustFail(t, nine+"("+behind, api.ErrFull, len(nine))
		}
		mustFail(t, nine+"(?:(", api.ErrFull, len(nine)+3)
		mustFail(t, nine+"(?", api.ErrSyntax, len(nine)+2)
		mustFail(t, nine+"(?a", api.ErrSyntax, len(nine)+2)
		mustFail(t, nine+"(?:", api.ErrSyntax, len(nine)+3)
		mustFail(t, nine+"a**(", api.ErrSyntax, len(nine)+2)
	}
	opened := strings.Repeat("(", 9) + strings.Repeat("(?:", 3)
	mustFail(t, opened+"(", api.ErrDeep, len(opened)) // ErrFull applies, too
	mustFail(t, opened+")(", api.ErrFull, len(opened)+1)
	mustFail(t, opened+")(?:", api.ErrSyntax, len(opened)+4)
}

// TestP81TheFirstFault is that of several faults the one that stands first in the text is returned.
func TestP81TheFirstFault(t *testing.T) {
	nine := strings.Repeat("()", 9)
	mustFail(t, "[b-a]a{2,1}", api.ErrSyntax, 1)
	mustFail(t, "a{2,1}[b-a]", api.ErrSyntax, 1)
	mustFail(t, "a**[b-a]", api.ErrSyntax, 2)
	mustFail(t, "[c-b-b-a]", api.ErrSyntax, 1)
	mustFail(t, nine+"(a**", api.ErrFull, 18)
	mustFail(t, nine+"a**()", api.ErrSyntax, 20)
	mustFail(t, nine+"a{2,1}()", api.ErrSyntax, 19)
	mustFail(t, nine+"[b-a]()", api.ErrSyntax, 19)
	mustFail(t, nine[:16]+"a{2,1}("+nine, api.ErrSyntax, 17)
}

func TestP82Characters(t *testing.T) {
	for r := rune(0); r <= 0x10ffff; r++ {
		if strings.ContainsRune("*+?|)[({^$.\\", r) || signs.Class(r) == api.ClassNone {
			continue
		}
		got, f := resyn.Parse([]rune{r})
		if f != (api.Fault{}) || len(got) != 2 || got[1].Kind != api.ReSet || got[1].Not || !slices.Equal(got[1].Set, []rune{r, r}) {
			t.Fatalf("Parse of %x: %v, %v", r, got, f)
		}
	}
	mustParse(t, "}]-/,:1", seq(0), set(1, "}}"), set(1, "]]"), set(1, "--"), set(1, "//"), set(1, ",,"), set(1, "::"), set(1, "11"))
	mustParse(t, "a-c\n", seq(0), set(1, "aa"), set(1, "--"), set(1, "cc"), set(1, "\n\n"))
}

func TestP82RowsAndAlternatives(t *testing.T) {
	mustParse(t, "", seq(0))
	mustParse(t, "ab", seq(0), set(1, "aa"), set(1, "bb"))
	mustParse(t, "a|b", alt(0), seq(1), set(2, "aa"), seq(1), set(2, "bb"))
	mustParse(t, "|", alt(0), seq(1), seq(1))
	mustParse(t, "||", alt(0), seq(1), seq(1), seq(1))
	mustParse(t, "ab||c", alt(0), seq(1), set(2, "aa"), set(2, "bb"), seq(1), seq(1), set(2, "cc"))
	mustParse(t, "^a$|$^", alt(0), seq(1), start(2), set(2, "aa"), stop(2), seq(1), stop(2), start(2))
	mustParse(t, "^^", seq(0), start(1), start(1))
	mustParse(t, ".", seq(0), not(set(1, "\n\n")))
}

func TestP82Groups(t *testing.T) {
	mustParse(t, "()", seq(0), group(1, 1), seq(2))
	mustParse(t, "(?:)", seq(0), group(1, 0), seq(2))
	mustParse(t, "(a|)b", seq(0), group(1, 1), alt(2), seq(3), set(4, "aa"), seq(3), set(1, "bb"))
	mustParse(t, "(?:|(?:a))", seq(0), group(1, 0), alt(2), seq(3), seq(3), group(4, 0), seq(5), set(6, "aa"))
	mustParse(t, "((a)(?:b))(c)", seq(0), group(1, 1), seq(2), group(3, 2), seq(4), set(5, "aa"), group(3, 0), seq(4), set(5, "bb"), group(1, 3), seq(2), set(3, "cc"))
	mustParse(t, "()|(?:())", alt(0), seq(1), group(2, 1), seq(3), seq(1), group(2, 0), seq(3), group(4, 2), seq(5))
	mustParse(t, "(:)(\\?:)", seq(0), group(1, 1), seq(2), set(3, "::"), group(1, 2), seq(2), set(3, "??"), set(3, "::"))
	opened, closed := nested(12)
	want, number := []api.Re{seq(0)}, 0
	for i, kind := range strings.Split(opened, "(")[1:] {
		lo := 0
		if kind == "" {
			number++
			lo = number
		}
		want = append(want, group(2*i+1, lo), seq(2*i+2))
	}
	mustParse(t, opened+"a"+closed, append(want, set(25, "aa"))...)
}

func TestP82Repeats(t *testing.T) {
	bounds := map[string][2]int{"*": {0, -1}, "+": {1, -1}, "?": {0, 1}}
	for low := range 10 {
		bounds[fmt.Sprintf("{%d}", low)] = [2]int{low, low}
		bounds[fmt.Sprintf("{%d,}", low)] = [2]int{low, -1}
		bounds[fmt.Sprintf("{%d,9}", low)] = [2]int{low, 9}
		bounds[fmt.Sprintf("{0,%d}", low)] = [2]int{0, low}
	}
	for repeat, b := range bounds {
		mustParse(t, "a"+repeat, seq(0), rep(1, b[0], b[1]), set(2, "aa"))
		mustParse(t, "a"+repeat+"?", seq(0), lazy(rep(1, b[0], b[1])), set(2, "aa"))
		mustParse(t, "^."+repeat+"$", seq(0), start(1), rep(1, b[0], b[1]), not(set(2, "\n\n")), stop(1))
		mustParse(t, "(ab)"+repeat+"c", seq(0), rep(1, b[0], b[1]), group(2, 1), seq(3), set(4, "aa"), set(4, "bb"), set(1, "cc"))
		mustParse(t, "(?:|)"+repeat+"?", seq(0), lazy(rep(1, b[0], b[1])), group(2, 0), alt(3), seq(4), seq(4))
		mustParse(t, "ab"+repeat+"c"+repeat, seq(0), set(1, "aa"), rep(1, b[0], b[1]), set(2, "bb"), rep(1, b[0], b[1]), set(2, "cc"))
		mustParse(t, "[a]"+repeat+"\\D"+repeat, seq(0), rep(1, b[0], b[1]), set(2, "aa"), rep(1, b[0], b[1]), not(set(2, "09")))
		mustParse(t, "}"+repeat+"\\*"+repeat, seq(0), rep(1, b[0], b[1]), set(2, "}}"), rep(1, b[0], b[1]), set(2, "**"))
	}
}

func TestP82Classes(t *testing.T) {
	cases := map[string]string{
		"[a]": "aa", "[ab]": "aabb", "[ba]": "bbaa", "[aa]": "aaaa", "[a-c]": "ac", "[a-a]": "aa", "[a-cx-z]": "acxz",
		"[-]": "--", "[-a]": "--aa", "[a-]": "aa--", "[--]": "----", "[---]": "--", "[----]": "----", "[--a]": "-a", "[+--]": "+-", "[+---]": "+---", "[+--a]": "+-aa", "[+--+]": "+-++",
		"[a-c-]": "ac--", "[a-c-e]": "ac--ee", "[a-c--e]": "ac-e", "[a-c-e-g]": "ac--eg", "[-a-c]": "--ac",
		"[a\\-c]": "aa--cc", "[\\--a]": "-a", "[+-\\-]": "+-", "[\\--\\-]": "--", "[\\]]": "]]", "[\\]-\\^]": "]^", "[[-\\]]": "[]", "[\\\\-a]": "\\a", "[\\[-\\\\]": "[\\",
		"[\\d]": "09", "[\\w]": "azAZ09__", "[\\s]": "  \t\t\n\n", "[\\d\\s]": "09  \t\t\n\n", "[\\n]": "\n\n", "[\\t]": "\t\t", "[\\t-\\n]": "\t\n", "[\\n-a]": "\na", "[\t- ]": "\t ",
		"[\\d-z]": "09--zz", "[a-\\d]": "aa--09", "[\\s-\\w]": "  \t\t\n\n--azAZ09__", "[\\d-]": "09--", "[\\d--]": "09----", "[\\d--a]": "09-a", "[a-\\d-z]": "aa--09--zz", "[--\\d]": "----09", "[+--\\d]": "+-09",
		"[^^]": "^^", "[a^]": "aa^^", "[*+?.$(){}|,/]": "**++??..$$(())" + "{{}}||,,//", "[\n]": "\n\n", "[[]": "[[", "[(?:]": "((??::", "[\\.\\ \\\\]": "..  \\\\", "[é-ï]": "éï", "[^\x00-\U0010ffff]": "\x00\U0010ffff",
	}
	for pattern, ranges := range cases {
		if pattern[1] == '^' {
			mustParse(t, pattern, seq(0), not(set(1, ranges)))
			continue
		}
		mustParse(t, pattern, seq(0), set(1, ranges))
		mustParse(t, "[^"+pattern[1:], seq(0), not(set(1, ranges)))
		mustParse(t, pattern+"?]", seq(0), rep(1, 0, 1), set(2, ranges), set(1, "]]"))
	}
}

// TestP82Backslashes puts each character behind a backslash, outside of a class and in one.
func TestP82Backslashes(t *testing.T) {
	mustParse(t, "\\d\\w\\s", seq(0), set(1, "09"), set(1, "azAZ09__"), set(1, "  \t\t\n\n"))
	mustParse(t, "\\D\\W\\S", seq(0), not(set(1, "09")), not(set(1, "azAZ09__")), not(set(1, "  \t\t\n\n")))
	mustParse(t, "\\n\\t\\ \\\t", seq(0), set(1, "\n\n"), set(1, "\t\t"), set(1, "  "), set(1, "\t\t"))
	mustParse(t, "\\*\\+\\?\\|\\)\\[\\(\\{\\^\\$\\.\\\\\\]", seq(0), set(1, "**"), set(1, "++"), set(1, "??"), set(1, "||"), set(1, "))"), set(1, "[["), set(1, "(("), set(1, "{{"), set(1, "^^"), set(1, "$$"), set(1, ".."), set(1, "\\\\"), set(1, "]]"))
	for r := rune(0); r <= 0x10ffff; r++ {
		class := signs.Class(r)
		if class == api.ClassNone || strings.ContainsRune("dwsDWSnt", r) {
			continue
		}
		bare, f := resyn.Parse([]rune{'\\', r})
		in, g := resyn.Parse([]rune{'[', '\\', r, ']'})
		if class == api.ClassLine || class == api.ClassWord {
			if len(bare)+len(in) != 0 || f != (api.Fault{Code: api.ErrSyntax, At: 1}) || g != (api.Fault{Code: api.ErrSyntax, At: 2}) {
				t.Fatalf("a backslash and %x: %v, %v; in a class: %v, %v", r, bare, f, in, g)
			}
			continue
		}
		want := []rune{r, r}
		if f != (api.Fault{}) || g != (api.Fault{}) || len(bare) != 2 || len(in) != 2 || !slices.Equal(bare[1].Set, want) || !slices.Equal(in[1].Set, want) || bare[1].Not || in[1].Not {
			t.Fatalf("a backslash and %x: %v, %v; in a class: %v, %v", r, bare, f, in, g)
		}
	}
}

func TestP82CountOfGroups(t *testing.T) {
	cases := map[string]int{"": 0, "a|b": 0, "(?:a)": 0, "()": 1, "(a)(?:b)(c)": 2, "((())|(?:()))+": 4, "[(]\\(": 0, "a{3}": 0, strings.Repeat("()", 9): 9}
	for pattern, want := range cases {
		tree, _ := resyn.Parse([]rune(pattern))
		if got := resyn.Groups(tree); got != want {
			t.Errorf("Groups of %q: %d, want %d", pattern, got, want)
		}
	}
	if resyn.Groups(nil) != 0 || resyn.Groups([]api.Re{}) != 0 {
		t.Error("Groups of no nodes")
	}
	for kind := -1; kind <= 7; kind++ { // lists that are no trees
		want := 0
		if kind == api.ReGroup {
			want = 3
		}
		l := []api.Re{{Kind: kind, Lo: 1}, {Kind: kind, Lo: 1}, {Kind: kind, Lo: math.MaxInt}, {Kind: kind}, {Kind: kind, Lo: -1}, {Kind: kind, Lo: math.MinInt}, {Kind: kind, Deep: 1, Hi: 1}}
		if got := resyn.Groups(l); got != want {
			t.Errorf("Groups of nodes of kind %d: %d, want %d", kind, got, want)
		}
	}
}

// TestP81AndP82NilIsEmpty is R3.
func TestP81AndP82NilIsEmpty(t *testing.T) {
	for _, p := range [][]rune{nil, {}} {
		if got, f := resyn.Parse(p); f != (api.Fault{}) || fmt.Sprint(got) != fmt.Sprint([]api.Re{seq(0)}) {
			t.Errorf("Parse of an empty pattern: %v, %v", got, f)
		}
	}
}

// TestP81AndP82OwnMemory is R4 and R10: what stands behind a pattern plays no part, no call changes the pattern, and nothing shares memory.
func TestP81AndP82OwnMemory(t *testing.T) {
	const text = "(a.[b-d\\w\\s]\\d+|\\D{2,3}?[^x])\\S*"
	whole := []rune(text)
	for n := range len(whole) + 1 {
		cut, f := resyn.Parse(whole[:n])
		alone, g := resyn.Parse([]rune(text[:n]))
		if f != g || fmt.Sprint(cut) != fmt.Sprint(alone) || string(whole) != text {
			t.Errorf("Parse(%q) with more behind it: %v, %v, alone: %v, %v; the pattern is %q", text[:n], cut, f, alone, g, string(whole))
		}
	}
	first, _ := resyn.Parse(whole)
	second, _ := resyn.Parse(whole)
	before := fmt.Sprint(first)
	if resyn.Groups(second) != 1 || fmt.Sprint(second) != before {
		t.Errorf("%v became %v", before, second)
	}
	for i := range second {
		spoiled := second[i].Set[:cap(second[i].Set)]
		want := fmt.Sprint(second[:i], second[i+1:])
		for k := range spoiled {
			spoiled[k] = '!'
		}
		if fmt.Sprint(second[:i], second[i+1:]) != want {
			t.Errorf("node %d shares memory with another one", i)
		}
	}
	if third, _ := resyn.Parse(whole); string(whole) != text || fmt.Sprint(first) != before || fmt.Sprint(third) != before {
		t.Errorf("results share memory: %v, %v, want %v; the pattern is %q", first, third, before, string(whole))
	}
}
