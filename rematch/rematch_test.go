package rematch_test

import (
	"fmt"
	"math"
	"slices"
	"strings"
	"testing"

	"standish/api"
	"standish/rematch"
	"standish/reprog"
	"standish/resyn"
	"standish/signs"
)

func ExampleMatcher_Find() {
	m, fault := rematch.New([]rune("(a)(b)?"), false)
	fmt.Println(m.Groups(), fault.Code == api.OK)
	fmt.Println(m.Find([]rune("-aab"), 0))
	fmt.Println(m.Find([]rune("-aab"), 2))
	fmt.Println(m.Find([]rune("-aab"), 3))
	fmt.Println(m.All([]rune("-aab")))
	// Output:
	// 2 true
	// [1 2 1 2 -1 -1] true
	// [2 4 2 3 3 4] true
	// [] false
	// [[1 2 1 2 -1 -1] [2 4 2 3 3 4]]
}

// mustNew is a matcher for a pattern.
func mustNew(t *testing.T, pattern string, fold bool) *rematch.Matcher {
	t.Helper()
	m, f := rematch.New([]rune(pattern), fold)
	if m == nil || f != (api.Fault{}) {
		t.Fatalf("New(%q): %v, %v", pattern, m, f)
	}
	return m
}

// mustRecord is that the first match in s from an index on records these indices.
func mustRecord(t *testing.T, pattern, s string, from int, want ...int) {
	t.Helper()
	if got, ok := mustNew(t, pattern, false).Find([]rune(s), from); !ok || !slices.Equal(got, want) {
		t.Errorf("%q in %q from %d: %v, %v, want %v", pattern, s, from, got, ok, want)
	}
}

// mustMiss is that there is no match in s from an index on.
func mustMiss(t *testing.T, pattern, s string, from int) {
	t.Helper()
	if got, ok := mustNew(t, pattern, false).Find([]rune(s), from); ok || len(got) > 0 {
		t.Errorf("%q in %q from %d: %v, %v, want no match", pattern, s, from, got, ok)
	}
}

func TestP101Faults(t *testing.T) {
	cases := []struct {
		pattern string
		code    api.Errno
		at      int
	}{
		{"(", api.ErrSyntax, 1},
		{"a**", api.ErrSyntax, 2},
		{"a{3,2}", api.ErrSyntax, 1},
		{"[b-a]", api.ErrSyntax, 1},
		{strings.Repeat("(", 14), api.ErrFull, 9},
		{strings.Repeat("(?:", 14), api.ErrDeep, 36},
		{strings.Repeat("a", 61), api.ErrFull, 60},
		{"(?:(?:a{9}){9}){4}", api.ErrFull, 18},
		{"(?:(?:a{9}){9}){4}(", api.ErrSyntax, 19},
	}
	for _, c := range cases {
		for _, fold := range []bool{false, true} {
			if m, f := rematch.New([]rune(c.pattern), fold); m != nil || f != (api.Fault{Code: c.code, At: c.at}) {
				t.Errorf("New(%q, %v): %v, %v, want %d at %d", c.pattern, fold, m, f, c.code, c.at)
			}
		}
	}
	if m, f := rematch.New([]rune{'a', 0xd800}, false); m != nil || f != (api.Fault{Code: api.ErrForm, At: 1}) {
		t.Errorf("New of no characters: %v, %v", m, f)
	}
}

// TestP101AllShortTexts holds the fault, or else the number of groups, of every short text to the layers below.
func TestP101AllShortTexts(t *testing.T) {
	everyText("", "a2(){}[]?:|,*^-\\", 4, func(text []rune) {
		_, want := reprog.Compile(text)
		m, f := rematch.New(text, false)
		if f != want || (m != nil) != (want.Code == api.OK) {
			t.Fatalf("New(%q): %v, %v, want %v", string(text), m, f, want)
		}
		tree, _ := resyn.Parse(text)
		if got := m.Groups(); got != resyn.Groups(tree) {
			t.Fatalf("%q: %d groups, want %d", string(text), got, resyn.Groups(tree))
		}
	})
}

func TestP101Groups(t *testing.T) {
	cases := []struct {
		pattern string
		groups  int
	}{
		{"", 0}, {"a", 0}, {"(?:a)", 0}, {"[(]\\(", 0},
		{"(a)", 1}, {"(?:(a))", 1}, {"((a)(b))|(c)", 4},
		{"(a){9}", 1}, {"(a){0}", 1}, {"(?:(a)(b)){0}", 2}, // however often they are repeated
		{strings.Repeat("()", 9), 9},
	}
	for _, c := range cases {
		m := mustNew(t, c.pattern, false)
		if got := m.Groups(); got != c.groups {
			t.Errorf("%q: %d groups, want %d", c.pattern, got, c.groups)
		}
		if got, ok := m.Find([]rune("ab((c"), 0); ok && len(got) != 2*c.groups+2 {
			t.Errorf("%q: %d indices for %d groups", c.pattern, len(got), c.groups)
		}
	}
}

// TestP102From is about where the tries begin.
func TestP102From(t *testing.T) {
	mustRecord(t, "a+", "baa", 0, 1, 3)
	mustRecord(t, "a+", "baa", 1, 1, 3)
	mustRecord(t, "a+", "baa", 2, 2, 3)
	mustMiss(t, "a+", "baa", 3)
	mustRecord(t, "", "baa", 0, 0, 0)
	mustRecord(t, "", "baa", 3, 3, 3)
	mustRecord(t, "", "", 0, 0, 0)
	mustMiss(t, "b", "baa", 1)
	for _, from := range []int{-1, math.MinInt, 4, 5, 64, math.MaxInt} {
		mustMiss(t, "", "baa", from)
		mustMiss(t, "a*", "baa", from)
	}
	mustMiss(t, "", "", 1)
	mustMiss(t, "", "", -1)
}

func TestP102MaxText(t *testing.T) {
	if api.MaxText != 1000 {
		t.Fatalf("MaxText is %d", api.MaxText)
	}
	long := strings.Repeat("a", 999) + "b"
	mustRecord(t, "b", long, 0, 999, 1000)
	mustRecord(t, "^a*b$", long, 0, 0, 1000)
	mustRecord(t, "$", long, 0, 1000, 1000)
	mustRecord(t, "", long, 1000, 1000, 1000)
	mustMiss(t, "", long, 1001)
	for _, over := range []string{long + "b", long + long} {
		mustMiss(t, "", over, 0)
		mustMiss(t, "b", over, 1000)
		if all := mustNew(t, "b", false).All([]rune(over)); len(all) > 0 {
			t.Errorf("All in %d elements: %v", len(over), all)
		}
	}
}

func TestP102Sets(t *testing.T) {
	mustRecord(t, "[b-d]+", "abcde", 0, 1, 4) // both ends included
	mustRecord(t, "[^b-d]+", "bcdaeb", 0, 3, 5)
	mustRecord(t, "[a-bd-ex]+", "cabdexc", 0, 1, 6)
	mustRecord(t, "[^a-bd-ex]+", "abcxc", 0, 2, 3)
	mustRecord(t, ".+", "\nab\n", 0, 1, 3)
	mustRecord(t, "\\d+\\D", "a12b3", 0, 1, 4)
	mustRecord(t, "\\w+", "-aZ0_é", 0, 1, 5)
	mustRecord(t, "\\W+", "aé-b", 0, 1, 3)
	mustRecord(t, "\\s+", "a \t\nb", 0, 1, 4)
	mustRecord(t, "\\S+", " \t\nab ", 0, 3, 5)
	for _, p := range []string{"a", "[^a]", "."} {
		mustMiss(t, p, "", 0) // there is no element, whatever the set
		mustMiss(t, p+p+"$", "b", 0)
	}
}

// TestP102AnyElement is about elements that are no characters: they are in no range, and so in each set with Not.
func TestP102AnyElement(t *testing.T) {
	text := []rune{math.MinInt32, -1, 0xd800, 0xdfff, 0x110000, math.MaxInt32}
	cases := []struct {
		pattern string
		want    []int
	}{
		{"[a-z]", nil}, {"\\w", nil}, {"[\U00000001-\ud7ff\ue000-\U0010ffff]", nil},
		{".+", []int{0, 6}}, {"\\W+", []int{0, 6}}, {"[^a]+", []int{0, 6}}, {"$", []int{6, 6}},
		{"[\U00000001-\U0010ffff]+", []int{2, 4}}, // a range from one character to another has the numbers between them
	}
	for _, c := range cases {
		for _, fold := range []bool{false, true} {
			if got, ok := mustNew(t, c.pattern, fold).Find(text, 0); ok != (c.want != nil) || !slices.Equal(got, c.want) {
				t.Errorf("%q, %v: %v, %v, want %v", c.pattern, fold, got, ok, c.want)
			}
		}
	}
}

// TestP102Fold holds sets of one and of more ranges to what the case of an element and of the set is.
func TestP102Fold(t *testing.T) {
	sets := []struct {
		pattern string
		in      func(r rune) bool
	}{
		{"[b-d]", func(r rune) bool { return 'b' <= r && r <= 'd' }},
		{"[B-D]", func(r rune) bool { return 'B' <= r && r <= 'D' }},
		{"[Z-b]", func(r rune) bool { return 'Z' <= r && r <= 'b' }},
		{"é", func(r rune) bool { return r == 'é' }},
		{"É", func(r rune) bool { return r == 'É' }},
		{"[ÿ÷ß_]", func(r rune) bool { return strings.ContainsRune("ÿ÷ß_", r) }},
		{"[à-þ]", func(r rune) bool { return 'à' <= r && r <= 'þ' }},
		{"[x-~Å]", func(r rune) bool { return 'x' <= r && r <= '~' || r == 'Å' }},
		{"\\d", func(r rune) bool { return '0' <= r && r <= '9' }},
	}
	for _, c := range sets {
		nots := "[^" + strings.Trim(c.pattern, "[]") + "]"
		if c.pattern == "\\d" {
			nots = "\\D"
		}
		plain, fold := mustNew(t, c.pattern, false), mustNew(t, c.pattern, true)
		plainNot, foldNot := mustNew(t, nots, false), mustNew(t, nots, true)
		for r := rune(-2); r < 0x250; r++ {
			in, folded := c.in(r), c.in(r) || c.in(signs.Upper(r)) || c.in(signs.Lower(r))
			mustHold(t, c.pattern, plain, r, in)
			mustHold(t, c.pattern+" with fold", fold, r, folded)
			mustHold(t, nots, plainNot, r, !in)
			mustHold(t, nots+" with fold", foldNot, r, !folded)
		}
	}
}

// mustHold is that a matcher of single elements finds r, or does not.
func mustHold(t *testing.T, name string, m *rematch.Matcher, r rune, want bool) {
	t.Helper()
	if _, ok := m.Find([]rune{r}, 0); ok != want {
		t.Errorf("%s: %x: %v, want %v", name, r, ok, want)
	}
}

// TestP102StartAndEnd is about ^ and $: they are the ends of the text, wherever the search begins, and no line ends.
func TestP102StartAndEnd(t *testing.T) {
	mustRecord(t, "^a", "aa", 0, 0, 1)
	mustMiss(t, "^a", "aa", 1)
	mustMiss(t, "^", "aa", 2)
	mustMiss(t, "^a", "\na", 0)
	mustRecord(t, "a$", "aa", 0, 1, 2)
	mustRecord(t, "a$", "aa", 1, 1, 2)
	mustMiss(t, "a$", "a\n", 0)
	mustRecord(t, "$", "aa", 0, 2, 2)
	mustRecord(t, "^$", "", 0, 0, 0)
	mustMiss(t, "^$", "a", 0)
	mustRecord(t, "^^a$$", "a", 0, 0, 1)
	mustMiss(t, "a^", "aa", 0)
	mustMiss(t, "$a", "aa", 0)
	mustRecord(t, "(?:^|b)a", "cba", 0, 1, 3)
	mustRecord(t, "(?:^|b)a", "aba", 0, 0, 1)
	mustRecord(t, "(?:^|b)a", "aba", 1, 1, 3)
}

// TestP102Order is about which of the ways of a split comes first.
func TestP102Order(t *testing.T) {
	mustRecord(t, "a|ab", "ab", 0, 0, 1)
	mustRecord(t, "ab|a", "ab", 0, 0, 2)
	mustRecord(t, "|a", "a", 0, 0, 0)
	mustRecord(t, "(?:a|ab)c", "abc", 0, 0, 3)
	mustRecord(t, "(a|ab)(c|bcd)(d*)", "abcd", 0, 0, 4, 0, 1, 1, 4, 4, 4)
	mustRecord(t, "a*", "aab", 0, 0, 2)
	mustRecord(t, "a*?", "aab", 0, 0, 0)
	mustRecord(t, "a*?b", "aab", 0, 0, 3)
	mustRecord(t, "a+?", "aab", 0, 0, 1)
	mustRecord(t, "a?", "a", 0, 0, 1)
	mustRecord(t, "a??", "a", 0, 0, 0)
	mustRecord(t, "a{2,3}", "aaaa", 0, 0, 3)
	mustRecord(t, "a{2,3}?", "aaaa", 0, 0, 2)
	mustRecord(t, "a{2,}?b", "aaaab", 0, 0, 5)
	mustMiss(t, "a{2}", "aba", 0)
	mustRecord(t, "(a*)(a*)", "aa", 0, 0, 2, 0, 2, 2, 2)
	mustRecord(t, "(a*?)(a*)", "aa", 0, 0, 2, 0, 0, 0, 2)
	mustRecord(t, "(a*)(a*)a", "aa", 0, 0, 2, 0, 1, 1, 1)
}

// TestP102LastRecord is about groups that are gone through more than once, or not at all.
func TestP102LastRecord(t *testing.T) {
	mustRecord(t, "(a)*", "aaa", 0, 0, 3, 2, 3)
	mustRecord(t, "(a){2}", "aaa", 0, 0, 2, 1, 2)
	mustRecord(t, "((a)|(b))*", "ab", 0, 0, 2, 1, 2, 0, 1, 1, 2) // what an earlier round recorded stays
	mustRecord(t, "(a)|(b)", "b", 0, 0, 1, -1, -1, 0, 1)
	mustRecord(t, "(y)?", "", 0, 0, 0, -1, -1)
	mustRecord(t, "(a){0}b", "ab", 0, 1, 2, -1, -1)
	mustRecord(t, "(){2}", "b", 1, 1, 1, 1, 1)
}

// TestP102Undone is about what failed paths have recorded.
func TestP102Undone(t *testing.T) {
	mustRecord(t, "(a)b|a(c)", "ac", 0, 0, 2, -1, -1, 1, 2)
	mustRecord(t, "(a)b|c", "ac", 0, 1, 2, -1, -1) // by an earlier try
	mustRecord(t, "(?:(.)b)*", "abac", 0, 0, 2, 0, 1)
	mustRecord(t, "(?:(a)|(b)|(c)d)*", "abce", 0, 0, 2, 0, 1, 1, 2, -1, -1)
	mustRecord(t, "(a|(ab))(?:c|(b)d)", "abc", 0, 0, 3, 0, 2, 0, 2, -1, -1)
	mustRecord(t, "(?:(a)(?:(b)(?:(c)x|)y|)z|)", "abcd", 0, 0, 0, -1, -1, -1, -1, -1, -1)
	mustRecord(t, "((.)(.)(.))*.", "abcdefg", 0, 0, 7, 3, 6, 3, 4, 4, 5, 5, 6)
	mustRecord(t, "((.)(.)(.))*.$", "abcdef", 0, 2, 6, 2, 5, 2, 3, 3, 4, 4, 5)
}

// TestP102ReachedTwice is about paths that fail since they come to where a path was already.
func TestP102ReachedTwice(t *testing.T) {
	mustRecord(t, "(a*)*", "b", 0, 0, 0, -1, -1)
	mustRecord(t, "(a*)+", "b", 0, 0, 0, 0, 0)
	mustRecord(t, "(a*)*", "aab", 0, 0, 2, 0, 2) // the second, empty round fails
	mustRecord(t, "(a|b*)*", "abb", 0, 0, 3, 1, 3)
	mustRecord(t, "(a*?)*", "aa", 0, 0, 1, 0, 1) // the second round comes to the inner split at 1, where the first round was
	mustRecord(t, "(a*?)*?b", "aab", 0, 0, 3, 0, 2)
	mustRecord(t, "(|a)*", "aa", 0, 0, 2, 1, 2)
	mustRecord(t, "(|a)+", "aa", 0, 0, 2, 1, 2)
	mustRecord(t, "(()|a)*", "aa", 0, 0, 2, 1, 2, -1, -1)
	mustRecord(t, "(a?){2}", "a", 0, 0, 1, 1, 1) // two copies are different instructions
	mustMiss(t, "(?:a*)*b", "aa", 0)
}

// TestP102EachPairOnce is that a Find goes to each instruction at each index once only: it would not end in time otherwise.
func TestP102EachPairOnce(t *testing.T) {
	long := strings.Repeat("a", api.MaxText)
	for _, p := range []string{"(?:a*)*b", "(?:(?:a*)*)*$b", "(?:a|aa|a?)*b", "(?:a?){9}a*a*a*a*b", "(?:(?:a?){9}){9}(?:a{9}){9}b"} {
		mustMiss(t, p, long, 0)
	}
	mustRecord(t, "(?:(?:a*)*)*$", long, 0, 0, 1000)
}

// TestP102MaxInst is about programs that are as long as they may be.
func TestP102MaxInst(t *testing.T) {
	if api.MaxInst != 300 {
		t.Fatalf("MaxInst is %d", api.MaxInst)
	}
	const pattern = "(?:(?:[a-c]{9}){9}){3}(?:.{9}){5}.{9}" // 243, 45 and 9, and three more
	mustRecord(t, pattern, "x"+strings.Repeat("abc", 99), 0, 1, 298)
	mustMiss(t, pattern, strings.Repeat("abc", 98), 0)
	if _, f := rematch.New([]rune(pattern+"."), false); f.Code != api.ErrFull {
		t.Errorf("one more is %v", f)
	}
}

// mustAll is that the matches in s record these indices.
func mustAll(t *testing.T, pattern, s string, want ...[]int) {
	t.Helper()
	got := mustNew(t, pattern, false).All([]rune(s))
	if !slices.EqualFunc(got, want, slices.Equal) {
		t.Errorf("all %q in %q: %v, want %v", pattern, s, got, want)
	}
}

func TestP103Matches(t *testing.T) {
	mustAll(t, "a", "abaa", []int{0, 1}, []int{2, 3}, []int{3, 4})
	mustAll(t, "aa", "aaaaa", []int{0, 2}, []int{2, 4})
	mustAll(t, "b", "aa")
	mustAll(t, "b", "")
	mustAll(t, "(a)(b)?", "aba", []int{0, 2, 0, 1, 1, 2}, []int{2, 3, 2, 3, -1, -1})
	mustAll(t, "^a", "aa", []int{0, 1})
	mustAll(t, "a$", "aa", []int{1, 2})
	mustAll(t, "a|ab", "abab", []int{0, 1}, []int{2, 3})
}

func TestP103EmptyMatches(t *testing.T) {
	mustAll(t, "x*", "a", []int{0, 0}, []int{1, 1})
	mustAll(t, "", "ab", []int{0, 0}, []int{1, 1}, []int{2, 2})
	mustAll(t, "", "", []int{0, 0})
	mustAll(t, "^", "ab", []int{0, 0})
	mustAll(t, "$", "ab", []int{2, 2})
	mustAll(t, "a*", "baac", []int{0, 0}, []int{1, 3}, []int{3, 3}, []int{4, 4}) // one match is empty where another one ends
	mustAll(t, "a*?", "aa", []int{0, 0}, []int{1, 1}, []int{2, 2})
	mustAll(t, "|a", "aa", []int{0, 0}, []int{1, 1}, []int{2, 2})
	mustAll(t, "a*", "aa", []int{0, 2}, []int{2, 2})
}

func TestP103MaxText(t *testing.T) {
	var single, empty [][]int
	for i := range 1000 {
		single, empty = append(single, []int{i, i + 1}), append(empty, []int{i, i})
	}
	long := strings.Repeat("a", 1000)
	mustAll(t, ".", long, single...)
	mustAll(t, "", long, append(empty, []int{1000, 1000})...)
	mustAll(t, "", long+"a")
}

// TestP102AndP103NilMatcher is R7.
func TestP102AndP103NilMatcher(t *testing.T) {
	var m *rematch.Matcher
	for _, s := range [][]rune{nil, {}, {'a'}, make([]rune, 2000)} {
		for _, from := range []int{0, 1, -1, math.MaxInt} {
			if got, ok := m.Find(s, from); ok || len(got) > 0 {
				t.Errorf("Find by a nil matcher: %v, %v", got, ok)
			}
		}
		if got := m.All(s); len(got) > 0 {
			t.Errorf("All by a nil matcher: %v", got)
		}
	}
	if n := m.Groups(); n != 0 {
		t.Errorf("Groups of a nil matcher: %d", n)
	}
}

// TestP101ToP103NilIsEmpty is R3.
func TestP101ToP103NilIsEmpty(t *testing.T) {
	for _, p := range [][]rune{nil, {}} {
		for _, s := range [][]rune{nil, {}} {
			m, f := rematch.New(p, true)
			if f != (api.Fault{}) || m.Groups() != 0 {
				t.Fatalf("New of an empty pattern: %v, %v", m, f)
			}
			if got, ok := m.Find(s, 0); !ok || !slices.Equal(got, []int{0, 0}) {
				t.Errorf("Find in an empty text: %v, %v", got, ok)
			}
			if got := m.All(s); !slices.EqualFunc(got, [][]int{{0, 0}}, slices.Equal) {
				t.Errorf("All in an empty text: %v", got)
			}
		}
	}
}

// TestP101KeepsNoPattern is R4: what becomes of a pattern does not change its matcher.
func TestP101KeepsNoPattern(t *testing.T) {
	pattern := []rune("([a-c]|\\d)+(x)?")
	m, _ := rematch.New(pattern, false)
	if string(pattern) != "([a-c]|\\d)+(x)?" {
		t.Errorf("New changed the pattern to %q", string(pattern))
	}
	for i := range pattern {
		pattern[i] = 'z'
	}
	if got, ok := m.Find([]rune("zc1x"), 0); !ok || !slices.Equal(got, []int{1, 4, 2, 3, 3, 4}) || m.Groups() != 2 {
		t.Errorf("the pattern is kept: %v, %v", got, ok)
	}
	long := []rune("a|b*") // what stands behind a pattern is neither read nor written
	m, f := rematch.New(long[:1], false)
	if got, ok := m.Find([]rune("b"), 0); ok || f != (api.Fault{}) || string(long) != "a|b*" {
		t.Errorf("New of a part: %v, %v, the whole is %q", got, f, string(long))
	}
}

// TestP102AndP103OwnMemory is R4, R5 and R10: calls change neither the text nor what other calls return.
func TestP102AndP103OwnMemory(t *testing.T) {
	whole := []rune("ab-ba-abb")
	text := whole[:6:8]
	m := mustNew(t, "(a)|(b)+", false)
	want := [][]int{{0, 1, 0, 1, -1, -1}, {1, 2, -1, -1, 1, 2}, {3, 4, -1, -1, 3, 4}, {4, 5, 4, 5, -1, -1}}
	for range 3 {
		all := m.All(text)
		if !slices.EqualFunc(all, want, slices.Equal) {
			t.Fatalf("All: %v, want %v", all, want)
		}
		for i, match := range all {
			found, ok := m.Find(text, want[i][0])
			if !ok || !slices.Equal(found, want[i]) {
				t.Fatalf("Find from %d: %v, %v, want %v", want[i][0], found, ok, want[i])
			}
			for k := range match[:cap(match)] {
				match[:cap(match)][k] = -9
			}
			if i+1 < len(all) && !slices.Equal(all[i+1], want[i+1]) {
				t.Fatalf("match %d shares memory with the one before", i+1)
			}
			if !slices.Equal(found, want[i]) {
				t.Fatalf("two calls share memory: %v", found)
			}
			found[0] = -9
		}
	}
	if string(whole) != "ab-ba-abb" {
		t.Errorf("the text is %q", string(whole))
	}
}
