package transform_test

import (
	"fmt"
	"math"
	"slices"
	"strings"
	"testing"

	"standish/api"
	"standish/format"
	"standish/rematch"
	"standish/transform"
)

func ExampleFill() {
	forms, _, _ := format.Scan([]rune("${1:/upcase}-${2:?yes:no}/"), 0)
	fmt.Println(string(transform.Fill(forms, [][]rune{[]rune("ab"), []rune("a"), nil})))
	// Output: A-no
}

func ExampleRun() {
	forms := []api.Form{{Kind: api.FormGroup, Case: api.CaseUp}}
	first, fault := transform.Run([]rune("abab"), []rune("b"), forms, false, false)
	fmt.Println(string(first), fault.Code == api.OK)
	all, fault := transform.Run([]rune("abab"), []rune("b"), forms, true, false)
	fmt.Println(string(all), fault.Code == api.OK)
	// Output:
	// aBab true
	// aBaB true
}

// The parts of a format.

func text(s string) api.Form { return api.Form{Kind: api.FormText, Text: []rune(s)} }

func group(number, how int) api.Form {
	return api.Form{Kind: api.FormGroup, Group: number, Case: how}
}

func ifPart(number int, s string) api.Form {
	return api.Form{Kind: api.FormIf, Group: number, Text: []rune(s)}
}

func elsePart(number int, s string) api.Form {
	return api.Form{Kind: api.FormElse, Group: number, Else: []rune(s)}
}

func both(number int, s, other string) api.Form {
	return api.Form{Kind: api.FormBoth, Group: number, Text: []rune(s), Else: []rune(other)}
}

// parts is what a format is read to.
func parts(t *testing.T, s string) []api.Form {
	t.Helper()
	l, end, ok := format.Scan([]rune(s+"/"), 0)
	if !ok || end != len([]rune(s)) {
		t.Fatalf("Scan(%q): %v, %d, %v", s, l, end, ok)
	}
	return l
}

// groupsOf are groups with these texts, from number 0 on.
func groupsOf(texts ...string) [][]rune {
	var groups [][]rune
	for _, s := range texts {
		groups = append(groups, []rune(s))
	}
	return groups
}

// mustFill is that the parts make this text of the groups.
func mustFill(t *testing.T, want string, groups [][]rune, l ...api.Form) {
	t.Helper()
	if got := transform.Fill(l, groups); !slices.Equal(got, []rune(want)) {
		t.Errorf("Fill of %d parts, the first ones %v, with %d groups: %.60q, want %.60q", len(l), l[:min(len(l), 3)], len(groups), string(got), want)
	}
}

// mustRun is that a text becomes this one.
func mustRun(t *testing.T, s, pattern, forms string, all, fold bool, want string) {
	t.Helper()
	got, f := transform.Run([]rune(s), []rune(pattern), parts(t, forms), all, fold)
	if string(got) != want || f != (api.Fault{}) {
		t.Errorf("Run(%.40q, %q, %.40q, %v, %v): %.40q, %v, want %.40q", s, pattern, forms, all, fold, string(got), f, want)
	}
}

// mustFail is that there is this fault, whether all matches are asked for or not, and no text.
func mustFail(t *testing.T, s, pattern []rune, l []api.Form, code api.Errno, at int) {
	t.Helper()
	for i := range 4 {
		got, f := transform.Run(s, pattern, l, i%2 == 1, i/2 == 1)
		if len(got) > 0 || f != (api.Fault{Code: code, At: at}) {
			t.Errorf("Run(%.20q, %.20q, %d parts): %d elements, %v, want %d at %d", string(s), string(pattern), len(l), len(got), f, code, at)
		}
	}
}

// noForms are lists that format.May refuses, nearly all of which would make a text if they were followed as they are.
func noForms() [][]api.Form {
	bad := [][]api.Form{
		{text("a"), text("b")},
		{text("a"), {Kind: -1, Text: []rune("b")}},
		{text("a"), {Kind: 5, Text: []rune("b"), Else: []rune("c")}},
		{group(0, -1)},
		{group(0, 6)},
		{group(-1, 0), text("a")},
		{group(100, 0), text("a")},
		{ifPart(math.MinInt, "a"), text("a")},
		{elsePart(math.MaxInt, "a"), text("a")},
		{{Kind: api.FormText, Group: 1, Text: []rune("a")}},
		{{Kind: api.FormText, Text: []rune("a"), Else: []rune("b")}},
		{{Kind: api.FormText, Case: 1, Text: []rune("a")}},
		{{Kind: api.FormGroup, Text: []rune("a")}},
		{{Kind: api.FormGroup, Else: []rune("a")}},
		{{Kind: api.FormIf, Case: 1, Text: []rune("a")}},
		{{Kind: api.FormIf, Text: []rune("a"), Else: []rune("b")}},
		{{Kind: api.FormElse, Text: []rune("a"), Else: []rune("b")}},
		{{Kind: api.FormBoth, Case: 2, Text: []rune("a"), Else: []rune("b")}},
		{{Kind: api.FormText}},
	}
	for _, r := range []rune{-1, 0xd800, 0xdfff, 0x110000} {
		bad = append(bad, []api.Form{text("b"), {Kind: api.FormIf, Text: []rune{'a', r}}}, []api.Form{text("b"), {Kind: api.FormElse, Else: []rune{r, 'a'}}})
	}
	return bad
}

func TestP121EachKind(t *testing.T) {
	for _, number := range []int{0, 1, 2, 98, 99} {
		groups := make([][]rune, 100)
		groups[number] = []rune("xY z")
		mustFill(t, "xY z", groups, group(number, api.CaseNone))
		mustFill(t, "a", groups, ifPart(number, "a"))
		mustFill(t, "", groups, ifPart(number, ""))
		mustFill(t, "xY z", groups, elsePart(number, "a"))
		mustFill(t, "a", groups, both(number, "a", "b"))
		mustFill(t, "", groups, both(number, "", "b"))
		groups[number] = []rune{}
		// An empty group is as one that is not there, the list being too short for it, or empty.
		for _, groups := range [][][]rune{groups, groups[:number], nil, {}} {
			mustFill(t, "", groups, group(number, api.CaseNone))
			mustFill(t, "", groups, group(number, api.CaseUp))
			mustFill(t, "", groups, ifPart(number, "a"))
			mustFill(t, "a", groups, elsePart(number, "a"))
			mustFill(t, "", groups, elsePart(number, ""))
			mustFill(t, "b", groups, both(number, "a", "b"))
			mustFill(t, "", groups, both(number, "a", ""))
		}
	}
	mustFill(t, "$1/\\", groupsOf("a", "b"), text("$1/\\"))
	mustFill(t, " ", groupsOf(" "), group(0, 0))
	mustFill(t, "a", groupsOf("\n"), ifPart(0, "a")) // what is blank is not empty
}

func TestP121Cases(t *testing.T) {
	groups := groupsOf("fOO_bar-éx", "", "--_", "a", "_ab cd")
	want := [][5]string{
		api.CaseNone:   {"fOO_bar-éx", "", "--_", "a", "_ab cd"},
		api.CaseUp:     {"FOO_BAR-ÉX", "", "--_", "A", "_AB CD"},
		api.CaseDown:   {"foo_bar-éx", "", "--_", "a", "_ab cd"},
		api.CaseCap:    {"FOO_bar-éx", "", "--_", "A", "_ab cd"},
		api.CasePascal: {"FOOBarÉx", "", "", "A", "AbCd"},
		api.CaseCamel:  {"fOOBarÉx", "", "", "a", "abCd"},
	}
	for how, texts := range want {
		for number, s := range texts {
			mustFill(t, s, groups, group(number, how))
		}
	}
	// Only a FormGroup has a case.
	mustFill(t, "fOO_bar-éx", groups, elsePart(0, "a"))
}

func TestP121Concatenation(t *testing.T) {
	groups := groupsOf("whole", "one", "")
	mustFill(t, "", groups)
	mustFill(t, "a-one-whole-b", groups, text("a-"), group(1, 0), text("-"), group(0, 0), text("-b"))
	mustFill(t, "oneoneONE", groups, group(1, 0), group(1, 0), group(1, api.CaseUp))
	mustFill(t, "xyn", groups, ifPart(1, "x"), ifPart(2, "z"), elsePart(2, "y"), both(2, "m", "n"))
	mustFill(t, "$0${1}", groups, text("$0"), ifPart(0, "${1}")) // a text is not read again
	for n := range 40 {
		mustFill(t, strings.Repeat("wholea", n), groups, slices.Repeat([]api.Form{group(0, 0), text("a")}, n)...)
	}
}

func TestP121NotMay(t *testing.T) {
	for _, l := range noForms() {
		if format.May(l) {
			t.Fatalf("May of %v", l)
		}
		for _, l := range [][]api.Form{l, append([]api.Form{group(0, 0)}, l...), append(slices.Clone(l), group(0, 0))} {
			mustFill(t, "", groupsOf("a", "b"), l...)
		}
	}
}

// TestP121Long is that neither groups nor the text that they make have a greatest length.
func TestP121Long(t *testing.T) {
	long := strings.Repeat("ab", api.MaxText)
	mustFill(t, long, groupsOf(long), group(0, 0))
	mustFill(t, long+"-"+strings.ToUpper(long), groupsOf("", long), group(1, 0), text("-"), group(1, api.CaseUp))
	mustFill(t, long+long, groupsOf("a"), text(long), ifPart(0, long))
	mustFill(t, strings.Repeat("a", 1<<17), groupsOf("a"), slices.Repeat([]api.Form{group(0, 0)}, 1<<17)...)
	many := make([][]rune, 1<<12)
	many[1<<12-1] = []rune("a")
	mustFill(t, "", many, group(99, 0))
}

// TestP121NoCharacters is that the chapter asks only the parts to hold nothing but characters.
func TestP121NoCharacters(t *testing.T) {
	odd := []rune{-1, 'a', 0xd800, math.MaxInt32}
	groups := [][]rune{odd}
	for how, want := range map[int][]rune{
		api.CaseNone:   odd,
		api.CaseUp:     {-1, 'A', 0xd800, math.MaxInt32},
		api.CasePascal: {'A'},
	} {
		if got := transform.Fill([]api.Form{group(0, how)}, groups); !slices.Equal(got, want) {
			t.Errorf("case %d: %v, want %v", how, got, want)
		}
	}
	if got := transform.Fill([]api.Form{elsePart(0, "b")}, groups); !slices.Equal(got, odd) {
		t.Errorf("%v, want %v", got, odd)
	}
	mustFill(t, "b", [][]rune{{-1}}, ifPart(0, "b"))
}

func TestP122Replaced(t *testing.T) {
	cases := []struct {
		s, pattern, forms string
		first, all        string
	}{
		{"ab", "b", "${0:/upcase}", "aB", "aB"},
		{"abab", "b", "x", "axab", "axax"},
		{"abab", "a", "", "bab", "bb"},
		{"aaaa", "aa", "a", "aaa", "aa"},       // what is put is not looked through again
		{"aaaaa", "aa", "b", "baaa", "bba"},    // matches do not overlap
		{"ab", "", "-", "-ab", "-a-b-"},        // an empty match before each element and at the end
		{"baac", "a*", "-", "-baac", "-b--c-"}, // also one behind a match that is not empty
		{"", "", "-", "-", "-"},
		{"", "^$", "-", "-", "-"},
		{"a\nb", "^|$", "|", "|a\nb", "|a\nb|"},
		{"aba", "^a", "x", "xba", "xba"}, // the text begins only once
		{"aba", "a$", "x", "abx", "abx"},
		{"abc", ".*", "[$0]", "[abc]", "[abc][]"},
		{"a,b;c", "[,;]", "${0}${0}", "a,,b;c", "a,,b;;c"},
		{"one two", "\\w+", "${0:/capitalize}", "One two", "One Two"},
		{"one two", "(\\w)(\\w*)", "$2$1", "neo two", "neo wot"},
		{"foo_bar", "(\\w)([a-z]*)_([a-z]*)", "${3:/capitalize}${1:/upcase}$2", "BarFoo", "BarFoo"},
		{"dég", "é", "${0:/upcase}", "dÉg", "dÉg"},
	}
	for _, c := range cases {
		mustRun(t, c.s, c.pattern, c.forms, false, false, c.first)
		mustRun(t, c.s, c.pattern, c.forms, true, false, c.all)
	}
}

// TestP122Groups is that the groups are those of each match, also those that were not gone through, and those that the pattern does not have.
func TestP122Groups(t *testing.T) {
	mustRun(t, "abc", "(x)?b", "${1:?y:n}", true, false, "anc")
	mustRun(t, "abc", "(x)?b", "[$1]", true, false, "a[]c")
	mustRun(t, "abc", "(x*)b", "${1:-none}", true, false, "anonec") // an empty group is as one whose indices are -1
	mustRun(t, "ba", "(a)|(b)", "${1:?1:-}${2:?2:-}", true, false, "-21-")
	mustRun(t, "xaxb", "(?:(a)|(b))", "<${1:/upcase}$2>", true, false, "x<A>x<b>")
	mustRun(t, "aab", "(?:(a)|b)*", "$1!", false, false, "a!")
	mustRun(t, "ab", "(a)(b)", "$2$1$0$3$9$10$99", true, false, "baab")
	mustRun(t, "ab", "(a)(b)", "${3:?y:n}${4:-m}${99:+k}", true, false, "nm")
	mustRun(t, "abc", "(?:b)", "[$1]", true, false, "a[]c")
	mustRun(t, "ab", "((a)(b))", "$1,$2,$3", true, false, "ab,a,b")
	mustRun(t, "a", "()a", "${0:+w}${1:+g}", true, false, "w")
	mustRun(t, "abcdefghi", "(.)(.)(.)(.)(.)(.)(.)(.)(.)", "$9$8$7$6$5$4$3$2$1", true, false, "ihgfedcba")
	mustRun(t, "ba", "(a){0}b", "${1:-n}", true, false, "na")
}

func TestP122Fold(t *testing.T) {
	mustRun(t, "aAbB", "a", "-", true, false, "-AbB")
	mustRun(t, "aAbB", "a", "-", true, true, "--bB")
	mustRun(t, "aAbB", "B", "-", false, true, "aA-B")
	mustRun(t, "éÉ", "É", "$0$0", true, true, "ééÉÉ") // as it stands in the text
	mustRun(t, "aA", "[^A]", "-", true, true, "aA")
	mustRun(t, "aA", "[^A]", "-", true, false, "-A")
}

// TestP122NotMay is that each of the three reasons is ErrForm at 0, wherever it stands, and ahead of the pattern's fault.
func TestP122NotMay(t *testing.T) {
	patterns := [][]rune{nil, []rune("b"), []rune("**"), []rune("("), {-1}, []rune(strings.Repeat("a", api.MaxPattern+1))}
	good := []api.Form{text("x")}
	long := []rune(strings.Repeat("a", api.MaxText+1))
	for _, p := range patterns {
		for _, bad := range []rune{-1, math.MinInt32, math.MaxInt32, 0xd800, 0xdbff, 0xdfff, 0x110000} {
			for at := range 4 {
				s := []rune("abac")
				s[at] = bad
				mustFail(t, s, p, good, api.ErrForm, 0)
			}
		}
		mustFail(t, long, p, good, api.ErrForm, 0)
		mustFail(t, append(slices.Clone(long), long...), p, nil, api.ErrForm, 0)
		for _, l := range noForms() {
			mustFail(t, []rune("aba"), p, l, api.ErrForm, 0)
			mustFail(t, nil, p, l, api.ErrForm, 0)
			mustFail(t, long, p, l, api.ErrForm, 0)
		}
	}
	mustRun(t, "\x00\ud7ff\ue000\U0010ffff", ".$", "-", true, false, "\x00\ud7ff\ue000-")
}

func TestP122FaultsOfThePattern(t *testing.T) {
	full := []rune(strings.Repeat("a", api.MaxText))
	patterns := [][]rune{{'a', 0xd800}, {-1}}
	for _, p := range []string{"**", "a**", "(", "a)", "[", "[b-a]", "a{3,2}", "\\", "\\a", strings.Repeat("a", api.MaxPattern+1), strings.Repeat("(", 14), strings.Repeat("(?:", 14), "(?:(?:a{9}){9}){4}"} {
		patterns = append(patterns, []rune(p))
	}
	for _, p := range patterns {
		m, f := rematch.New(p, false)
		if m != nil || f.Code == api.OK {
			t.Fatalf("New(%q): %v", string(p), f)
		}
		// Whether there would be a match, or a text that is too long, plays no part.
		for _, s := range [][]rune{nil, []rune("a"), []rune("b"), full} {
			mustFail(t, s, p, []api.Form{text("xxx")}, f.Code, f.At)
			mustFail(t, s, p, nil, f.Code, f.At)
		}
	}
	mustFail(t, nil, []rune("a**"), nil, api.ErrSyntax, 2)
	mustFail(t, nil, []rune("(?:(?:a{9}){9}){4}"), nil, api.ErrFull, 18)
	mustFail(t, nil, []rune(strings.Repeat("a", 61)), nil, api.ErrFull, 60)
}

// TestP122Full is that only the length of the whole result counts, up to MaxText.
func TestP122Full(t *testing.T) {
	a := func(n int) string { return strings.Repeat("a", n) }
	full := a(api.MaxText)
	mustRun(t, full, "a", "b", true, false, strings.Repeat("b", api.MaxText))
	mustRun(t, full, "a*", "$0", true, false, full)
	mustRun(t, full[1:], "$", "b", true, false, full[1:]+"b")
	mustRun(t, full[2:], "^|$", "b", true, false, "b"+full[2:]+"b")
	mustRun(t, a(api.MaxText/2), "a", "$0$0", true, false, full)
	mustRun(t, "b", "b", full, true, false, full)
	mustRun(t, "", "", full, false, false, full)
	mustRun(t, "aab", "b", a(api.MaxText-2), false, false, full)
	mustRun(t, "baa", "b", a(api.MaxText-2), false, false, full)

	tooLong := []struct{ s, pattern, forms string }{
		{full, "^", "b"}, {full, "$", "b"}, {full, "a", "$0$0"}, {full, "a*", "$0b"},
		{full[1:], "a", "$0$0$0"}, {full[1:], "^", "bb"}, {full[1:], "$", "bb"}, {"", "", full + "a"}, {"b", "b", full + "a"},
		{"aab", "b", a(api.MaxText - 1)}, {"baa", "b", a(api.MaxText - 1)}, // with what stands before, and with what stands behind
		{full, "a*", "$0$0"}, {full, "(a*)", "$1$0$1$0"}, {full, "(a*)", "${1:/upcase}${1:/camelcase}"},
		{full, "^a", "${0:?bb:}"}, {full, "(b)?", "${1:-a}"},
	}
	for _, c := range tooLong {
		mustFail(t, []rune(c.s), []rune(c.pattern), parts(t, c.forms), api.ErrFull, 0)
	}
	// All matches make it too long, the first one alone does not.
	got, f := transform.Run([]rune(full[2:]), []rune("a"), parts(t, "bb"), false, false)
	if len(got) != api.MaxText-1 || f != (api.Fault{}) {
		t.Errorf("%d elements, %v", len(got), f)
	}
	got, f = transform.Run([]rune(full[2:]), []rune("a"), parts(t, "bb"), true, false)
	if len(got) > 0 || f != (api.Fault{Code: api.ErrFull}) {
		t.Errorf("%d elements, %v", len(got), f)
	}
}

// TestP122FullOnTheWay is that what some matches add others may take away again, in any order.
func TestP122FullOnTheWay(t *testing.T) {
	half := api.MaxText / 2
	as, bs, cs := strings.Repeat("a", half), strings.Repeat("b", half), strings.Repeat("cc", half)
	mustRun(t, as+bs, "(a)|b", "${1:+cc}", true, false, cs)
	mustRun(t, bs+as, "(a)|b", "${1:+cc}", true, false, cs)
	mustRun(t, strings.Repeat("ab", half), "(a)|b", "${1:+cc}", true, false, cs)
	mustRun(t, as+bs, "(a+)b+", "$1$1", true, false, as+as)
	mustRun(t, as+strings.Repeat("-", half), "(a+)(-+)", "$1$1${2:/pascalcase}", false, false, as+as)
}

// TestP122LongParts is that a text which is not told may be as long as it likes.
func TestP122LongParts(t *testing.T) {
	long := strings.Repeat("a", 1<<16)
	mustRun(t, "abc", "(x)?b", "${1:+"+long+"}", true, false, "ac")
	mustRun(t, "abc", "(x)?b", "${1:?"+long+":d}", true, false, "adc")
	mustRun(t, "abc", "b", "${0:-"+long+"}", true, false, "abc")
	mustRun(t, "abc", "b", "${0:?d:"+long+"}", true, false, "adc")
	mustRun(t, "abc", "d", long, true, false, "abc")
	mustFail(t, []rune("abc"), []rune("b"), parts(t, long), api.ErrFull, 0)
}

// TestP122ManyParts is that a text is given up as soon as it is too long: put together as a whole, these would be of more than 2 to the 34 elements.
func TestP122ManyParts(t *testing.T) {
	full := []rune(strings.Repeat("a", api.MaxText))
	const n = 1 << 18
	for _, part := range []api.Form{group(0, 0), group(0, api.CaseUp), ifPart(0, "ab"), elsePart(0, "b"), both(0, "a", "b"), both(1, "a", "bc")} {
		many := slices.Repeat([]api.Form{part}, n)
		for _, pattern := range []string{"a", "a*", "^a*", "(b)?a"} {
			mustFail(t, full, []rune(pattern), many, api.ErrFull, 0)
		}
		got, f := transform.Run(full, []rune("b"), many, true, false)
		if !slices.Equal(got, full) || f != (api.Fault{}) {
			t.Errorf("%v: %d elements, %v", part, len(got), f)
		}
	}
	none := slices.Repeat([]api.Form{ifPart(1, "a")}, n)
	got, f := transform.Run([]rune("aba"), []rune("a"), none, true, false)
	if string(got) != "b" || f != (api.Fault{}) {
		t.Errorf("%q, %v", string(got), f)
	}
}

func TestP123NoMatch(t *testing.T) {
	full := strings.Repeat("ab", api.MaxText/2)
	for _, s := range []string{"", "a", "abc", "\x00é\n\t\U0010ffff", "$1\\/", full} {
		for _, pattern := range []string{"q", "Q", "^q", "q$", "(q)(x)?", "a{9}q", "[^\x00-\U0010ffff]", "$.", ".^", "qa*"} {
			for _, forms := range []string{"", "z", "$0", "${1:-z}", full + full} {
				for i := range 4 {
					mustRun(t, s, pattern, forms, i%2 == 1, i/2 == 1, s)
				}
			}
		}
	}
}

// TestP122NilAndEmpty is R3.
func TestP122NilAndEmpty(t *testing.T) {
	for _, empty := range [][]rune{nil, {}} {
		for _, none := range [][]api.Form{nil, {}} {
			for _, all := range []bool{false, true} {
				got, f := transform.Run(empty, empty, none, all, all)
				if len(got) != 0 || f != (api.Fault{}) {
					t.Errorf("Run of nothing: %v, %v", got, f)
				}
				got, f = transform.Run([]rune("abc"), empty, none, all, all)
				if string(got) != "abc" || f != (api.Fault{}) {
					t.Errorf("Run of nothing in abc: %q, %v", string(got), f)
				}
				got, f = transform.Run([]rune("abc"), []rune("."), none, all, all)
				if want := map[bool]string{false: "bc", true: ""}[all]; string(got) != want || f != (api.Fault{}) {
					t.Errorf("Run of . in abc: %q, %v, want %q", string(got), f, want)
				}
			}
			mustFill(t, "", [][]rune{empty}, none...)
		}
		l := []api.Form{{Kind: api.FormBoth, Text: empty, Else: empty}, {Kind: api.FormElse, Text: empty, Else: []rune("a")}, {Kind: api.FormGroup, Text: empty, Else: empty}}
		mustFill(t, "a", [][]rune{empty}, l...)
		mustFill(t, "bb", groupsOf("b"), l...)
	}
}

// TestP121OwnMemory is R4, R5 and R10 for Fill.
func TestP121OwnMemory(t *testing.T) {
	const written = "abcdefgh!!"
	spare := []rune(written)
	l := []api.Form{{Kind: api.FormText, Text: spare[:2]}, {Kind: api.FormGroup}, {Kind: api.FormIf, Text: spare[2:3]}, {Kind: api.FormElse, Group: 1, Else: spare[3:4]}, {Kind: api.FormBoth, Text: spare[4:5], Else: spare[5:6]}}
	groups := [][]rune{spare[6:8], nil, spare[:1]}[:2]
	before := fmt.Sprint(l, groups)
	// Each part alone, since a result of one part is the likeliest to be the part itself.
	for i := range len(l) + 1 {
		some := l
		if i < len(l) {
			some = l[i : i+1]
		}
		first, second := transform.Fill(some, groups), transform.Fill(some, groups)
		want := string(first)
		spoil(first)
		third := transform.Fill(some, groups)
		if want == "" || string(second) != want || string(third) != want {
			t.Errorf("part %d: %q and %q, want %q", i, string(second), string(third), want)
		}
		spoil(second)
		if string(spare) != written || fmt.Sprint(l, groups) != before {
			t.Fatalf("part %d: the arguments are %q, %v, %q", i, string(spare), l, groups)
		}
	}
}

// spoil overwrites s and its spare capacity.
func spoil(s []rune) {
	s = s[:cap(s)]
	for i := range s {
		s[i] = '?'
	}
}

// TestP122OwnMemory is R4, R5 and R10 for Run.
func TestP122OwnMemory(t *testing.T) {
	const written = "xaxb(a)|bZ!!"
	spare := []rune(written)
	s, pattern := spare[:4], spare[4:9]
	cases := [][]api.Form{nil, {{Kind: api.FormGroup}}, {{Kind: api.FormText, Text: spare[9:10]}}, {{Kind: api.FormElse, Group: 1, Else: spare[9:10]}, {Kind: api.FormBoth, Group: 1, Text: spare[3:4], Else: spare[:1]}}}
	want := [][2]string{{"xxb", "xx"}, {"xaxb", "xaxb"}, {"xZxb", "xZxZ"}, {"xabxb", "xabxZx"}}
	for i, l := range cases {
		before := fmt.Sprint(l)
		for k, all := range []bool{false, true} {
			first, _ := transform.Run(s, pattern, l, all, false)
			second, _ := transform.Run(s, pattern, l, all, false)
			if string(first) != want[i][k] {
				t.Errorf("case %d: %q, want %q", i, string(first), want[i][k])
			}
			spoil(first)
			third, _ := transform.Run(s, pattern, l, all, false)
			if string(second) != want[i][k] || string(third) != want[i][k] {
				t.Errorf("case %d: %q and %q, want %q", i, string(second), string(third), want[i][k])
			}
			same, _ := transform.Run(s, spare[9:10], l, all, false) // no match
			if string(same) != "xaxb" {
				t.Errorf("case %d: %q without a match", i, string(same))
			}
			spoil(same)
			spoil(second)
			if string(spare) != written || fmt.Sprint(l) != before {
				t.Fatalf("case %d: the arguments are %q, %v", i, string(spare), l)
			}
		}
	}
}
