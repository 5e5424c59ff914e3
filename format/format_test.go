package format_test

import (
	"fmt"
	"math"
	"slices"
	"strings"
	"testing"

	"standish/api"
	"standish/format"
	"standish/signs"
)

func ExampleScan() {
	parts, end, ok := format.Scan([]rune("a$1${2:+b}/i"), 0)
	for _, f := range parts {
		fmt.Printf("%d %d %q\n", f.Kind, f.Group, string(f.Text))
	}
	fmt.Println(end, ok)
	// Output:
	// 0 0 "a"
	// 1 1 ""
	// 2 2 "b"
	// 10 true
}

func ExamplePrint() {
	text, ok := format.Print([]api.Form{{Text: []rune("a/b")}, {Kind: api.FormGroup, Group: 1, Case: api.CaseUp}})
	fmt.Println(string(text), ok)
	// Output: a\/b${1:/upcase} true
}

// The parts that must be returned.

func text(s string) api.Form { return api.Form{Kind: api.FormText, Text: []rune(s)} }

func group(number, how int) api.Form {
	return api.Form{Kind: api.FormGroup, Group: number, Case: how}
}

func ifPart(number int, s string) api.Form {
	return api.Form{Kind: api.FormIf, Group: number, Text: []rune(s)}
}

func elsePart(number int, s string) api.Form {
	return api.Form{Kind: api.FormElse, Group: number, Else: []rune(s)}
}

func both(number int, s, other string) api.Form {
	return api.Form{Kind: api.FormBoth, Group: number, Text: []rune(s), Else: []rune(other)}
}

// mustScan is that s, with a / behind it, is read as these parts: from its beginning, and behind something else.
func mustScan(t *testing.T, s string, want ...api.Form) {
	t.Helper()
	mustEnd(t, s+"/", len([]rune(s)), want...)
}

// mustEnd is that s is read as these parts, up to the index end.
func mustEnd(t *testing.T, s string, end int, want ...api.Form) {
	t.Helper()
	for _, head := range []string{"", "/", "a$", "${1:", "${1:+\\"} {
		whole := []rune(head + s)
		at := len([]rune(head))
		got, stop, ok := format.Scan(whole, at)
		if !ok || stop != at+end || fmt.Sprint(got) != fmt.Sprint(want) {
			t.Errorf("Scan(%q, %d): %v, %d, %v, want %v, %d", string(whole), at, got, stop, ok, want, at+end)
		}
	}
}

// mustRefuse is that no format begins at this index.
func mustRefuse(t *testing.T, s []rune, at int) {
	t.Helper()
	if l, end, ok := format.Scan(s, at); len(l) != 0 || end != 0 || ok {
		t.Errorf("Scan(%q, %d): %v, %d, %v", string(s), at, l, end, ok)
	}
}

func TestP111Groups(t *testing.T) {
	for n := range 100 {
		for _, digits := range []string{fmt.Sprint(n), fmt.Sprintf("%02d", n)} {
			mustScan(t, "$"+digits, group(n, 0))
			mustScan(t, "${"+digits+"}", group(n, 0))
			mustScan(t, "$"+digits+"a", group(n, 0), text("a"))
			mustScan(t, "$"+digits+"}:", group(n, 0), text("}:"))
			mustScan(t, "${"+digits+"}0", group(n, 0), text("0"))
			mustScan(t, "a$"+digits+"$"+digits+"${"+digits+"}", text("a"), group(n, 0), group(n, 0), group(n, 0))
			mustScan(t, "${"+digits, text("${"+digits))
		}
	}
}

func TestP111NoNumber(t *testing.T) {
	for _, digits := range []string{"", "a", "x1", "000", "001", "010", "100", "123", "0000", "1234567", "1" + strings.Repeat("0", 19), strings.Repeat("9", 100), "-1", "+1", " 1", "_1", "é", "１"} {
		mustScan(t, "$"+digits, text("$"+digits))
		for _, behind := range []string{"", "}", ":/upcase}", ":+a}", ":?a:b}", ":-a}", ":a}"} {
			s := "${" + digits + behind
			read, _, _ := strings.Cut(s, "/")
			mustEnd(t, s+"/", len([]rune(read)), text(read))
		}
	}
	for _, behind := range []string{"a", " ", "1", "1a", " }", "a}", "::", ",", "|a|}", "/", "?a:b}", "+a}", "-a}", "\\:a}", "$"} {
		l, _, ok := format.Scan([]rune("${12"+behind+"/"), 0)
		if !ok || len(l) != 1 || l[0].Kind != api.FormText {
			t.Errorf("Scan of ${12%s/: %v, %v", behind, l, ok)
		}
	}
}

var names = [...]string{api.CaseUp: "upcase", api.CaseDown: "downcase", api.CaseCap: "capitalize", api.CasePascal: "pascalcase", api.CaseCamel: "camelcase"}

func TestP111Cases(t *testing.T) {
	for how, name := range names {
		if how == api.CaseNone {
			continue
		}
		mustScan(t, "${1:/"+name+"}", group(1, how))
		mustScan(t, "a${07:/"+name+"}b${99:/"+name+"}", text("a"), group(7, how), text("b"), group(99, how))
		slips := []string{name + "x}", name + " }", " " + name + "}", "/" + name + "}", ":" + name + "}", strings.ToUpper(name) + "}", strings.ToUpper(name[:1]) + name[1:] + "}", "\\" + name + "}", name, name + "\\}", name + ":}", name + name + "}"}
		for i := range name {
			slips = append(slips, name[:i]+"}", name[:i]+name[i+1:]+"}", name[:i]+"x"+name[i+1:]+"}", name[:i])
		}
		for _, slip := range slips {
			mustEnd(t, "${1:/"+slip+"/", 4, text("${1:"))
		}
	}
	for _, slip := range []string{"", "}", "x}", "1}", "+a}", "none}", "case}", "upcamelcase}"} {
		mustEnd(t, "${1:/"+slip+"/", 4, text("${1:"))
	}
	mustRefuse(t, []rune("${1:/upcase}"), 0)
	mustEnd(t, "${1:/upcase", 4, text("${1:"))
}

func TestP111Texts(t *testing.T) {
	for _, s := range []string{"", "a", "ab", "é\n", "/", "a/b/", "$", "$1", "${1", "{", "{{", ":", "a:b", ":::", "|,", "?", "+", "-", "123", "/upcase"} {
		mustScan(t, "${1:+"+s+"}", ifPart(1, s))
		mustScan(t, "${1:-"+s+"}", elsePart(1, s))
		mustScan(t, "${1:?:"+s+"}", both(1, "", s))
		mustScan(t, "${1:?a:"+s+"}", both(1, "a", s))
		if s == "" || !strings.Contains("/+?-", s[:1]) {
			mustScan(t, "${1:"+s+"}", elsePart(1, s))
		}
		if !strings.Contains(s, ":") {
			mustScan(t, "${1:?"+s+":}", both(1, s, ""))
			mustScan(t, "${1:?"+s+"}:b}", both(1, s+"}", "b"))
		}
		mustScan(t, "x${10:+"+s+"}y${20:-"+s+"}z", text("x"), ifPart(10, s), text("y"), elsePart(20, s), text("z"))
	}
	mustScan(t, "${1:+a}b}", ifPart(1, "a"), text("b}"))
	mustScan(t, "${1:a}b}", elsePart(1, "a"), text("b}"))
	mustScan(t, "${1:?a:b}c:d}", both(1, "a", "b"), text("c:d}"))
	mustScan(t, "${1:?a:b:c}", both(1, "a", "b:c"))
	mustScan(t, "${1:+${2:+a}}", ifPart(1, "${2:+a"), text("}"))
}

// TestP111TheFirstCharacter is what follows the :.
func TestP111TheFirstCharacter(t *testing.T) {
	mustScan(t, "${1:}", elsePart(1, ""))
	mustScan(t, "${1:-}", elsePart(1, ""))
	mustScan(t, "${1:+}", ifPart(1, ""))
	mustScan(t, "${1:?:}", both(1, "", ""))
	mustScan(t, "${1:--}", elsePart(1, "-"))
	mustScan(t, "${1:++}", ifPart(1, "+"))
	mustScan(t, "${1:??:?}", both(1, "?", "?"))
	mustScan(t, "${1:-/}", elsePart(1, "/"))
	mustScan(t, "${1:-+a}", elsePart(1, "+a"))
	mustScan(t, "${1:-?a}", elsePart(1, "?a"))
	mustScan(t, "${1:::}", elsePart(1, "::"))
	mustScan(t, "${1:\\/upcase}", elsePart(1, "/upcase")) // as it stands there, the text begins with a backslash
	mustScan(t, "${1:\\+a}", elsePart(1, "\\+a"))
	mustScan(t, "${1:\\}}", elsePart(1, "}"))
	mustScan(t, "${1: +a}", elsePart(1, " +a"))
}

func TestP111NotClosed(t *testing.T) {
	for _, s := range []string{"${1:+a", "${1:+", "${1:-a", "${1:-", "${1:a", "${1:", "${1:?a:b", "${1:?a:", "${1:?a", "${1:?", "${1:?a}", "${1:?}", "${1", "${", "$", "${1:+${1:-${1:", "$$$", "${1:?a:${1:?b:"} {
		mustScan(t, s, text(s))
		mustScan(t, "b$2"+s, text("b"), group(2, 0), text(s))
		mustScan(t, s+"$3", text(s), group(3, 0))
		mustRefuse(t, []rune(s), 0)
	}
	mustScan(t, "${1:+a\\}", text("${1:+a}"))
	mustScan(t, "${1:+a\\\\\\}", text("${1:+a\\}"))
	mustScan(t, "${1:?a\\:b}", text("${1:?a\\:b}"))
	mustScan(t, "${1:?a\\:b:c\\}", text("${1:?a\\:b:c}"))
	mustScan(t, "${1:?a$2}b", text("${1:?a"), group(2, 0), text("}b"))
	mustScan(t, "${1:?${2}", text("${1:?"), group(2, 0))
	mustScan(t, "${1:+$2${3", text("${1:+"), group(2, 0), text("${3"))
	mustScan(t, "${${1}", text("${"), group(1, 0))
	mustScan(t, "$${1}$2", text("$"), group(1, 0), group(2, 0))
	mustScan(t, "${1$2", text("${1"), group(2, 0))
	mustScan(t, "$123$4", text("$123"), group(4, 0))
	mustScan(t, "${1:?a}${2:+b}", both(1, "a}${2", "+b"))
	mustScan(t, "${1:?a}$2$3", text("${1:?a}"), group(2, 0), group(3, 0))
	mustEnd(t, "${1:/x}${2:+a}/", 4, text("${1:"))
}

// TestP111Backslashes puts each character behind a backslash, outside of parts and in each of their texts.
func TestP111Backslashes(t *testing.T) {
	for c := rune(0); c <= 0x10ffff; c++ {
		if signs.Class(c) == api.ClassNone {
			continue
		}
		outside, inside := []rune{'\\', c}, []rune{'\\', c}
		if strings.ContainsRune("\\$}/", c) {
			outside = []rune{c}
		}
		if strings.ContainsRune("\\}:$/", c) {
			inside = []rune{c}
		}
		s := []rune("\\.${1:+\\.}${2:?\\.:\\.}${3:-\\.}${4:\\.}/")
		for i, r := range s {
			if r == '.' {
				s[i] = c
			}
		}
		l, end, ok := format.Scan(s, 0)
		if !ok || end != len(s)-1 || len(l) != 5 || !slices.Equal(l[0].Text, outside) {
			t.Fatalf("Scan(%q): %v, %d, %v", string(s), l, end, ok)
		}
		for _, got := range [][]rune{l[1].Text, l[2].Text, l[2].Else, l[3].Else, l[4].Else} {
			if !slices.Equal(got, inside) {
				t.Fatalf("Scan(%q): %v", string(s), l)
			}
		}
	}
}

// TestP111RowsOfBackslashes is that backslashes are read in pairs from left to right.
func TestP111RowsOfBackslashes(t *testing.T) {
	for n := range 6 {
		slashes, half := strings.Repeat("\\", 2*n), strings.Repeat("\\", n)
		mustScan(t, "a"+slashes, text("a"+half))
		mustScan(t, slashes+"$1", append(texts(half), group(1, 0))...)
		mustScan(t, slashes+"\\$1", text(half+"$1"))
		mustScan(t, slashes+"\\/", text(half+"/"))
		mustScan(t, slashes+"\\}", text(half+"}"))
		mustScan(t, slashes+"\\a", text(half+"\\a"))
		mustScan(t, slashes+"\\:", text(half+"\\:"))
		mustScan(t, "${1:+"+slashes+"}b", ifPart(1, half), text("b"))
		mustScan(t, "${1:+"+slashes+"\\}b}", ifPart(1, half+"}b"))
		mustScan(t, "${1:?"+slashes+":b}", both(1, half, "b"))
		mustScan(t, "${1:?"+slashes+"\\:b:c}", both(1, half+":b", "c"))
		mustScan(t, "${1:?"+slashes+"\\}b:c}", both(1, half+"}b", "c"))
	}
}

func texts(s string) []api.Form {
	if s == "" {
		return nil
	}
	return []api.Form{text(s)}
}

func TestP111PlainText(t *testing.T) {
	mustScan(t, "")
	for c := rune(0); c <= 0x10ffff; c++ {
		if signs.Class(c) == api.ClassNone || c == '/' || c == '\\' {
			continue
		}
		l, end, ok := format.Scan([]rune{c, c, '/'}, 0)
		if !ok || end != 2 || len(l) != 1 || l[0].Kind != api.FormText || !slices.Equal(l[0].Text, []rune{c, c}) {
			t.Fatalf("Scan of %x: %v, %d, %v", c, l, end, ok)
		}
	}
	mustScan(t, "a}b{:c|d,e", text("a}b{:c|d,e"))
	mustScan(t, "a\\$b$c\\\\d", text("a$b$c\\d")) // what is escaped, what is not read as a part, and what is plain: one text
	mustScan(t, "$1a$2b\nc$3", group(1, 0), text("a"), group(2, 0), text("b\nc"), group(3, 0))
}

func TestP111Ends(t *testing.T) {
	mustEnd(t, "//", 0)
	mustEnd(t, "/a/", 0)
	mustEnd(t, "a/b/", 1, text("a"))
	mustEnd(t, "$1/$2/", 2, group(1, 0))
	mustEnd(t, "\\//a/", 2, text("/"))
	mustEnd(t, "\\\\/a/", 2, text("\\"))
	mustEnd(t, "\\a/", 2, text("\\a"))
	mustEnd(t, "${1:+/}/x", 7, ifPart(1, "/"))
	mustEnd(t, "${1:+\\/}/x", 8, ifPart(1, "/"))
	mustEnd(t, "${1/}/", 3, text("${1"))
	mustEnd(t, "$/1", 1, text("$"))
	mustEnd(t, "${1:+a/", 6, text("${1:+a"))
	mustEnd(t, "${1:+a}/}", 7, ifPart(1, "a"))
	for _, s := range []string{"", "a", "\\", "\\/", "a\\/", "$1", "$", "${1:+/}", "${1:-/}", "${1:/}", "${1:?/:/}", "\\\\\\/"} {
		if s == "${1:/}" {
			mustEnd(t, s, 4, text("${1:"))
			continue
		}
		mustRefuse(t, []rune(s), 0)
	}
}

// TestP111At is that each index is a beginning, whatever stands before it.
func TestP111At(t *testing.T) {
	s := []rune("a\\/${1:+b}$12//")
	for at := range len(s) + 1 {
		l, end, ok := format.Scan(s, at)
		alone, stop, too := format.Scan(s[at:], 0)
		if at == len(s) {
			mustRefuse(t, s, at)
			continue
		}
		if !ok || !too || end != at+stop || fmt.Sprint(l) != fmt.Sprint(alone) {
			t.Errorf("Scan(%q, %d): %v, %d, %v, alone: %v, %d, %v", string(s), at, l, end, ok, alone, stop, too)
		}
	}
	for _, at := range []int{-1, -2, len(s) + 1, len(s) + 2, math.MaxInt, math.MinInt, math.MaxInt32 + 1, -len(s)} {
		mustRefuse(t, s, at)
	}
	for _, empty := range [][]rune{nil, {}} {
		for _, at := range []int{-1, 0, 1} {
			mustRefuse(t, empty, at)
		}
	}
}

// TestP111NoCharacter puts what is no character at each index, also before the beginning and behind the end.
func TestP111NoCharacter(t *testing.T) {
	for _, bad := range []rune{-1, math.MinInt32, math.MaxInt32, 0xd800, 0xdbff, 0xdfff, 0x110000} {
		for i := range 8 {
			s := []rune("ab$1c//x")
			s[i] = bad
			for at := range len(s) + 1 {
				mustRefuse(t, s, at)
			}
		}
	}
	mustScan(t, "\ud7ff\ue000\x00\U0010ffff", text("\ud7ff\ue000\x00\U0010ffff"))
}

// TestP111Long is that long texts are read, and none of them in a time that grows with its square: that would be many minutes.
func TestP111Long(t *testing.T) {
	for _, unit := range []string{"${1:+", "${1:-a", "${1:", "${1:?a:", "${1:?", "$1", "$123", "${1", "$", "a", "\\$", "${1:?\\}:\\\\", "${1:+\\:a"} {
		s := []rune(strings.Repeat(unit, 1<<18) + "/")
		l, end, ok := format.Scan(s, 0)
		if !ok || end != len(s)-1 || len(l) == 0 {
			t.Errorf("Scan of many %q: %d parts, %d, %v", unit, len(l), end, ok)
		}
		mustRefuse(t, s[:len(s)-1], 0)
	}
}

// TestP111OwnMemory is R3, R4 and R10: what stands behind a text plays no part, no call changes it, and nothing shares memory.
func TestP111OwnMemory(t *testing.T) {
	const written = "ab\\/${1:+cd}$2e${3:?f\\:g:hi}${4:-jk}l${5:m}/n/"
	whole := []rune(written)
	for n := range len(whole) + 1 {
		cut, end, ok := format.Scan(whole[:n], 0)
		alone, stop, too := format.Scan([]rune(string(whole[:n])), 0)
		if end != stop || ok != too || fmt.Sprint(cut) != fmt.Sprint(alone) || string(whole) != written {
			t.Errorf("Scan(%q) with more behind it: %v, %d, %v, alone: %v, %d, %v", string(whole[:n]), cut, end, ok, alone, stop, too)
		}
	}
	first, _, _ := format.Scan(whole, 0)
	second, _, _ := format.Scan(whole, 0)
	before := fmt.Sprint(first)
	for i := range second {
		for _, part := range []*[]rune{&second[i].Text, &second[i].Else} {
			spoiled := (*part)[:cap(*part)]
			*part = nil
			want := fmt.Sprint(second)
			for k := range spoiled {
				spoiled[k] = '!'
			}
			if fmt.Sprint(second) != want {
				t.Errorf("a text of part %d shares memory with another one", i)
			}
		}
	}
	third, _, _ := format.Scan(whole, 0)
	if string(whole) != written || fmt.Sprint(first) != before || fmt.Sprint(third) != before {
		t.Errorf("results share memory: %v, %v, want %v; the text is %q", first, third, before, string(whole))
	}
}

// may tells by the words of P11.2 what a single part may be.
func may(f api.Form) bool {
	fields := map[int]struct{ group, how, text, other bool }{
		api.FormText:  {text: true},
		api.FormGroup: {group: true, how: true},
		api.FormIf:    {group: true, text: true},
		api.FormElse:  {group: true, other: true},
		api.FormBoth:  {group: true, text: true, other: true},
	}
	uses, known := fields[f.Kind]
	switch {
	case !known, f.Kind == api.FormText && len(f.Text) == 0:
		return false
	case f.Group != 0 && (!uses.group || len(fmt.Sprint(f.Group)) > 2 || f.Group < 0):
		return false
	case f.Case != 0 && (!uses.how || f.Case < 0 || f.Case > 5):
		return false
	case len(f.Text) > 0 && (!uses.text || !signs.May(f.Text)):
		return false
	}
	return len(f.Else) == 0 || uses.other && signs.May(f.Else)
}

// TestP112AnyPart holds May, and whether there is a Print, of parts with all sorts of fields to the words of P11.2.
func TestP112AnyPart(t *testing.T) {
	textsOf := [][]rune{nil, {}, []rune("a"), []rune("\\}:$/"), {0}, {0xd7ff, 0xe000, 0x10ffff}, {-1}, {'a', 0xd800}, {0xdfff, 'a'}, {0x110000}, {math.MinInt32}, {math.MaxInt32}}
	allowed := 0
	for _, kind := range []int{math.MinInt, -2, -1, 0, 1, 2, 3, 4, 5, 6, math.MaxInt} {
		for _, number := range []int{math.MinInt, -100, -1, 0, 1, 9, 10, 98, 99, 100, 101, 999, math.MaxInt} {
			for _, how := range []int{math.MinInt, -2, -1, 0, 1, 2, 3, 4, 5, 6, 7, math.MaxInt} {
				for _, one := range textsOf {
					for _, other := range textsOf {
						f := api.Form{Kind: kind, Group: number, Case: how, Text: one, Else: other}
						want := may(f)
						if want {
							allowed++
						}
						mustMay(t, want, f)
						mustMay(t, want, group(1, 1), f, group(2, 0))
						mustMay(t, want && kind != api.FormText, text("a"), f, text("b"))
					}
				}
			}
		}
	}
	if want := 4*2 + 6*6*2*2 + 6*6*2 + 6*2*6 + 6*6*6; allowed != want {
		t.Errorf("%d parts may be, want %d", allowed, want)
	}
}

// mustMay is what May reports, and that there is a Print only if so.
func mustMay(t *testing.T, want bool, l ...api.Form) {
	t.Helper()
	p, ok := format.Print(l)
	if format.May(l) != want || ok != want || !want && len(p) > 0 {
		t.Fatalf("%v: May: %v, Print: %v, %v, want %v", l, format.May(l), p, ok, want)
	}
}

func TestP112Adjacent(t *testing.T) {
	a, b, g := text("a"), text("b"), group(1, 0)
	mustMay(t, true)
	mustMay(t, true, a)
	mustMay(t, true, g, g)
	mustMay(t, true, a, g, b, g, a)
	mustMay(t, true, g, a, ifPart(1, ""), b, elsePart(1, ""), a, both(1, "", ""), b)
	mustMay(t, true, ifPart(1, "a"), ifPart(1, "a"), elsePart(0, "a"), both(0, "a", "a"), both(0, "a", "a"))
	mustMay(t, false, a, b)
	mustMay(t, false, a, a)
	mustMay(t, false, g, a, b)
	mustMay(t, false, a, g, a, b)
	mustMay(t, false, a, b, g)
	mustMay(t, false, a, g, b, b, g, a)
	mustMay(t, false, a, text(""), b)
	mustMay(t, false, text(""), g)
	mustMay(t, false, g, text(""), g)
	mustMay(t, false, a, g, api.Form{Kind: 5})
	for _, l := range [][]api.Form{nil, {}} {
		if p, ok := format.Print(l); !format.May(l) || !ok || len(p) != 0 {
			t.Errorf("no parts: May: %v, Print: %v, %v", format.May(l), p, ok)
		}
	}
}

// mustPrint is that parts are printed as want, and that this is read as these parts.
func mustPrint(t *testing.T, want string, l ...api.Form) {
	t.Helper()
	got, ok := format.Print(l)
	if !ok || string(got) != want {
		t.Errorf("Print(%v): %q, %v, want %q", l, string(got), ok, want)
	}
	mustReturn(t, l)
}

// mustReturn is P11.3, with more and less behind the /.
func mustReturn(t *testing.T, l []api.Form) {
	t.Helper()
	p, ok := format.Print(l)
	for _, behind := range []string{"/", "/}/$1:", "//"} {
		again, end, too := format.Scan(append(slices.Clone(p), []rune(behind)...), 0)
		if !ok || !too || end != len(p) || fmt.Sprint(again) != fmt.Sprint(l) || !format.May(again) {
			t.Errorf("%v is printed as %q, %v, and read as %v, %d, %v", l, string(p), ok, again, end, too)
		}
	}
}

func TestP112PrintAndP113(t *testing.T) {
	mustPrint(t, "")
	mustPrint(t, "a", text("a"))
	mustPrint(t, "${0}", group(0, 0))
	mustPrint(t, "${1}2${34}", group(1, 0), text("2"), group(34, 0))
	for how, name := range names {
		if how > 0 {
			mustPrint(t, "${9:/"+name+"}", group(9, how))
			mustPrint(t, "${10:/"+name+"}a${99:/"+name+"}", group(10, how), text("a"), group(99, how))
		}
	}
	mustPrint(t, "${1:+}${2:-}${3:?:}", ifPart(1, ""), elsePart(2, ""), both(3, "", ""))
	mustPrint(t, "${1:+a}${2:-b}${3:?c:d}", ifPart(1, "a"), elsePart(2, "b"), both(3, "c", "d"))
	const all = "a\\b}c$d/e:f{g|h,i-j+k?l"
	const inside = "a\\\\b\\}c\\$d\\/e\\:f{g|h,i-j+k?l"
	mustPrint(t, strings.Replace(inside, "\\:", ":", 1), text(all))
	mustPrint(t, "${1:+"+inside+"}", ifPart(1, all))
	mustPrint(t, "${1:-"+inside+"}", elsePart(1, all))
	mustPrint(t, "${1:?"+inside+":"+inside+"}", both(1, all, all))
	mustPrint(t, "\\${1\\}", text("${1}"))
}

// TestP113AnyCharacter is P11.3 for the first characters and some of the others, alone and behind a backslash, and for each number.
func TestP113AnyCharacter(t *testing.T) {
	for c := rune(0); c <= 0x10ffff; c++ {
		if signs.Class(c) == api.ClassNone || c > 0x1000 && c%23 != 0 && c != 0x10ffff {
			continue
		}
		one, other := []rune{c}, []rune{'\\', c}
		l := []api.Form{{Text: one}, {Kind: api.FormIf, Text: other}, {Text: other}, {Kind: api.FormElse, Else: one}, {Kind: api.FormElse, Else: other}, {Kind: api.FormBoth, Text: one, Else: other}, {Kind: api.FormBoth, Text: other, Else: one}, {Text: one}}
		p, ok := format.Print(l)
		again, end, too := format.Scan(append(p, '/'), 0)
		if !ok || !too || end != len(p) || !slices.EqualFunc(again, l, sameForm) {
			t.Fatalf("%x: Print: %q, %v, read as %v", c, string(p), ok, again)
		}
	}
	for n := range 100 {
		mustPrint(t, fmt.Sprintf("${%d}", n), group(n, 0))
		mustPrint(t, fmt.Sprintf("${%d:/downcase}", n), group(n, 2))
		mustPrint(t, fmt.Sprintf("${%d:+a}${%d:-b}${%d:?c:d}", n, n, n), ifPart(n, "a"), elsePart(n, "b"), both(n, "c", "d"))
	}
}

func sameForm(f, g api.Form) bool {
	return f.Kind == g.Kind && f.Group == g.Group && f.Case == g.Case && slices.Equal(f.Text, g.Text) && slices.Equal(f.Else, g.Else)
}

// TestP112OwnMemory is R4 and R10 for May and Print.
func TestP112OwnMemory(t *testing.T) {
	spare := []rune("a$b!")
	l := []api.Form{{Text: spare[:2]}, {Kind: api.FormIf, Group: 1, Text: spare[2:3]}, {Kind: api.FormBoth, Group: 2, Text: spare[:1], Else: spare[1:2]}, {Kind: 9}}
	before := fmt.Sprint(l)
	first, _ := format.Print(l[:3])
	second, _ := format.Print(l[:3])
	const want = "a\\$${1:+b}${2:?a:\\$}"
	if string(first) != want || !format.May(l[:3]) || format.May(l) {
		t.Errorf("Print: %q, want %q; May: %v, %v", string(first), want, format.May(l[:3]), format.May(l))
	}
	spoiled := first[:cap(first)]
	for i := range spoiled {
		spoiled[i] = '?'
	}
	third, _ := format.Print(l[:3])
	if string(second) != want || string(third) != want || fmt.Sprint(l) != before || string(spare) != "a$b!" {
		t.Errorf("%q, %q, %v, %q", string(second), string(third), l, string(spare))
	}
	plain := []api.Form{{Text: spare[:1]}}
	p, _ := format.Print(plain)
	p[0] = '?'
	if spare[0] != 'a' {
		t.Error("Print shares memory with its argument")
	}
}
