package expand_test

import (
	"fmt"
	"math"
	"slices"
	"strings"
	"testing"

	"standish/api"
	"standish/expand"
	"standish/format"
	"standish/show"
	"standish/signs"
	"standish/tree"
)

func ExampleExpand() {
	l, _ := tree.Parse([]rune("a${1:b}$1"))
	x, code := expand.Expand(l, ordinary(), nil, 0)
	fmt.Println(told(x), code == api.OK)
	// Output: "abb" used 0 P1:1-2^-1=0 M1:2-3^-1=0 P0:3-3^-1=2 true
}

// ordinary is an environment in which each of the variables of these tests has a value of its own, but CLIPBOARD an empty one.
func ordinary() api.Env {
	return api.Env{Selected: []rune("s\nl"), Line: []rune("the line"), Word: []rune("w"), File: []rune("a.b"), Dir: []rune("/d"), Index: 6, Clock: [7]int{2026, 3, 9, 4, 5, 6, 1}, Draws: []int{0xaaaaaa, 0xbbbbbb, 0xcccccc, 7, 8, 9, 10}}
}

// told writes a shape: of each field its kind, its number, its span, its Parent, its Of, and what else it has.
func told(x api.Shape) string {
	out := []string{fmt.Sprintf("%q used %d", string(x.Text), x.Used)}
	for _, f := range x.Fields {
		s := fmt.Sprintf("%c%d:%d-%d^%d=%d", "PCMF????"[f.Kind&7], f.Num, f.From, f.To, f.Parent, f.Of)
		for _, item := range f.Items {
			s += "|" + string(item)
		}
		if len(f.Pattern)+len(f.Forms) > 0 || f.All || f.Fold {
			parts, ok := format.Print(f.Forms)
			s += fmt.Sprintf("/%s/%s/%v%v%v", string(f.Pattern), string(parts), f.All, f.Fold, ok)
		}
		out = append(out, s)
	}
	return strings.Join(out, " ")
}

// The nodes.

func text(s string) api.Node        { return api.Node{Text: []rune(s)} }
func tab(num int) api.Node          { return api.Node{Kind: api.NodeTab, Num: num} }
func open(num int) api.Node         { return api.Node{Kind: api.NodePlace, Num: num} }
func variable(name string) api.Node { return api.Node{Kind: api.NodeVar, Text: []rune(name)} }
func openElse(name string) api.Node { return api.Node{Kind: api.NodeElse, Text: []rune(name)} }

func choice(num int, items ...string) api.Node {
	n := api.Node{Kind: api.NodeChoice, Num: num}
	for _, s := range items {
		n.Items = append(n.Items, []rune(s))
	}
	return n
}

func form(num int, pattern, parts string) api.Node {
	return api.Node{Kind: api.NodeForm, Num: num, Pattern: []rune(pattern), Forms: forms(parts)}
}

func varOf(name, pattern, parts string) api.Node {
	return api.Node{Kind: api.NodeVarOf, Text: []rune(name), Pattern: []rune(pattern), Forms: forms(parts)}
}

func forms(s string) []api.Form {
	l, _, _ := format.Scan([]rune(s+"/"), 0)
	return l
}

// flagged is a transformation with flags.
func flagged(n api.Node, all, fold bool) api.Node {
	n.All, n.Fold = all, fold
	return n
}

// at is a node with a Deep.
func at(deep int, n api.Node) api.Node {
	n.Deep = deep
	return n
}

// parsed is the tree of a snippet.
func parsed(t *testing.T, s string) []api.Node {
	t.Helper()
	l, f := tree.Parse([]rune(s))
	if f.Code != api.OK {
		t.Fatalf("Parse(%q): %v", s, f)
	}
	return l
}

// mustExpand is that the snippet s is expanded to a text with fields, which are written as by told, but for a Parent of -1.
func mustExpand(t *testing.T, s, text, fields string) {
	t.Helper()
	x, code := expand.Expand(parsed(t, s), ordinary(), nil, 0)
	x.Used = 0
	got := strings.ReplaceAll(told(x), "^-1", "")
	if want := strings.TrimSuffix(fmt.Sprintf("%q used 0 %s", text, fields), " "); got != want || code != api.OK {
		t.Errorf("Expand(%q): %s, %d, want %s", s, got, code, want)
	}
	mustHold(t, s, x)
}

// mustRefuse is that a tree is not expanded.
func mustRefuse(t *testing.T, want api.Errno, l []api.Node, e api.Env, indent []rune, used int) {
	t.Helper()
	x, code := expand.Expand(l, e, indent, used)
	if code != want || told(x) != told(api.Shape{}) {
		t.Errorf("Expand(%.200s) with indent %q and used %d: %.200s, %d, want %d", written(l), string(indent), used, told(x), code, want)
	}
}

func TestP171Limits(t *testing.T) {
	if got := [...]int{api.MaxText, api.MaxField, api.MaxIndent, api.MaxNest, api.MaxEnv}; got != [...]int{1000, 64, 40, 12, 100} {
		t.Fatalf("the limits are %v", got)
	}
}

// TestP171BadTree is ErrForm for what show.May does not allow.
func TestP171BadTree(t *testing.T) {
	bad := [][]api.Node{
		{text("")}, {text("a"), text("b")}, {at(1, text("a"))}, {tab(1), at(1, text("a"))}, {open(1), at(2, tab(1))}, {{Kind: 8}}, {{Kind: -1}}, {tab(-1)}, {tab(1000)}, {open(1000)}, {choice(1)}, {variable("")}, {openElse("1")}, {variable("é")},
		{form(1, "*", "b")}, {form(1, `\/`, "b")}, {varOf("x", "(", "b")}, {api.Node{Kind: api.NodeForm, Forms: []api.Form{{}}}}, {api.Node{Kind: api.NodeTab, Text: []rune("a")}}, {api.Node{Text: []rune{-1}}}, {at(-1, tab(1))},
		{openElse("TM_CURRENT_WORD"), at(1, tab(1000))}, {open(1), open(1), at(1, text(""))}, slices.Repeat([]api.Node{tab(-1)}, 100),
	}
	for _, l := range bad {
		mustRefuse(t, api.ErrForm, l, ordinary(), nil, 0)
		mustRefuse(t, api.ErrForm, append([]api.Node{tab(1)}, l...), ordinary(), nil, 0)
	}
	var deep []api.Node
	for i := range 13 {
		deep = append(deep, at(i, openElse("NONE")))
	}
	mustRefuse(t, api.ErrForm, deep, ordinary(), nil, 0)
	if _, code := expand.Expand(append(deep[:12], at(12, tab(1))), ordinary(), nil, 0); code != api.OK {
		t.Errorf("12 deep: %d", code)
	}
}

// TestP171BadEnv is ErrForm for what vars.May does not allow, also if no variable asks for it.
func TestP171BadEnv(t *testing.T) {
	spoils := []func(e *api.Env){
		func(e *api.Env) { *e = api.Env{} },
		func(e *api.Env) { e.Clip = []rune{-1} },
		func(e *api.Env) { e.Line = slices.Repeat([]rune{'a'}, 101) },
		func(e *api.Env) { e.Index = 10000 },
		func(e *api.Env) { e.Clock[1] = 0 },
		func(e *api.Env) { e.Draws = make([]int, 41) },
		func(e *api.Env) { e.Draws[3] = -1 },
	}
	for _, spoil := range spoils {
		e := ordinary()
		spoil(&e)
		mustRefuse(t, api.ErrForm, nil, e, nil, 0)
		mustRefuse(t, api.ErrForm, []api.Node{text("a")}, e, nil, 0)
		mustRefuse(t, api.ErrForm, []api.Node{variable("TM_CURRENT_WORD")}, e, nil, 0)
	}
}

func TestP171BadUsed(t *testing.T) {
	for _, used := range []int{-1, -2, -1000, 1001, 1002, 2000, 1 << 32, math.MinInt, math.MaxInt} {
		mustRefuse(t, api.ErrForm, nil, ordinary(), nil, used)
		mustRefuse(t, api.ErrForm, []api.Node{text("a")}, ordinary(), nil, used)
		mustRefuse(t, api.ErrForm, []api.Node{variable("UUID")}, ordinary(), nil, used)
	}
	for used := range 1001 {
		if x, code := expand.Expand([]api.Node{text("a")}, ordinary(), nil, used); code != api.OK || x.Used != used {
			t.Fatalf("used %d: %d, %d", used, x.Used, code)
		}
	}
}

// TestP171BadIndent is every element in an indent, and every length of it.
func TestP171BadIndent(t *testing.T) {
	for c := rune(-2); c <= 0x110001; c++ {
		for _, indent := range [][]rune{{c}, {' ', c}, {c, '\t'}} {
			if c > 0x300 && c%17 != 0 && len(indent) == 2 {
				continue
			}
			if _, code := expand.Expand(nil, ordinary(), indent, 0); (code == api.OK) != (c == ' ' || c == '\t') || code != api.OK && code != api.ErrForm {
				t.Fatalf("indent %x: %d", indent, code)
			}
		}
	}
	mustRefuse(t, api.ErrForm, nil, ordinary(), []rune{math.MinInt32}, 0)
	mustRefuse(t, api.ErrForm, nil, ordinary(), []rune{math.MaxInt32}, 0)
	for n := range 200 {
		for _, c := range " \t" {
			indent := slices.Repeat([]rune{c}, n)
			x, code := expand.Expand([]api.Node{text("a\nb")}, ordinary(), indent, 0)
			if n > 40 {
				mustRefuse(t, api.ErrForm, nil, ordinary(), indent, 0)
				mustRefuse(t, api.ErrForm, []api.Node{text("a")}, ordinary(), indent, 0)
			} else if code != api.OK || string(x.Text) != "a\n"+strings.Repeat(string(c), n)+"b" {
				t.Errorf("%d of %q: %q, %d", n, c, string(x.Text), code)
			}
		}
	}
	indent := slices.Repeat([]rune{' '}, 40)
	for i := range indent {
		indent[i] = '\n'
		mustRefuse(t, api.ErrForm, nil, ordinary(), indent, 0)
		indent[i] = '\t'
	}
}

// TestP171Order is R6: what may not be is ErrForm, however long it is.
func TestP171Order(t *testing.T) {
	long, many := text(strings.Repeat("a", 1001)), slices.Repeat([]api.Node{tab(1)}, 65)
	mustRefuse(t, api.ErrFull, []api.Node{long}, ordinary(), nil, 0)
	mustRefuse(t, api.ErrFull, many, ordinary(), nil, 0)
	for _, l := range [][]api.Node{{long}, many, append(many, long)} {
		mustRefuse(t, api.ErrForm, append(slices.Clip(l), tab(-1)), ordinary(), nil, 0)
		mustRefuse(t, api.ErrForm, l, api.Env{}, nil, 0)
		mustRefuse(t, api.ErrForm, l, ordinary(), []rune("a"), 0)
		mustRefuse(t, api.ErrForm, l, ordinary(), nil, -1)
	}
}

// TestP171Else is that what stands in a NodeElse is live just if its variable has no value.
func TestP171Else(t *testing.T) {
	mustExpand(t, "${TM_CURRENT_WORD:a}", "w", "P0:1-1=0")
	mustExpand(t, "${TM_CURRENT_WORD:a$1${2:b}${3|c|}${4/d/e/}}", "w", "P0:1-1=0")
	mustExpand(t, "${TM_CURRENT_WORD:${NONE:$1}}b", "wb", "P0:2-2=0")
	mustExpand(t, "${NONE:${TM_CURRENT_WORD:$1}$2}", "w", "P2:1-1=0 P0:1-1=1")
	mustExpand(t, "${NONE:a$1}b", "ab", "P1:1-1=0 P0:2-2=1")
	mustExpand(t, "${CLIPBOARD:a$1}b", "ab", "P1:1-1=0 P0:2-2=1")
	mustExpand(t, "${CLIPBOARD:}${NONE:}${TM_CURRENT_WORD:}", "w", "P0:1-1=0")
	mustExpand(t, "${CLIPBOARD:${NONE:${1:a}}b}", "ab", "P1:0-1=0 P0:2-2=1")
	mustExpand(t, "${TM_CURRENT_WORD:$0}$1", "w", "P1:1-1=0 P0:1-1=1")
	mustExpand(t, "${TM_CURRENT_WORD:${1:a}}${1:b}$1", "wbb", "P1:1-2=0 M1:2-3=0 P0:3-3=2")
	mustExpand(t, "${TM_CURRENT_WORD:${1|a|}}${1:b}", "wb", "P1:1-2=0 P0:2-2=1")
	mustExpand(t, "${1:a}${TM_CURRENT_WORD:$1}${1/a/b/}", "awb", "P1:0-1=0 F1:2-3=0/a/b/falsefalsetrue P0:3-3=2")
	mustExpand(t, "${1:${TM_CURRENT_WORD:$1}}$1", "ww", "P1:0-1=0 M1:1-2=0 P0:2-2=2")
	mustExpand(t, "${TM_CURRENT_WORD:${CLIPBOARD:x}}${CLIPBOARD:y}", "wy", "P0:2-2=0")
}

// TestP171Repeated is that what stands in a repeated placeholder is not live.
func TestP171Repeated(t *testing.T) {
	mustExpand(t, "${1:a}${1:b$2}", "aa", "P1:0-1=0 M1:1-2=0 P0:2-2=2")
	mustExpand(t, "${1:a}${1:${2:b}}${2:c}", "aac", "P1:0-1=0 M1:1-2=0 P2:2-3=2 P0:3-3=3")
	mustExpand(t, "${1:a}${1:${NONE:${2:b}}}$2", "aa", "P1:0-1=0 M1:1-2=0 P2:2-2=2 P0:2-2=3")
	mustExpand(t, "${1|a|}${1:b$2}", "aa", "C1:0-1=0|a M1:1-2=0 P0:2-2=2")
	mustExpand(t, "${1:}${1:b$2}", "", "P1:0-0=0 M1:0-0=0 P0:0-0=2")
	mustExpand(t, "$1${1:b$2}", "bb", "M1:0-1=1 P1:1-2=1 P2:2-2^1=2 P0:2-2=3")
	mustExpand(t, "${1/b/c/}${1:b$2}", "cb", "F1:0-1=1/b/c/falsefalsetrue P1:1-2=1 P2:2-2^1=2 P0:2-2=3")
	mustExpand(t, "${1:a${1:b$2}c}", "ac", "P1:0-2=0 P0:2-2=1")
	mustExpand(t, "${1:a${2:b${1:c$3}}}", "ab", "P1:0-2=0 P2:1-2^0=1 P0:2-2=2")
	mustExpand(t, "${1:a}${1:${0:b}}", "aa", "P1:0-1=0 M1:1-2=0 P0:2-2=2")
	mustExpand(t, "${1:a}${1:$RANDOM_HEX}$RANDOM_HEX", "aaaaaaaa", "P1:0-1=0 M1:1-2=0 P0:8-8=2")
	mustExpand(t, "${1:a}${NONE:${1:b}}${CLIPBOARD:${1:c${2:d}}}", "aaa", "P1:0-1=0 M1:1-2=0 M1:2-3=0 P0:3-3=3")
	mustExpand(t, "${0:a}${0:b}", "aa", "P0:0-1=0 M0:1-2=0")
}

// TestP171Homes is which node is the home of a number, for each order of the kinds.
func TestP171Homes(t *testing.T) {
	kinds := []struct {
		node api.Node
		rank int
		as   string
	}{{tab(1), 2, "P"}, {open(1), 1, "P"}, {choice(1, "x"), 1, "C"}, {form(1, "y", "z"), 3, "P"}}
	var orders func(picked []int)
	orders = func(picked []int) {
		if len(picked) > 0 {
			var l []api.Node
			home := 0
			for i, k := range picked {
				l = append(l, kinds[k].node)
				if kinds[k].rank < kinds[picked[home]].rank {
					home = i
				}
			}
			x, code := expand.Expand(l, ordinary(), nil, 0)
			if code != api.OK || len(x.Fields) != len(l)+1 {
				t.Fatalf("%s: %s, %d", written(l), told(x), code)
			}
			for i, f := range x.Fields[:len(l)] {
				is := "PCMF"[f.Kind : f.Kind+1]
				want := map[bool]string{true: "F", false: "M"}[picked[i] == 3]
				if i == home {
					want = kinds[picked[i]].as
				}
				if f.Of != home || is != want {
					t.Fatalf("%s: field %d of kind %s, want %s of %d: %s", written(l), i, is, want, home, told(x))
				}
			}
		}
		for k := range kinds {
			if len(picked) < 5 {
				orders(append(slices.Clip(picked), k))
			}
		}
	}
	orders(nil)
	mustExpand(t, "$2$1$2", "", "P2:0-0=0 P1:0-0=1 M2:0-0=0 P0:0-0=3")
	mustExpand(t, "${1/b/c/}${1/^/e/}$0", "e", "P1:0-0=0 F1:0-1=0/^/e/falsefalsetrue P0:1-1=2")
	mustExpand(t, "${999:a}$999", "aa", "P999:0-1=0 M999:1-2=0 P0:2-2=2")
}

// TestP171LeftOut is which mirrors are left out: those in a home of which the own home is not free of mirrors.
func TestP171LeftOut(t *testing.T) {
	mustExpand(t, "${1:a$1}", "a", "P1:0-1=0 P0:1-1=1")
	mustExpand(t, "${1:a${1:b}c}$1", "acac", "P1:0-2=0 M1:2-4=0 P0:4-4=2")
	mustExpand(t, "${1:a${1|b|}c}", "ac", "P1:0-2=0 P0:2-2=1")
	mustExpand(t, "${1:a${1/^/b/}c}", "ac", "P1:0-2=0 P0:2-2=1")
	mustExpand(t, "${1:a${2:b$1}c}", "abc", "P1:0-3=0 P2:1-2^0=1 P0:3-3=2")
	mustExpand(t, "${1:${NONE:$1}}", "", "P1:0-0=0 P0:0-0=1")
	mustExpand(t, "${NONE:$1}${1:a}", "aa", "M1:0-1=1 P1:1-2=1 P0:2-2=2")
	mustExpand(t, "${1:$2}${2:$1}", "", "P1:0-0=0 P2:0-0=1 P0:0-0=2")
	mustExpand(t, "${1:$2}${2:$3}${3:$1}", "", "P1:0-0=0 P2:0-0=1 P3:0-0=2 P0:0-0=3")
	mustExpand(t, "${1:a$2}${2:b$3}${3:c}$1$2", "abccabc", "P1:0-1=0 P2:1-3=1 M3:2-3^1=3 P3:3-4=3 M1:4-5=0 M2:5-7=1 P0:7-7=6")
	mustExpand(t, "${1:-$2-}${2:x}$1", "-x-x-x-", "P1:0-3=0 M2:1-2^0=2 P2:3-4=2 M1:4-7=0 P0:7-7=4")
	mustExpand(t, "${1:${2:x}$2}$1", "xxxx", "P1:0-2=0 P2:0-1^0=1 M2:1-2^0=1 M1:2-4=0 P0:4-4=4")
	mustExpand(t, "${1:a$2${2/b/c/}}$2${2:b${3:d}}", "abdcdbdbd", "P1:0-5=0 M2:1-3^0=4 F2:3-5^0=4/b/c/falsefalsetrue M2:5-7=4 P2:7-9=4 P3:8-9^4=5 P0:9-9=6")
	mustExpand(t, "${1:$2}${2|a,b|}", "aa", "P1:0-1=0 M2:0-1^0=2 C2:1-2=2|a|b P0:2-2=3")
	mustExpand(t, "${1:$2b}$2", "b", "P1:0-1=0 P2:0-0^0=1 M2:1-1=1 P0:1-1=3")
	mustExpand(t, "$2${1:$2b}", "b", "P2:0-0=0 P1:0-1=1 M2:0-0^1=0 P0:1-1=3")
	mustExpand(t, "${1:${3:$2}}${2:a$3}", "a", "P1:0-0=0 P3:0-0^0=1 P2:0-1=2 P0:1-1=3")
	mustExpand(t, "${0:a$0}", "a", "P0:0-1=0")
	mustExpand(t, "${1:a}${1:$1}", "aa", "P1:0-1=0 M1:1-2=0 P0:2-2=2")
}

// TestP171TextOfText is that an indent is inserted behind each end of a line in a NodeText, and nowhere else.
func TestP171TextOfText(t *testing.T) {
	for _, w := range []struct{ s, indent, want string }{
		{"a\nb", "", "a\nb"}, {"a\nb", "\t ", "a\n\t b"}, {"\n", " ", "\n "}, {"\n\n", " ", "\n \n "}, {"a\rb\u2028\v", " ", "a\rb\u2028\v"}, {"${1:\n}$1", " ", "\n \n "}, {"${NONE:\nb}", " ", "\n b"}, {"a\n$1\nb", "  ", "a\n  \n  b"},
		{"${1|a\nb|}", " ", "a\nb"}, {"${1|a\nb|}$1", " ", "a\nba\nb"}, {"$TM_SELECTED_TEXT", " ", "s\nl"}, {"${TM_SELECTED_TEXT:a}", " ", "s\nl"}, {"${TM_CURRENT_WORD/w/\n/}", " ", "\n"}, {"${1/^/a/}$1${1/^/a\n/}", " ", "aa\n"}, {"${1:\nx}${1/\n/\n\n/}", " ", "\n x\n\n x"},
	} {
		x, code := expand.Expand(parsed(t, w.s), ordinary(), []rune(w.indent), 0)
		if string(x.Text) != w.want || code != api.OK {
			t.Errorf("%q with indent %q: %q, %d, want %q", w.s, w.indent, string(x.Text), code, w.want)
		}
		mustHold(t, w.s, x)
	}
	mustExpand(t, `\$1\}\\{`, `$1}\{`, "P0:5-5=0")
}

// TestP171EveryCharacter is that texts and items are taken as they are, and no character but 10 gets an indent.
func TestP171EveryCharacter(t *testing.T) {
	for c := rune(0); c <= 0x10ffff; c++ {
		if signs.Class(c) == api.ClassNone || c > 0x1000 && c%13 != 0 && c != 0x10ffff && c != 0xfffd {
			continue
		}
		s := string(c)
		l := []api.Node{text(s), choice(1, s), text(s + "a"), tab(1)}
		shown := s
		if c == 10 {
			shown = s + "\t"
		}
		x, code := expand.Expand(l, ordinary(), []rune("\t"), 0)
		if want := shown + s + shown + "a" + s; string(x.Text) != want || code != api.OK {
			t.Fatalf("%x: %q, %d, want %q", c, string(x.Text), code, want)
		}
	}
}

func TestP171TextOfVariables(t *testing.T) {
	mustExpand(t, "$TM_CURRENT_WORD-$NONE-$CLIPBOARD-$tm_current_word", "w-NONE--tm_current_word", "P0:23-23=0")
	mustExpand(t, "${TM_CURRENT_WORD}${NONE}${TM_LINE_NUMBER}", "wNONE7", "P0:6-6=0")
	mustExpand(t, "${TM_CURRENT_WORD:a}${NONE:b}${CLIPBOARD:c}", "wbc", "P0:3-3=0")
	mustExpand(t, "${TM_CURRENT_LINE/e/x/}${TM_CURRENT_LINE/e/x/g}", "thx linethx linx", "P0:16-16=0")
	mustExpand(t, "${TM_CURRENT_LINE/E/x/gi}${TM_CURRENT_LINE/E/x/g}", "thx linxthe line", "P0:16-16=0")
	mustExpand(t, "${TM_CURRENT_LINE/(.*) (.*)/$2-${1:/upcase}/}", "line-THE", "P0:8-8=0")
	mustExpand(t, "${NONE/^/x/}${NONE/N/y/}${CLIPBOARD/^/z/}", "xz", "P0:2-2=0")
	mustExpand(t, "${TM_CURRENT_LINE/./"+strings.Repeat("x", 125)+"/g}", strings.Repeat("x", 1000), "P0:1000-1000=0")
	mustExpand(t, "a${TM_CURRENT_LINE/./"+strings.Repeat("x", 126)+"/g}b", "ab", "P0:2-2=0")
	mustExpand(t, "${1:$TM_CURRENT_WORD}$1", "ww", "P1:0-1=0 M1:1-2=0 P0:2-2=2")
	mustExpand(t, "${1:$NONE}${1/N/n/}", "NONEnONE", "P1:0-4=0 F1:4-8=0/N/n/falsefalsetrue P0:8-8=2")
}

// TestP171Draws is that each live variable is computed once, in order, however often its text is shown.
func TestP171Draws(t *testing.T) {
	a, b, c := "aaaaaa", "bbbbbb", "cccccc"
	mustExpand(t, "$RANDOM_HEX-$RANDOM_HEX-$RANDOM_HEX", a+"-"+b+"-"+c, "P0:20-20=0")
	mustExpand(t, "${1:$RANDOM_HEX}$1${1/b/x/}$RANDOM_HEX", a+a+a+b, "P1:0-6=0 M1:6-12=0 F1:12-18=0/b/x/falsefalsetrue P0:24-24=3")
	mustExpand(t, "$1${1:$RANDOM_HEX}$1$RANDOM_HEX", a+a+a+b, "M1:0-6=1 P1:6-12=1 M1:12-18=1 P0:24-24=3")
	mustExpand(t, "$2${1:$RANDOM_HEX}${2:$RANDOM_HEX}", b+a+b, "M2:0-6=2 P1:6-12=1 P2:12-18=2 P0:18-18=3")
	mustExpand(t, "${RANDOM_HEX:$RANDOM_HEX}$RANDOM_HEX", a+b, "P0:12-12=0")
	mustExpand(t, "${RANDOM_HEX/./x/g}$RANDOM_HEX", "xxxxxx"+b, "P0:12-12=0")
	mustExpand(t, "${NONE:$RANDOM_HEX}${CLIPBOARD:$RANDOM_HEX}$RANDOM_HEX", a+b+c, "P0:18-18=0")
	mustExpand(t, "${1:${2:$RANDOM_HEX}$2}$1$RANDOM_HEX", a+a+a+a+b, "P1:0-12=0 P2:0-6^0=1 M2:6-12^0=1 M1:12-24=0 P0:30-30=4")
	mustExpand(t, "${1:${1:$RANDOM_HEX}$1}$RANDOM_HEX", a, "P1:0-0=0 P0:6-6=1")
	mustExpand(t, "$UUID", "aaaaaabb-bbbb-4ccc-8ccc-000007000008", "P0:36-36=0")
}

// TestP171Mirrors is the text of a mirror: Tell of its field and the text of its home.
func TestP171Mirrors(t *testing.T) {
	mustExpand(t, "${1:ab}${1/b/${0:/upcase}/}", "abaB", "P1:0-2=0 F1:2-4=0/b/${0:/upcase}/falsefalsetrue P0:4-4=2")
	mustExpand(t, "${1:xx}${1/x/yy/}${1/x/yy/g}${1/X/yy/i}${1/X/yy/}", "xxyyxyyyyyyxxx", "P1:0-2=0 F1:2-5=0/x/yy/falsefalsetrue F1:5-9=0/x/yy/truefalsetrue F1:9-12=0/X/yy/falsetruetrue F1:12-14=0/X/yy/falsefalsetrue P0:14-14=5")
	mustExpand(t, "${1|x,yy|}-$1${1/x/z/}", "x-xz", "C1:0-1=0|x|yy M1:2-3=0 F1:3-4=0/x/z/falsefalsetrue P0:4-4=3")
	mustExpand(t, "$1${1|x,y|}${1|z|}", "xxx", "M1:0-1=1 C1:1-2=1|x|y M1:2-3=1 P0:3-3=3")
	mustExpand(t, "${1:a${2:x}}$2$1", "axxax", "P1:0-2=0 P2:1-2^0=1 M2:2-3=1 M1:3-5=0 P0:5-5=4")
	mustExpand(t, "$1${1/^/x/}", "x", "P1:0-0=0 F1:0-1=0/^/x/falsefalsetrue P0:1-1=2")
	mustExpand(t, "${1/^/x/}$1", "x", "F1:0-1=1/^/x/falsefalsetrue P1:1-1=1 P0:1-1=2")
	mustExpand(t, "${1:"+strings.Repeat("a", 200)+"}${1/a/aaaaaa/g}b", strings.Repeat("a", 200)+"b", "P1:0-200=0 F1:200-200=0/a/aaaaaa/truefalsetrue P0:201-201=2")
	mustExpand(t, "${1:a${TM_CURRENT_WORD}${NONE:b}${2:c}${3|d|}e}$1", "awbcdeawbcde", "P1:0-6=0 P2:3-4^0=1 C3:4-5^0=2|d M1:6-12=0 P0:12-12=4")
}

// TestP171AddedHome is the home of 0 that is added if no live node has it.
func TestP171AddedHome(t *testing.T) {
	mustExpand(t, "", "", "P0:0-0=0")
	mustExpand(t, "ab", "ab", "P0:2-2=0")
	mustExpand(t, "a$0b", "ab", "P0:1-1=0")
	mustExpand(t, "a${0:x}b", "axb", "P0:1-2=0")
	mustExpand(t, "${0|x,y|}b", "xb", "C0:0-1=0|x|y")
	mustExpand(t, "a${0/b/c/}b", "ab", "P0:1-1=0")
	mustExpand(t, "$0$0$1", "", "P0:0-0=0 M0:0-0=0 P1:0-0=2")
	mustExpand(t, "$1${2:${0:z}}", "z", "P1:0-0=0 P2:0-1=1 P0:0-1^1=2")
	mustExpand(t, "${TM_CURRENT_WORD:$0}a", "wa", "P0:2-2=0")
	mustExpand(t, "${CLIPBOARD:$0}a", "a", "P0:0-0=0")
	mustExpand(t, "${1:a}${1:$0}", "aa", "P1:0-1=0 M1:1-2=0 P0:2-2=2")
	mustExpand(t, "${00:x}", "x", "P0:0-1=0")
}

// TestP171NilAndEmpty is R3.
func TestP171NilAndEmpty(t *testing.T) {
	for _, l := range [][]api.Node{nil, {}, {tab(1)}} {
		l = l[:0]
		for _, indent := range [][]rune{nil, {}, []rune("ab")[:0], []rune("ab")[2:]} {
			x, code := expand.Expand(l, ordinary(), indent, 3)
			if code != api.OK || told(x) != `"" used 3 P0:0-0^-1=0` {
				t.Errorf("%s, %d", told(x), code)
			}
		}
	}
	empty := []rune("ab")[:0]
	l := []api.Node{{Kind: api.NodeChoice, Num: 1, Items: [][]rune{empty, nil}, Text: empty, Pattern: empty, Forms: []api.Form{}}, {Kind: api.NodeForm, Num: 1, Items: [][]rune{}, Pattern: empty, Forms: []api.Form{{Kind: api.FormIf, Group: 0, Else: empty}}}}
	x, code := expand.Expand(l, ordinary(), nil, 0)
	if code != api.OK || told(x) != `"" used 0 C1:0-0^-1=0|| F1:0-0^-1=0//${0:+}/falsefalsetrue P0:0-0^-1=2` {
		t.Errorf("%s, %d", told(x), code)
	}
}

// TestP172Fields is what a field has, and that it has nothing else.
func TestP172Fields(t *testing.T) {
	long := strings.Repeat("n", 2000)
	l := []api.Node{
		tab(7), form(7, "a+", "x${1:?y:z}"), flagged(form(7, "", ""), true, false), flagged(form(8, "b", "c"), false, true), choice(9, "i", "", "j,", long), choice(9, "k"), open(9), at(1, choice(2, "no")), open(10), at(1, form(10, "a", "b")), form(11, "q", "r"), open(12), at(1, flagged(form(11, "^", "s"), true, true)),
	}
	x, code := expand.Expand(l, ordinary(), nil, 0)
	want := []string{`"iiis" used 0`, "P7:0-0^-1=0", "F7:0-0^-1=0/a+/x${1:?y:z}/falsefalsetrue", "F7:0-0^-1=0///truefalsetrue", "P8:0-0^-1=3", "C9:0-1^-1=4|i||j,|" + long, "M9:1-2^-1=4", "M9:2-3^-1=4", "P10:3-3^-1=7", "P11:3-3^-1=8", "P12:3-4^-1=9", "F11:3-4^9=8/^/s/truetruetrue", "P0:4-4^-1=11"}
	if got := told(x); got != strings.Join(want, " ") || code != api.OK {
		t.Errorf("%s, %d, want %s", got, code, strings.Join(want, " "))
	}
}

// TestP172Parents is that the Parent is the field of the innermost home around a field.
func TestP172Parents(t *testing.T) {
	mustExpand(t, "${1:a${2:b${3:c$4}d}${5:e}}$6", "abcde", "P1:0-5=0 P2:1-4^0=1 P3:2-3^1=2 P4:3-3^2=3 P5:4-5^0=4 P6:5-5=5 P0:5-5=6")
	mustExpand(t, "${1:${NONE:${2:${CLIPBOARD:$3}a}}$4}", "a", "P1:0-1=0 P2:0-1^0=1 P3:0-0^1=2 P4:1-1^0=3 P0:1-1=4")
	mustExpand(t, "${NONE:${1:$2}}", "", "P1:0-0=0 P2:0-0^0=1 P0:0-0=2")
	mustExpand(t, "${1:$1$2}${3:$3${4|a|}}", "a", "P1:0-0=0 P2:0-0^0=1 P3:0-1=2 C4:0-1^2=3|a P0:1-1=4")
	mustExpand(t, "${1:a}${2:${1:b}$3}", "aa", "P1:0-1=0 P2:1-2=1 M1:1-2^1=0 P3:2-2^1=3 P0:2-2=4")
	var s, want []string
	for n := 1; n <= 12; n++ {
		s = append(s, fmt.Sprintf("${%d:", n))
		want = append(want, fmt.Sprintf("P%d:0-1^%d=%d", n, n-2, n-1))
	}
	mustExpand(t, strings.Join(s, "")+"$13a"+strings.Repeat("}", 12), "a", strings.ReplaceAll(strings.Join(want, " "), "^-1", "")+" P13:0-0^11=12 P0:1-1=13")
}

func TestP172Used(t *testing.T) {
	for _, w := range []struct {
		s          string
		used, then int
	}{
		{"", 0, 0}, {"a", 7, 7}, {"$RANDOM", 0, 1}, {"$RANDOM_HEX", 3, 4}, {"$UUID", 0, 5}, {"$RANDOM$UUID$CLIPBOARD$NONE", 0, 6}, {"${RANDOM:$RANDOM}", 0, 1}, {"${RANDOM/a/b/}${UUID:x}", 1, 7}, {"${TM_CURRENT_WORD:$UUID}${NONE:$RANDOM}", 3, 4}, {"${1:$RANDOM}$1$1", 0, 1}, {"${1:$RANDOM}${1:$RANDOM}", 0, 1}, {"${1:$1$RANDOM}", 0, 1},
		{"$RANDOM", 40, 41}, {"$RANDOM", 999, 1000}, {"$RANDOM", 1000, 1001}, {"$UUID", 1000, 1005}, {"$UUID$RANDOM$UUID", 999, 1004}, {"$RANDOM$RANDOM$RANDOM", 999, 1001}, {strings.Repeat("$RANDOM", 20), 0, 20},
	} {
		x, code := expand.Expand(parsed(t, w.s), ordinary(), nil, w.used)
		if x.Used != w.then || code != api.OK {
			t.Errorf("Used of %q from %d: %d, %d, want %d", w.s, w.used, x.Used, code, w.then)
		}
	}
}

// TestP172BeyondDraws is that a variable that comes when more than 1000 draws have been used does not exist.
func TestP172BeyondDraws(t *testing.T) {
	for s, want := range map[string]string{
		"$RANDOM$RANDOM": "000000RANDOM", "$RANDOM$TM_CURRENT_WORD": "000000TM_CURRENT_WORD", "$RANDOM${TM_CURRENT_WORD:a}": "000000a", "$RANDOM${TM_CURRENT_WORD/^/b/}": "000000b", "$TM_CURRENT_WORD$RANDOM": "w000000", "${RANDOM:a}${RANDOM:b$1}": "000000b",
	} {
		x, code := expand.Expand(parsed(t, s), ordinary(), nil, 1000)
		if string(x.Text) != want || x.Used != 1001 || code != api.OK {
			t.Errorf("%q: %q, %d, %d, want %q", s, string(x.Text), x.Used, code, want)
		}
	}
}

// TestP172MaxText is texts of MaxText elements, and of one more, whatever stands last.
func TestP172MaxText(t *testing.T) {
	cases := []struct {
		with []api.Node // behind a text
		size int
	}{
		{nil, 0}, {[]api.Node{choice(1, "abc", strings.Repeat("d", 2000))}, 3}, {[]api.Node{open(1), at(1, text("abcd")), tab(1)}, 8}, {[]api.Node{variable("TM_CURRENT_LINE")}, 8}, {[]api.Node{variable("NONE")}, 4}, {[]api.Node{openElse("NONE"), at(1, text("ab"))}, 2}, {[]api.Node{openElse("TM_CURRENT_WORD"), at(1, text(strings.Repeat("a", 2000)))}, 1},
		{[]api.Node{varOf("TM_CURRENT_WORD", "w", "abc")}, 3}, {[]api.Node{form(1, "^", "abc"), tab(1)}, 3}, {[]api.Node{open(1), at(1, text("b")), form(1, "b", "cde")}, 4}, {[]api.Node{text("a\nb")}, 5}, {[]api.Node{tab(1), text("\n")}, 3}, {[]api.Node{open(1), open(1), at(1, text(strings.Repeat("a", 2000)))}, 0},
	}
	for _, c := range cases {
		head := text(strings.Repeat("文", 1000-c.size))
		if len(c.with) > 0 && c.with[0].Kind == api.NodeText {
			head.Text = append(head.Text, c.with[0].Text...)
			c.with = c.with[1:]
		}
		l := append([]api.Node{head}, c.with...)
		if x, code := expand.Expand(l, ordinary(), []rune("  "), 0); code != api.OK || len(x.Text) != 1000 {
			t.Errorf("MaxText: %d elements, %d: %.200s", len(x.Text), code, written(c.with))
		}
		l[0].Text = append(l[0].Text, 'a')
		mustRefuse(t, api.ErrFull, l, ordinary(), []rune("  "), 0)
	}
	for n := 900; n <= 1100; n++ {
		x, code := expand.Expand([]api.Node{open(1), at(1, text(strings.Repeat("a", n))), flagged(form(1, "a", ""), true, false)}, ordinary(), nil, 0)
		if (code == api.OK) != (n <= 1000) || len(x.Text) != n && code == api.OK || code != api.OK && code != api.ErrFull {
			t.Errorf("a home of %d: %d, %d", n, len(x.Text), code)
		}
	}
}

// TestP172Mirrored is MaxText for texts that are shown several times.
func TestP172Mirrored(t *testing.T) {
	for mirrors := range 12 {
		for n := 1; n <= 60; n++ {
			size := (n*10 + 3) * (mirrors + 1)
			l := append([]api.Node{open(1), at(1, text(strings.Repeat("a", n*10+3)))}, slices.Repeat([]api.Node{tab(1)}, mirrors)...)
			x, code := expand.Expand(l, ordinary(), nil, 0)
			if (code == api.OK) != (size <= 1000) || code == api.OK && len(x.Text) != size || code != api.OK && code != api.ErrFull {
				t.Errorf("%d mirrors of %d: %d, %d", mirrors, n*10+3, len(x.Text), code)
			}
		}
	}
	five := "${1:${2:" + strings.Repeat("a", 200) + "}$2}$1"
	mustExpand(t, five+strings.Repeat("b", 200), strings.Repeat("a", 800)+strings.Repeat("b", 200), "P1:0-400=0 P2:0-200^0=1 M2:200-400^0=1 M1:400-800=0 P0:1000-1000=4")
	mustRefuse(t, api.ErrFull, parsed(t, five+strings.Repeat("b", 201)), ordinary(), nil, 0)
	mustRefuse(t, api.ErrFull, parsed(t, five+"$1"), ordinary(), nil, 0)
	mustRefuse(t, api.ErrFull, parsed(t, "$1$1$2"+five), ordinary(), nil, 0)
	mustExpand(t, "${1:"+strings.Repeat("a", 500)+"$1}", strings.Repeat("a", 500), "P1:0-500=0 P0:500-500=1")
}

// TestP172Indented is MaxText for a text that is too long only by its indents.
func TestP172Indented(t *testing.T) {
	for lines := range 60 {
		for width := range 41 {
			x, code := expand.Expand([]api.Node{text("a" + strings.Repeat("\n", lines))}, ordinary(), slices.Repeat([]rune{' '}, width), 0)
			size := 1 + lines*(width+1)
			if (code == api.OK) != (size <= 1000) || code == api.OK && len(x.Text) != size || code != api.OK && code != api.ErrFull {
				t.Errorf("%d lines with %d blanks: %d, %d", lines, width, len(x.Text), code)
			}
		}
	}
}

// TestP172MaxField is MaxField fields, and one more.
func TestP172MaxField(t *testing.T) {
	kinds := []struct {
		home, mirror, zero api.Node
	}{{tab(1), tab(1), tab(0)}, {open(1), open(1), open(0)}, {choice(1, ""), choice(1, ""), choice(0, "")}, {tab(1), form(1, "a", "b"), form(0, "a", "b")}}
	for _, k := range kinds {
		for n := 60; n <= 70; n++ {
			l := append([]api.Node{k.home}, slices.Repeat([]api.Node{k.mirror}, n-1)...)
			for _, zero := range [][]api.Node{nil, {k.zero}} { // one is added if there is none
				x, code := expand.Expand(append(slices.Clip(l), zero...), ordinary(), nil, 0)
				if (code == api.OK) != (n+1 <= 64) || code == api.OK && len(x.Fields) != n+1 || code != api.OK && code != api.ErrFull {
					t.Errorf("%d of kind %d: %d, %d", n, k.mirror.Kind, len(x.Fields), code)
				}
			}
		}
	}
	var homes []api.Node
	for n := range 64 {
		homes = append(homes, tab(n))
	}
	if x, code := expand.Expand(homes, ordinary(), nil, 0); code != api.OK || len(x.Fields) != 64 {
		t.Errorf("64 homes: %d, %d", len(x.Fields), code)
	}
	mustRefuse(t, api.ErrFull, append(slices.Clip(homes), tab(64)), ordinary(), nil, 0)
	mustRefuse(t, api.ErrFull, append(homes[1:], tab(64)), ordinary(), nil, 0)
}

// TestP172NoField is that what is not live and what is left out counts as no field and as no text.
func TestP172NoField(t *testing.T) {
	var dead []api.Node
	for n := 2; n < 300; n++ {
		dead = append(dead, at(1, tab(n)), at(1, text("aaaaaaaaaa")))
	}
	for _, l := range [][]api.Node{
		append([]api.Node{openElse("TM_CURRENT_WORD")}, dead...),
		append([]api.Node{open(1), open(1)}, dead...),
		append([]api.Node{choice(1, ""), open(1)}, dead...),
		append([]api.Node{open(1)}, slices.Repeat([]api.Node{at(1, tab(1))}, 1000)...),
		append([]api.Node{open(1)}, slices.Repeat([]api.Node{at(1, open(1)), at(2, text("aaaa"))}, 1000)...),
	} {
		if x, code := expand.Expand(l, ordinary(), nil, 0); code != api.OK || len(x.Fields) > 3 || len(x.Text) > 1 {
			t.Errorf("%s, %d", told(x), code)
		}
	}
}

// TestP172VeryMany is that trees of very many nodes are expanded or refused in time.
func TestP172VeryMany(t *testing.T) {
	const n = 100000
	empty := slices.Repeat([]api.Node{at(1, variable("CLIPBOARD"))}, n)
	l := append([]api.Node{open(1)}, empty...)
	l = append(append(l, open(2)), slices.Repeat([]api.Node{at(1, tab(1))}, 40)...)
	l = append(l, slices.Repeat([]api.Node{tab(2)}, 20)...)
	if x, code := expand.Expand(l, ordinary(), nil, 0); code != api.OK || len(x.Fields) != 63 || len(x.Text) != 0 {
		t.Errorf("%d fields, %d elements, %d", len(x.Fields), len(x.Text), code)
	}
	mustRefuse(t, api.ErrFull, slices.Repeat([]api.Node{tab(1)}, n), ordinary(), nil, 0)
	mustRefuse(t, api.ErrFull, slices.Repeat([]api.Node{tab(1), text("a")}, n), ordinary(), nil, 0)
	mustRefuse(t, api.ErrFull, slices.Repeat([]api.Node{variable("TM_CURRENT_LINE")}, n), ordinary(), nil, 0)
	mustRefuse(t, api.ErrFull, []api.Node{text(strings.Repeat("\n", 30*n))}, ordinary(), slices.Repeat([]rune{' '}, 40), 0)
	mustRefuse(t, api.ErrFull, []api.Node{choice(1, strings.Repeat("a", 30*n))}, ordinary(), nil, 0)
}

func TestP173Tell(t *testing.T) {
	field := func(n api.Node) api.Field {
		return api.Field{Kind: api.FieldForm, Pattern: n.Pattern, Forms: n.Forms, All: n.All, Fold: n.Fold}
	}
	long := strings.Repeat("b", 1000)
	for _, w := range []struct {
		f       api.Field
		s, want string
	}{
		{field(form(1, "a", "x")), "aAab", "xAab"}, {field(flagged(form(1, "a", "x"), true, false)), "aAab", "xAxb"}, {field(flagged(form(1, "a", "x"), false, true)), "Aab", "xab"}, {field(flagged(form(1, "A", "x"), true, true)), "aAab", "xxxb"}, {field(form(1, "(.)(.)", "$2$1")), "abc", "bac"}, {field(form(1, "c", "x")), "ab", "ab"}, {field(form(1, "", "")), "ab", "ab"}, {field(form(1, "^", "x")), "", "x"},
		{field(form(1, "*", "x")), "ab", ""}, {field(form(1, "(", "")), "ab", ""}, {field(form(1, strings.Repeat("a", 61), "")), "ab", ""}, {api.Field{Kind: api.FieldForm, Forms: []api.Form{{}}}, "ab", ""}, {api.Field{Kind: api.FieldForm, Forms: []api.Form{{Kind: 9}}}, "ab", ""},
		{field(form(1, "a", "x")), long, long}, {field(form(1, "a", "x")), long + "b", ""}, {field(form(1, "b", "xx")), long, ""}, {field(form(1, "b", "x")), long, "x" + long[1:]}, {field(form(1, `\/`, "x")), "a/b", "axb"},
		{api.Field{}, "ab", "ab"}, {api.Field{Kind: api.FieldMirror}, "ab", "ab"}, {api.Field{Kind: api.FieldChoice, Items: [][]rune{[]rune("c")}}, "ab", "ab"}, {api.Field{Kind: api.FieldMirror}, long + "b", long + "b"}, {api.Field{Kind: api.FieldPlain}, "", ""},
	} {
		if got := string(expand.Tell(w.f, []rune(w.s))); got != w.want {
			t.Errorf("Tell(%v, %.20q): %.20q, want %.20q", w.f, w.s, got, w.want)
		}
	}
}

// TestP173AnyKind is that only a FieldForm is transformed, and that its other fields and the elements of other texts do not matter.
func TestP173AnyKind(t *testing.T) {
	for _, kind := range []int{-1, 0, 1, 2, 4, 5, 9, math.MinInt, math.MaxInt} {
		f := api.Field{Kind: kind, Pattern: []rune("a"), Forms: forms("x"), All: true, Fold: true, From: 1, To: -1, Parent: 9, Of: -9}
		for _, s := range [][]rune{nil, []rune("aA"), {-1, 'a', 0xd800, math.MaxInt32}} {
			if got := expand.Tell(f, s); !slices.Equal(got, s) {
				t.Errorf("kind %d: %x of %x", kind, got, s)
			}
		}
	}
	f := api.Field{Kind: api.FieldForm, Num: -5, Pattern: []rune("a"), Forms: forms("x"), From: 1, To: -1, Parent: 9, Of: -9, Items: [][]rune{{-1}}}
	if got := string(expand.Tell(f, []rune("aa"))); got != "xa" {
		t.Errorf("a form: %q", got)
	}
	for _, bad := range []rune{-1, 0xd800, 0xdfff, 0x110000, math.MinInt32} {
		if got := expand.Tell(f, []rune{'a', bad}); len(got) != 0 {
			t.Errorf("a form of %x: %x", bad, got)
		}
	}
}

// TestP172OwnMemory is R4, R5 and R10: no call changes its arguments, reads what stands behind them, or keeps them, and results share no memory.
func TestP172OwnMemory(t *testing.T) {
	spare := func(s string) []rune { return append([]rune(s), -1, -1)[:len([]rune(s))] }
	items := [][]rune{spare("it"), spare("em"), {-1}}
	parts := []api.Form{{Text: spare("/t")}, {Kind: api.FormBoth, Group: 1, Text: spare("u"), Else: spare("v")}, {Kind: 9}}
	shown := api.Node{Kind: api.NodeForm, Num: 2, Pattern: spare("i"), Forms: parts[:2]}
	l := []api.Node{{Text: spare("x\n")}, {Kind: api.NodeChoice, Num: 2, Items: items[:2]}, shown, shown, {Kind: api.NodeVar, Text: spare("NONE")}, {Kind: api.NodeVar, Text: spare("TM_CURRENT_WORD")}, {Kind: -1}}
	e, indent := ordinary(), spare("\t")
	e.Word = spare("word")
	whole := func() string { return fmt.Sprint(l, items, parts, e, e.Word[:6], indent[:3]) }
	before := whole()
	const want = `"x\n\tit/tvt/tvtNONEword" used 3 C2:3-5^-1=0|it|em F2:5-9^-1=0/i/\/t${1:?u:v}/falsefalsetrue F2:9-13^-1=0/i/\/t${1:?u:v}/falsefalsetrue P0:21-21^-1=3`
	first, code := expand.Expand(l[:6], e, indent, 3)
	second, _ := expand.Expand(l[:6], e, indent, 3)
	if code != api.OK || told(first) != want {
		t.Fatalf("%s, %d, want %s", told(first), code, want)
	}
	spoil(&first)
	if told(second) != want || whole() != before {
		t.Errorf("a result shares memory with another one or an argument: %s, want %s; %s, before: %s", told(second), want, whole(), before)
	}
	spoilTexts(items...)
	for i, part := range parts {
		spoilTexts(part.Text, part.Else)
		parts[i] = api.Form{Kind: -1}
	}
	for _, n := range l {
		spoilTexts(n.Text, n.Pattern)
	}
	clear(items)
	clear(l)
	spoilTexts(e.Word, indent)
	if told(second) != want {
		t.Errorf("a result shares memory with an argument: %s, want %s", told(second), want)
	}
}

// spoil changes all memory of a shape, also behind the ends of its slices.
func spoil(x *api.Shape) {
	spoilTexts(x.Text[:cap(x.Text)])
	for i := range x.Fields {
		f := &x.Fields[i]
		spoilTexts(f.Pattern[:cap(f.Pattern)])
		for _, s := range f.Items {
			spoilTexts(s[:cap(s)])
		}
		for j, part := range f.Forms {
			spoilTexts(part.Text[:cap(part.Text)], part.Else[:cap(part.Else)])
			f.Forms[j] = api.Form{Kind: -1}
		}
		*f = api.Field{Kind: -1}
	}
}

func spoilTexts(l ...[]rune) {
	for _, s := range l {
		for i := range s {
			s[i] = '?'
		}
	}
}

// TestP172SharesNothing is that no two slices of one result share memory: whatever is changed in one of them, also behind its end, does not show in the others.
func TestP172SharesNothing(t *testing.T) {
	l := parsed(t, "${1|ab,cd|}${1/a/x${1:?yy:zz}/}${1/a/x/}a")
	x, _ := expand.Expand(l, ordinary(), nil, 0)
	var slots [][]rune
	slots = append(slots, x.Text)
	for _, f := range x.Fields {
		slots = append(slots, f.Pattern)
		slots = append(slots, f.Items...)
		for _, part := range f.Forms {
			slots = append(slots, part.Text, part.Else)
		}
	}
	for i, s := range slots {
		mark := rune(0x1000 + i)
		for k := range s[:cap(s)] {
			s[:cap(s)][k] = mark
		}
	}
	for i, s := range slots {
		for _, c := range s {
			if c != rune(0x1000+i) {
				t.Errorf("slice %d was changed as slice %d", i, c-0x1000)
			}
		}
	}
	s := []rune("ab")
	for _, kind := range []int{api.FieldPlain, api.FieldMirror, api.FieldForm} {
		f := api.Field{Kind: kind, Pattern: []rune("c")}
		told := expand.Tell(f, s)
		told[0] = '?'
		if string(s) != "ab" {
			t.Errorf("Tell of kind %d shares memory with its argument", kind)
		}
		spared := append([]rune("ab"), -1)
		if got := expand.Tell(f, spared[:2]); string(got) != "ab" || spared[2] != -1 {
			t.Errorf("Tell of kind %d: %q", kind, string(got))
		}
	}
}

// TestP174Runs is P17.4 for the runs and examples of the chapters.
func TestP174Runs(t *testing.T) {
	for _, s := range []string{"a${1:b}$1", "${1:a$1}", "${1:a} $1", "${1:x}${2/a/b/}", "${1:${2:${3:a}$3}$2}$1$2$3", "${1:a${2:b}}${3:$2}$1", "${1:$2$3$2}${2:x}${3:y}$1$1"} {
		x, code := expand.Expand(parsed(t, s), ordinary(), nil, 0)
		if code != api.OK || !show.May(parsed(t, s)) {
			t.Errorf("%q: %d", s, code)
		}
		mustHold(t, s, x)
	}
}
