package show_test

import (
	"fmt"
	"math"
	"slices"
	"strconv"
	"strings"
	"testing"

	"standish/api"
	"standish/show"
	"standish/signs"
)

func ExamplePrint() {
	l := []api.Node{{Kind: api.NodePlace, Num: 1}, {Text: []rune("$"), Deep: 1}, {Kind: api.NodeVar, Text: []rune("x")}}
	s, code := show.Print(l)
	fmt.Println(string(s), code == api.OK)
	// Output: ${1:\$}${x} true
}

// told writes a tree, for the messages.
func told(l []api.Node) string {
	var out []string
	for _, n := range l {
		out = append(out, fmt.Sprintf("{%d deep %d: %d %q %q %q %v %v %v}", n.Kind, n.Deep, n.Num, string(n.Text), n.Items, string(n.Pattern), n.Forms, n.All, n.Fold))
	}
	return strings.Join(out, " ")
}

// The nodes.

func text(s string) api.Node         { return api.Node{Text: []rune(s)} }
func tab(number int) api.Node        { return api.Node{Kind: api.NodeTab, Num: number} }
func open(number int) api.Node       { return api.Node{Kind: api.NodePlace, Num: number} }
func variable(name string) api.Node  { return api.Node{Kind: api.NodeVar, Text: []rune(name)} }
func openElse(name string) api.Node  { return api.Node{Kind: api.NodeElse, Text: []rune(name)} }
func formText(s string) api.Form     { return api.Form{Text: []rune(s)} }
func group(number, how int) api.Form { return api.Form{Kind: api.FormGroup, Group: number, Case: how} }

func choice(number int, items ...string) api.Node {
	n := api.Node{Kind: api.NodeChoice, Num: number}
	for _, s := range items {
		n.Items = append(n.Items, []rune(s))
	}
	return n
}

func form(number int, pattern string, forms ...api.Form) api.Node {
	return api.Node{Kind: api.NodeForm, Num: number, Pattern: []rune(pattern), Forms: forms}
}

func varOf(name, pattern string, forms ...api.Form) api.Node {
	return api.Node{Kind: api.NodeVarOf, Text: []rune(name), Pattern: []rune(pattern), Forms: forms}
}

// flagged is a transformation with flags.
func flagged(n api.Node, all, fold bool) api.Node {
	n.All, n.Fold = all, fold
	return n
}

// at is a node with a Deep.
func at(deep int, n api.Node) api.Node {
	n.Deep = deep
	return n
}

// nested returns placeholders within one another.
func nested(n int) []api.Node {
	var l []api.Node
	for deep := range n {
		l = append(l, at(deep, open(1)))
	}
	return l
}

// mustPrint is that the nodes are a tree, printed as want.
func mustPrint(t *testing.T, want string, l ...api.Node) {
	t.Helper()
	got, code := show.Print(l)
	if !show.May(l) || code != api.OK || string(got) != want {
		t.Errorf("Print(%s): %q, %d, want %q; May: %v", told(l), string(got), code, want, show.May(l))
	}
}

// mustNotBe is that the nodes are no tree.
func mustNotBe(t *testing.T, l ...api.Node) {
	t.Helper()
	got, code := show.Print(l)
	if show.May(l) || code != api.ErrForm || len(got) > 0 {
		t.Errorf("Print(%.1000s): %q, %d, want %d; May: %v", told(l), string(got), code, api.ErrForm, show.May(l))
	}
}

// mustBeFull is that the nodes are a tree whose text is too long.
func mustBeFull(t *testing.T, l ...api.Node) {
	t.Helper()
	got, code := show.Print(l)
	if !show.May(l) || code != api.ErrFull || len(got) > 0 {
		t.Errorf("Print(%.1000s): %q, %d, want %d; May: %v", told(l), string(got), code, api.ErrFull, show.May(l))
	}
}

func TestP151Limits(t *testing.T) {
	if got := [...]int{api.MaxSnip, api.MaxNest, api.MaxNum, api.MaxName, api.MaxChoice, api.MaxPattern}; got != [...]int{600, 12, 999, 32, 20, 60} {
		t.Fatalf("the limits are %v", got)
	}
}

func TestP151Deep(t *testing.T) {
	mustPrint(t, "")
	mustPrint(t, "a", text("a"))
	for _, deep := range []int{-1, 1, 2, 12, 13, math.MinInt, math.MaxInt} {
		mustNotBe(t, at(deep, text("a")))
		mustNotBe(t, at(deep, open(1)))
		mustNotBe(t, at(deep, tab(1)), at(deep, tab(2)))
		for _, n := range []api.Node{text("a"), tab(1), choice(1, "a"), form(1, "a"), variable("x"), varOf("x", "a")} {
			mustNotBe(t, n, at(deep, tab(2)))
		}
		if deep != 1 {
			mustNotBe(t, open(1), at(deep, tab(2)))
			mustNotBe(t, openElse("x"), at(deep, tab(2)))
		}
	}
	mustPrint(t, "${1:${2}}", open(1), at(1, tab(2)))
	mustPrint(t, "${x:${2}}", openElse("x"), at(1, tab(2)))
	mustPrint(t, "${1:${2}${3}}${4}", open(1), at(1, tab(2)), at(1, tab(3)), tab(4))
	mustPrint(t, "${1:${x:${2:a}}}${3}", open(1), at(1, openElse("x")), at(2, open(2)), at(3, text("a")), tab(3))
	mustNotBe(t, open(1), at(1, tab(2)), at(2, tab(3)))
	mustNotBe(t, open(1), at(1, open(2)), at(1, tab(3)), at(2, tab(4)))
	mustNotBe(t, open(1), at(1, open(2)), tab(3), at(1, tab(4)))
	mustNotBe(t, open(1), at(1, tab(2)), at(-1, tab(3)))
	mustNotBe(t, open(1), at(1, open(2)), at(3, tab(4)))
}

// TestP151Nest is that nodes stand within at most MaxNest placeholders.
func TestP151Nest(t *testing.T) {
	for n := 1; n <= 12; n++ {
		closers := strings.Repeat("}", n)
		mustPrint(t, strings.Repeat("${1:", n)+closers, nested(n)...)
		mustPrint(t, strings.Repeat("${1:", n)+"a"+closers, append(nested(n), at(n, text("a")))...)
	}
	for n := 13; n <= 15; n++ {
		mustNotBe(t, nested(n)...)
	}
	opener, closers := strings.Repeat("${1:", 12), strings.Repeat("}", 12)
	for _, n := range []struct {
		node api.Node
		is   string
	}{{tab(2), "${2}"}, {choice(2, "a"), "${2|a|}"}, {form(2, "a"), "${2/a//}"}, {variable("x"), "${x}"}, {varOf("x", "a"), "${x/a//}"}} {
		mustPrint(t, opener+n.is+closers, append(nested(12), at(12, n.node))...)
		mustNotBe(t, append(nested(12), at(13, n.node))...)
	}
	mustNotBe(t, append(nested(12), at(12, openElse("x")))...)
	mustNotBe(t, append(nested(12), at(12, tab(1)), at(12, open(2)))...)
	mustNotBe(t, append(nested(12), at(12, open(2)), at(13, text("a")))...)
	mustPrint(t, strings.Repeat("${1:", 11)+"a${x:}"+strings.Repeat("}", 11), append(nested(11), at(11, text("a")), at(11, openElse("x")))...)
	mustNotBe(t, nested(100000)...)
}

func TestP151Kinds(t *testing.T) {
	for _, kind := range []int{-1, 8, 9, '$', math.MinInt, math.MaxInt} {
		mustNotBe(t, api.Node{Kind: kind})
		mustNotBe(t, api.Node{Kind: kind, Text: []rune("a")})
		mustNotBe(t, text("a"), api.Node{Kind: kind, Num: 1})
		mustNotBe(t, api.Node{Kind: kind}, at(1, text("a")))
	}
}

// TestP151Unused is that what a kind does not use is zero or empty.
func TestP151Unused(t *testing.T) {
	x := []rune("x")
	fields := []struct {
		users string
		set   func(n *api.Node)
	}{
		{"1234", func(n *api.Node) { n.Num = 1 }},
		{"0567", func(n *api.Node) { n.Text = x }},
		{"3", func(n *api.Node) { n.Items = [][]rune{x} }},
		{"3", func(n *api.Node) { n.Items = [][]rune{nil} }},
		{"47", func(n *api.Node) { n.Pattern = x }},
		{"47", func(n *api.Node) { n.Forms = []api.Form{group(1, 0)} }},
		{"47", func(n *api.Node) { n.All = true }},
		{"47", func(n *api.Node) { n.Fold = true }},
	}
	nodes := []api.Node{text("x"), tab(1), open(1), choice(1, "x"), form(1, "x"), variable("x"), openElse("x"), varOf("x", "x")}
	for i, f := range fields {
		for kind, n := range nodes {
			f.set(&n)
			if got, want := show.May([]api.Node{n}), strings.Contains(f.users, strconv.Itoa(kind)); got != want {
				t.Errorf("field %d of kind %d: %v, want %v", i, kind, got, want)
			}
		}
	}
	mustNotBe(t, api.Node{Num: -1, Text: x})
	mustNotBe(t, api.Node{Kind: api.NodeVar, Num: -1, Text: x})
}

func TestP151Texts(t *testing.T) {
	mustNotBe(t, text(""))
	mustNotBe(t, tab(1), text(""))
	mustNotBe(t, open(1), at(1, text("")))
	for _, bad := range []rune{math.MinInt32, -1, 0xd800, 0xdfff, 0x110000, math.MaxInt32} {
		mustNotBe(t, api.Node{Text: []rune{bad}})
		mustNotBe(t, api.Node{Text: []rune{'a', 'b', bad}})
		mustNotBe(t, api.Node{Text: append(slices.Repeat([]rune{'a'}, 1000), bad)})
		mustNotBe(t, tab(1), open(1), api.Node{Deep: 1, Text: []rune{bad, 'a'}})
	}
}

// TestP151Beside is that no text stands beside another one.
func TestP151Beside(t *testing.T) {
	a, b := text("a"), text("b")
	mustNotBe(t, a, b)
	mustNotBe(t, tab(1), a, b)
	mustNotBe(t, a, tab(1), a, b)
	mustNotBe(t, open(1), at(1, a), at(1, b))
	mustNotBe(t, open(1), at(1, open(2)), at(2, tab(3)), at(1, a), at(1, b))
	mustPrint(t, "a${1}b", a, tab(1), b)
	mustPrint(t, "a${1:}b", a, open(1), b)
	mustPrint(t, "a${x:}b", a, openElse("x"), b)
	mustPrint(t, "a${1:b}a", a, open(1), at(1, b), a)
	mustPrint(t, "${1:a}b", open(1), at(1, a), b)
	mustPrint(t, "${1:a}${2:b}", open(1), at(1, a), open(2), at(1, b))
	mustPrint(t, "${1:a${2:b}a}b", open(1), at(1, a), at(1, open(2)), at(2, b), at(1, a), b)
	mustPrint(t, "${1:${2:a}b}a", open(1), at(1, open(2)), at(2, a), at(1, b), a)
}

func TestP151Numbers(t *testing.T) {
	makers := []func(number int) (api.Node, string){
		func(n int) (api.Node, string) { return tab(n), "}" },
		func(n int) (api.Node, string) { return open(n), ":}" },
		func(n int) (api.Node, string) { return choice(n, "a"), "|a|}" },
		func(n int) (api.Node, string) { return form(n, "a"), "/a//}" },
	}
	for _, of := range makers {
		for n := range 1000 {
			node, behind := of(n)
			mustPrint(t, "${"+strconv.Itoa(n)+behind, node)
		}
		for _, n := range []int{-1, -2, -999, 1000, 1001, 1 << 32, math.MinInt, math.MaxInt} {
			node, _ := of(n)
			mustNotBe(t, node)
			mustNotBe(t, open(1), at(1, node))
		}
	}
}

func TestP151Names(t *testing.T) {
	makers := []func(name string) (api.Node, string){
		func(s string) (api.Node, string) { return variable(s), "}" },
		func(s string) (api.Node, string) { return openElse(s), ":}" },
		func(s string) (api.Node, string) { return varOf(s, "a"), "/a//}" },
	}
	longest := strings.Repeat("n", 32)
	for _, of := range makers {
		for _, s := range []string{"a", "z", "A", "Z", "_", "__", "a1", "_0", "TM_FILENAME", "aB9_", longest, "_" + longest[:30] + "9"} {
			node, behind := of(s)
			mustPrint(t, "${"+s+behind, node)
		}
		for _, s := range []string{"", "1", "1a", "9_", "a-", "-a", "a b", " ", "a ", "é", "aé", "a:", "a}", "$a", "a\n", "ａ", "а", "a١", longest + "n", longest + "1", longest + "é", strings.Repeat("n", 1000)} {
			node, _ := of(s)
			mustNotBe(t, node)
		}
	}
}

// TestP151NameCharacters is every element as a name, and as its second character.
func TestP151NameCharacters(t *testing.T) {
	for c := rune(-2); c <= 0x110001; c++ {
		digit := c >= '0' && c <= '9'
		letter := c >= 'a' && c <= 'z' || c >= 'A' && c <= 'Z' || c == '_'
		alone := api.Node{Kind: api.NodeVar, Text: []rune{c}}
		second := api.Node{Kind: api.NodeElse, Text: []rune{'a', c}}
		if show.May([]api.Node{alone}) != letter || show.May([]api.Node{second}) != (letter || digit) {
			t.Fatalf("%x: alone %v, second %v", c, show.May([]api.Node{alone}), show.May([]api.Node{second}))
		}
	}
}

func TestP151Items(t *testing.T) {
	for n := 1; n <= 20; n++ {
		mustPrint(t, "${1|"+strings.Repeat("a,", n-1)+"a|}", choice(1, slices.Repeat([]string{"a"}, n)...))
		mustPrint(t, "${1|"+strings.Repeat(",", n-1)+"|}", choice(1, make([]string, n)...))
	}
	mustNotBe(t, choice(1))
	for _, n := range []int{21, 22, 40, 1000} {
		mustNotBe(t, choice(1, slices.Repeat([]string{"a"}, n)...))
		mustNotBe(t, choice(1, make([]string, n)...))
	}
	for _, bad := range []rune{math.MinInt32, -1, 0xd800, 0xdfff, 0x110000, math.MaxInt32} {
		for i := range 20 {
			n := choice(1, slices.Repeat([]string{"a"}, 20)...)
			n.Items[i] = []rune{'a', bad}
			mustNotBe(t, n)
		}
	}
}

func TestP151Patterns(t *testing.T) {
	b := formText("b")
	good := []struct{ pattern, written string }{
		{"", ""}, {"a", "a"}, {"/", `\/`}, {"//", `\/\/`}, {"a/b", `a\/b`}, {`\\`, `\\`}, {`\\/`, `\\\/`}, {`\\\\/`, `\\\\\/`}, {`\.`, `\.`}, {`\./`, `\.\/`}, {`\$\}`, `\$\}`}, {"[/]", `[\/]`}, {`[\]/]`, `[\]\/]`}, {`/\\`, `\/\\`},
		{"}", "}"}, {"$", "$"}, {"^a$", "^a$"}, {"[^}$:|,]", "[^}$:|,]"}, {"a{2,3}", "a{2,3}"}, {"(?:a|b)+?", "(?:a|b)+?"}, {strings.Repeat("a", 60), strings.Repeat("a", 60)}, {strings.Repeat("/", 60), strings.Repeat(`\/`, 60)}, {strings.Repeat("(a)", 9), strings.Repeat("(a)", 9)}, {"é\n文", "é\n文"},
	}
	for _, p := range good {
		mustPrint(t, "${1/"+p.written+"/b/}", form(1, p.pattern, b))
		mustPrint(t, "${x/"+p.written+"/b/i}", flagged(varOf("x", p.pattern, b), false, true))
	}
	for _, p := range []string{`\/`, `\/\/`, `a\/`, `\\\/`, `\.\/`, `[\/]`, `a/\/`, `\`, `a\`, `\\\`, "*", "a**", "(a", "a)", "[", "[b-a]", "a{3,2}", `\e`, strings.Repeat("a", 61), strings.Repeat("a", 1000), strings.Repeat("(a)", 10), strings.Repeat("(", 13) + strings.Repeat(")", 13), "(?:(?:a{9}){9}){4}"} {
		mustNotBe(t, form(1, p, b))
		mustNotBe(t, varOf("x", p, b))
		mustNotBe(t, flagged(form(1, p), true, true))
	}
	for _, bad := range []rune{-1, 0xd800, 0x110000, math.MaxInt32} {
		mustNotBe(t, api.Node{Kind: api.NodeForm, Pattern: []rune{'a', bad}})
		mustNotBe(t, api.Node{Kind: api.NodeVarOf, Text: []rune("x"), Pattern: []rune{'\\', bad}})
	}
}

func TestP151Forms(t *testing.T) {
	bad := [][]api.Form{{{}}, {formText("a"), formText("b")}, {{Kind: 5}}, {{Kind: -1}}, {group(100, 0)}, {group(-1, 0)}, {group(1, 6)}, {group(1, 0), {Text: []rune{-1}}}, {{Kind: api.FormIf, Case: 1}}, {{Kind: api.FormElse, Text: []rune("a")}}, {{Text: []rune("a"), Group: 1}}}
	for _, l := range bad {
		mustNotBe(t, form(1, "a", l...))
		mustNotBe(t, varOf("x", "a", l...))
	}
	mustNotBe(t, form(1, "*", formText("a")))
	mustNotBe(t, varOf("", "a", formText("a")))
}

// TestP151AnyLength is that also what is too long to be printed is a tree.
func TestP151AnyLength(t *testing.T) {
	long := strings.Repeat("a", 100000)
	mustBeFull(t, text(long))
	mustBeFull(t, choice(1, slices.Repeat([]string{long}, 20)...))
	mustBeFull(t, form(1, "a", formText(long)))
	mustBeFull(t, varOf("x", "a", api.Form{Kind: api.FormBoth, Group: 1, Text: []rune(long), Else: []rune(long)}))
	mustBeFull(t, slices.Repeat([]api.Node{tab(1)}, 100000)...)
	mustBeFull(t, slices.Repeat([]api.Node{openElse("x"), at(1, tab(1)), at(1, text("a"))}, 100000)...)
	mustNotBe(t, append(slices.Repeat([]api.Node{tab(1)}, 100000), tab(1000))...)
}

func TestP152Texts(t *testing.T) {
	mustPrint(t, `\$`, text("$"))
	mustPrint(t, `\}`, text("}"))
	mustPrint(t, `\\`, text(`\`))
	mustPrint(t, `a\}b\\c{:`, text(`a}b\c{:`))
	mustPrint(t, `\$\$\}\}\\\\`, text(`$$}}\\`))
	mustPrint(t, `\${1:a\}`, text("${1:a}"))
	mustPrint(t, `\\\$1`, text(`\$1`))
	mustPrint(t, "{|,/:'\"\n\t é文\U0001f600\x00", text("{|,/:'\"\n\t é文\U0001f600\x00"))
	mustPrint(t, `${1:\}\$\\}\}`, open(1), at(1, text(`}$\`)), text("}"))
}

// TestP152Characters is the first characters and some of the others in a text, an item and a pattern, with a backslash where P15.2 says one.
func TestP152Characters(t *testing.T) {
	escaped := func(c rune, special string) string {
		if strings.ContainsRune(special, c) {
			return "\\" + string(c)
		}
		return string(c)
	}
	for c := rune(0); c <= 0x10ffff; c++ {
		if signs.Class(c) == api.ClassNone || c > 0x1000 && c%23 != 0 && c != 0x10ffff && c != 0xfffd {
			continue
		}
		s, item := string(c), escaped(c, `,|\`)
		mustPrint(t, escaped(c, `$}\`), text(s))
		mustPrint(t, "${1|"+item+",a"+item+"|}", choice(1, s, "a"+s))
		if class := "[^" + escaped(c, `]\`) + "]"; c == '/' {
			mustPrint(t, `${1/[^\/]//}`, form(1, class))
		} else {
			mustPrint(t, "${1/"+class+"//}", form(1, class))
		}
		if t.Failed() {
			t.Fatalf("at %x", c)
		}
	}
}

func TestP152Constructs(t *testing.T) {
	mustPrint(t, "${7}x", tab(7), text("x"))
	mustPrint(t, "${0}${999}${10}", tab(0), tab(999), tab(10))
	mustPrint(t, "${1:${2:x}y}z", open(1), at(1, open(2)), at(2, text("x")), at(1, text("y")), text("z"))
	mustPrint(t, "${0:${v_1:}}", open(0), at(1, openElse("v_1")))
	mustPrint(t, "${1:}${2:}", open(1), open(2))
	mustPrint(t, "${_}${a}1", variable("_"), variable("a"), text("1"))
	mustPrint(t, "${x:a${y}}", openElse("x"), at(1, text("a")), at(1, variable("y")))
	mustPrint(t, `${3|a\,b,,\|\\}$|}`, choice(3, "a,b", "", `|\}$`))
	mustPrint(t, "${0||}", choice(0, ""))
	mustPrint(t, "${0|,|}", choice(0, "", ""))
	mustPrint(t, `${1|\\,\\\,|}`, choice(1, `\`, `\,`))
	mustPrint(t, `${1|\\$\\}|}`, choice(1, `\$\}`))
}

func TestP152Transformations(t *testing.T) {
	mustPrint(t, "${0///}", form(0, ""))
	mustPrint(t, "${1/a/b/}", form(1, "a", formText("b")))
	mustPrint(t, "${x/a/b/}", varOf("x", "a", formText("b")))
	mustPrint(t, "${x/a//g}", flagged(varOf("x", "a"), true, false))
	mustPrint(t, "${1/a//i}", flagged(form(1, "a"), false, true))
	mustPrint(t, "${1/a//gi}", flagged(form(1, "a"), true, true))
	mustPrint(t, "${x/a//gi}", flagged(varOf("x", "a"), true, true))
	mustPrint(t, `${2/a\/\\\/\./${1:/upcase}\//gi}`, flagged(form(2, `a/\\/\.`, group(1, api.CaseUp), formText("/")), true, true))
	mustPrint(t, `${1/a/\$1\}\\${1}${2:+\}}${3:-\:}${4:?\\:\/}:/}`, form(1, "a", formText(`$1}\`), group(1, 0), api.Form{Kind: api.FormIf, Group: 2, Text: []rune("}")}, api.Form{Kind: api.FormElse, Group: 3, Else: []rune(":")}, api.Form{Kind: api.FormBoth, Group: 4, Text: []rune(`\`), Else: []rune("/")}, formText(":")))
	mustPrint(t, "${1:${2/}/b/}}", open(1), at(1, form(2, "}", formText("b"))))
}

// TestP152Full is a text of just MaxSnip characters, and of one more, whatever stands last in it.
func TestP152Full(t *testing.T) {
	cases := []struct {
		is   string
		with []api.Node // behind a text
	}{
		{"", nil}, {"${1}", []api.Node{tab(1)}}, {"${999}", []api.Node{tab(999)}}, {"${12:}", []api.Node{open(12)}}, {"${1:\\$}", []api.Node{open(1), at(1, text("$"))}}, {"${1:${2:a}}", []api.Node{open(1), at(1, open(2)), at(2, text("a"))}},
		{"${1|a,\\,|}", []api.Node{choice(1, "a", ",")}}, {"${xy}", []api.Node{variable("xy")}}, {"${x:}", []api.Node{openElse("x")}},
		{`${1/\/\//\//gi}`, []api.Node{flagged(form(1, "//", formText("/")), true, true)}}, {"${x/a/${1}/}", []api.Node{varOf("x", "a", group(1, 0))}},
	}
	for _, c := range cases {
		room := 600 - len(c.is)
		for fill, width := range map[string]int{"a": 1, "文": 1, "$": 2} {
			head := strings.Repeat("a", room%width) + strings.Repeat(fill, room/width)
			got, code := show.Print(append([]api.Node{text(head)}, c.with...))
			if len(got) != 600 || code != api.OK || !strings.HasSuffix(string(got), c.is) {
				t.Errorf("MaxSnip: %q of %d elements, %d: %s", string(got), len(got), code, told(c.with))
			}
			mustBeFull(t, append([]api.Node{text(head + "a")}, c.with...)...)
		}
	}
	mustPrint(t, "${1:"+strings.Repeat("x", 595)+"}", open(1), at(1, text(strings.Repeat("x", 595))))
	mustBeFull(t, open(1), at(1, text(strings.Repeat("x", 596))))
	mustPrint(t, strings.Repeat("${1}", 150), slices.Repeat([]api.Node{tab(1)}, 150)...)
	mustBeFull(t, slices.Repeat([]api.Node{tab(1)}, 151)...)
	mustPrint(t, strings.Repeat(`\}`, 300), text(strings.Repeat("}", 300)))
	mustBeFull(t, text(strings.Repeat("}", 300)+"a"))
}

// TestP152Order is R6: what may not be is ErrForm, however long it is.
func TestP152Order(t *testing.T) {
	long := text(strings.Repeat("a", 601))
	mustBeFull(t, long)
	mustNotBe(t, long, tab(-1))
	mustNotBe(t, long, text("a"))
	mustNotBe(t, open(1), at(1, long), at(2, tab(1)))
	mustNotBe(t, choice(1, append(slices.Repeat([]string{"aaaaaaaaaaaaaaaaaaaaaaaaaaaaaaa"}, 20), "a")...))
}

// TestP152NilAndEmpty is R3.
func TestP152NilAndEmpty(t *testing.T) {
	for _, l := range [][]api.Node{nil, {}, nested(1)[:0], nested(1)[1:]} {
		mustPrint(t, "", l...)
	}
	empty, none := []rune("ab")[:0], []rune("ab")[2:]
	mustPrint(t, "${1}", api.Node{Kind: api.NodeTab, Num: 1, Text: empty, Items: [][]rune{none}[:0], Pattern: none, Forms: []api.Form{formText("")}[:0]})
	mustPrint(t, "${1|,,|}", api.Node{Kind: api.NodeChoice, Num: 1, Items: [][]rune{nil, empty, none}, Pattern: empty, Text: none, Forms: []api.Form{}})
	mustPrint(t, "${1/a/${1:+}/}", api.Node{Kind: api.NodeForm, Num: 1, Pattern: []rune("a"), Forms: []api.Form{{Kind: api.FormIf, Group: 1, Text: empty, Else: none}}, Items: [][]rune{}})
	mustNotBe(t, api.Node{Text: empty})
	mustNotBe(t, api.Node{Kind: api.NodeVar, Text: none})
	mustNotBe(t, api.Node{Kind: api.NodeChoice, Items: [][]rune{}})
}

// TestP152OwnMemory is R4, R5 and R10: no call changes its argument, reads what stands behind it, or keeps it, and results share no memory.
func TestP152OwnMemory(t *testing.T) {
	spare := func(s string) []rune { return append([]rune(s), -1, -1)[:len([]rune(s))] }
	items := [][]rune{spare("a,"), spare(""), {-1}}
	forms := []api.Form{{Text: spare("/t")}, {Kind: api.FormBoth, Group: 1, Text: spare("u"), Else: spare("")}, {Kind: 9}}
	l := []api.Node{{Text: spare("x$")}, {Kind: api.NodePlace, Num: 1}, {Kind: api.NodeChoice, Deep: 1, Num: 2, Items: items[:2]}, {Kind: api.NodeVarOf, Text: spare("v"), Pattern: spare("/p"), Forms: forms[:2], All: true}, {Text: spare("y")}, {Kind: -1}}
	before := told(l) + fmt.Sprint(items, forms)
	const want = `x\$${1:${2|a\,,|}}${v/\/p/\/t${1:?u:}/g}y`
	if !show.May(l[:5]) || show.May(l) {
		t.Errorf("May: %v, %v", show.May(l[:5]), show.May(l))
	}
	first, _ := show.Print(l[:5])
	second, _ := show.Print(l[:5])
	whole := first[:cap(first)]
	for i := range whole {
		whole[i] = '?'
	}
	if after := told(l) + fmt.Sprint(items, forms); string(second) != want || after != before {
		t.Errorf("Print: %q, want %q; %s, before: %s", string(second), want, after, before)
	}
	mustPrint(t, want, l[:5]...)
	plain := []rune("abc")
	own, _ := show.Print([]api.Node{{Text: plain}})
	plain[0] = '?'
	if string(own) != "abc" {
		t.Errorf("Print shares memory with its argument: %q", string(own))
	}
}
