package tree_test

import (
	"fmt"
	"math"
	"slices"
	"strings"
	"testing"

	"standish/api"
	"standish/tree"
)

func ExampleParse() {
	l, fault := tree.Parse([]rune("${1:a$2}b"))
	for _, n := range l {
		fmt.Printf("%d %d %d %q\n", n.Kind, n.Deep, n.Num, string(n.Text))
	}
	fmt.Println(fault.Code == api.OK)
	// Output:
	// 2 0 1 ""
	// 0 1 0 "a"
	// 1 1 2 ""
	// 0 0 0 "b"
	// true
}

// told writes a tree, for the messages.
func told(l []api.Node) string {
	var out []string
	for _, n := range l {
		out = append(out, fmt.Sprintf("{%d deep %d: %d %q %q %q %v %v %v}", n.Kind, n.Deep, n.Num, string(n.Text), n.Items, string(n.Pattern), n.Forms, n.All, n.Fold))
	}
	return strings.Join(out, " ")
}

// The nodes that must be returned.

func text(s string) api.Node { return api.Node{Text: []rune(s)} }
func tab(number int) api.Node {
	return api.Node{Kind: api.NodeTab, Num: number}
}
func variable(name string) api.Node {
	return api.Node{Kind: api.NodeVar, Text: []rune(name)}
}

func choice(number int, items ...string) api.Node {
	n := api.Node{Kind: api.NodeChoice, Num: number}
	for _, s := range items {
		n.Items = append(n.Items, []rune(s))
	}
	return n
}

func form(number int, pattern string, forms ...api.Form) api.Node {
	return api.Node{Kind: api.NodeForm, Num: number, Pattern: []rune(pattern), Forms: forms}
}

func varOf(name, pattern string, forms ...api.Form) api.Node {
	return api.Node{Kind: api.NodeVarOf, Text: []rune(name), Pattern: []rune(pattern), Forms: forms}
}

func formText(s string) api.Form { return api.Form{Text: []rune(s)} }

// flagged is a transformation with flags.
func flagged(n api.Node, all, fold bool) api.Node {
	n.All, n.Fold = all, fold
	return n
}

// place is a placeholder with a number, and what stands in it.
func place(number int, inner ...api.Node) []api.Node {
	return deeper(api.Node{Kind: api.NodePlace, Num: number}, inner)
}

// elsePlace is a placeholder with a name, and what stands in it.
func elsePlace(name string, inner ...api.Node) []api.Node {
	return deeper(api.Node{Kind: api.NodeElse, Text: []rune(name)}, inner)
}

func deeper(n api.Node, inner []api.Node) []api.Node {
	l := []api.Node{n}
	for _, n := range inner {
		n.Deep++
		l = append(l, n)
	}
	return l
}

// list joins nodes and placeholders.
func list(parts ...any) []api.Node {
	var l []api.Node
	for _, p := range parts {
		switch x := p.(type) {
		case api.Node:
			l = append(l, x)
		case []api.Node:
			l = append(l, x...)
		}
	}
	return l
}

// mustParse is that the parts are the tree of s.
func mustParse(t *testing.T, s string, parts ...any) {
	t.Helper()
	want := list(parts...)
	if got, f := tree.Parse([]rune(s)); f != (api.Fault{}) || !same(got, want) {
		t.Errorf("Parse(%q): %s, %v, want %s", s, told(got), f, told(want))
	}
}

// mustBeText is that s is only text, as it is written.
func mustBeText(t *testing.T, l ...string) {
	t.Helper()
	for _, s := range l {
		mustParse(t, s, text(s))
		mustParse(t, "${1:"+s+"\\}}$2", place(1, text(s+"}")), tab(2))
	}
}

// mustFail is that there is this fault and no node.
func mustFail(t *testing.T, s []rune, code api.Errno, at int) {
	t.Helper()
	if got, f := tree.Parse(s); f != (api.Fault{Code: code, At: at}) || len(got) != 0 {
		t.Errorf("Parse(%.40q) of %d elements: %s, %v, want %d at %d", string(s), len(s), told(got), f, code, at)
	}
}

func TestP141Limits(t *testing.T) {
	if got := [...]int{api.MaxSnip, api.MaxNest, api.MaxNum, api.MaxName, api.MaxChoice, api.MaxPattern}; got != [...]int{600, 12, 999, 32, 20, 60} {
		t.Fatalf("the limits are %v", got)
	}
}

func TestP141Text(t *testing.T) {
	mustParse(t, "")
	mustBeText(t, "a", "abc", "a b\n\tc", "1", "12a_", "é文\U0001f600", "\x00", "{", ":", "|", ",", "/", "{1:a|,/", "$", "$$", "a$", "$ 1", "$-", "${", "$ {1", "$\n1")
	mustParse(t, "}", text("}"))
	mustParse(t, "{}}a}", text("{}}a}"))
	mustParse(t, strings.Repeat("}", 600), text(strings.Repeat("}", 600)))
	mustParse(t, strings.Repeat("$", 600), text(strings.Repeat("$", 600)))
}

func TestP141Escapes(t *testing.T) {
	mustParse(t, `\$1`, text("$1"))
	mustParse(t, `\}`, text("}"))
	mustParse(t, `\\`, text(`\`))
	mustParse(t, `\\$1`, text(`\`), tab(1))
	mustParse(t, `\\\$1`, text(`\$1`))
	mustParse(t, `$\{1}`, text(`$\{1}`))
	mustParse(t, `\${1:a}`, text("${1:a}"))
	mustParse(t, `${1:a\}b}c}`, place(1, text("a}b")), text("c}"))
	mustParse(t, `${1:a\\}b}`, place(1, text(`a\`)), text("b}"))
	mustParse(t, `${1\}`, text("${1}"))
	mustBeText(t, `\`+"a", `\{1`, `\:`, `\|`, `\,`, `\/`, `\`+"\n", `\1`, `\é`, `\x\y`)
	mustParse(t, `a\`, text(`a\`))
	mustParse(t, `\\\`, text(`\\`))
	mustParse(t, `${1:\`, text(`${1:\`))
}

func TestP141Tabs(t *testing.T) {
	for _, n := range []string{"0", "1", "9", "10", "999", "00", "007", "0999", strings.Repeat("0", 500), strings.Repeat("0", 500) + "999"} {
		value := 0
		fmt.Sscanf(n, "%d", &value)
		mustParse(t, "$"+n, tab(value))
		mustParse(t, "${"+n+"}", tab(value))
		mustParse(t, "a$"+n+"b", text("a"), tab(value), text("b"))
		mustParse(t, "${"+n+"}1", tab(value), text("1"))
	}
	for _, n := range []string{"1000", "9990", "01000", "4294967297", "18446744073709551617", "18446744073709551616", strings.Repeat("9", 290), "1" + strings.Repeat("0", 200)} {
		mustBeText(t, "$"+n, "${"+n, "${"+n+":a", "${"+n+"|a|", "${"+n+"/a/b/")
		mustParse(t, "${"+n+"}", text("${"+n+"}"))
		mustParse(t, "${"+n+":a}", text("${"+n+":a}"))
		mustParse(t, "${"+n+"|a|}", text("${"+n+"|a|}"))
		mustParse(t, "${"+n+"/a/b/}", text("${"+n+"/a/b/}"))
	}
	mustParse(t, "$1a", tab(1), text("a"))
	mustParse(t, "$1_2", tab(1), text("_2"))
	mustParse(t, "$1$2${3}$$4", tab(1), tab(2), tab(3), text("$"), tab(4))
	mustParse(t, "$1}", tab(1), text("}"))
	mustParse(t, "${$1}", text("${"), tab(1), text("}"))
	for _, s := range []string{"$ 1}", "$ {1}", "$\n{1}", "$-1}", "$(1)", "$[1]", "$<1>", "$|1|", "$:1}", "$/1}", "$,1}", "$}1}"} {
		mustParse(t, s, text(s))
	}
	for _, s := range []string{"${}", "${1 }", "${ 1}", "${1a}", "${-1}", "${1,}", "${1,2}", "${{1}}", "${1{}", "${²}", "${١}", "${１}", "${+1}", "${1.0}"} {
		mustParse(t, s, text(s))
	}
	mustBeText(t, "$²", "$١", "$１", "$-1", "${1", "${1 ", "${1a", "${1{", "${1,", "${999")
	mustParse(t, "${1$2}", text("${1"), tab(2), text("}"))
}

func TestP141Vars(t *testing.T) {
	longest := strings.Repeat("n", 32)
	for _, n := range []string{"a", "Z", "_", "__", "a1", "_0", "TM_FILENAME", "aB9_", longest, "_" + longest[:30] + "9"} {
		mustParse(t, "$"+n, variable(n))
		mustParse(t, "${"+n+"}", variable(n))
		mustParse(t, "-$"+n+"-${"+n+"}1", text("-"), variable(n), text("-"), variable(n), text("1"))
	}
	for _, n := range []string{longest + "n", "_" + longest, longest + "1", strings.Repeat("n", 200)} {
		mustBeText(t, "$"+n, "${"+n, "${"+n+":a", "${"+n+"/a/b/")
		mustParse(t, "${"+n+"}", text("${"+n+"}"))
		mustParse(t, "${"+n+":a}", text("${"+n+":a}"))
		mustParse(t, "${"+n+"/a/b/}", text("${"+n+"/a/b/}"))
	}
	mustParse(t, "$aé", variable("a"), text("é"))
	mustParse(t, "$a$b$1a", variable("a"), variable("b"), tab(1), text("a"))
	mustParse(t, "$a{b}", variable("a"), text("{b}"))
	mustBeText(t, "$é", "$éa", "$α", "${é", "${a", "${a b", "${aé", "${a$", "${a|a|", "${a,")
	for _, s := range []string{"${é}", "${a b}", "${aé}", "${ a}", "${a }", "${a-}", "${a,b}", "${a|b|}", "${a|}"} {
		mustParse(t, s, text(s))
	}
}

func TestP141Places(t *testing.T) {
	mustParse(t, "${1:a}", place(1, text("a")))
	mustParse(t, "${1:}", place(1))
	mustParse(t, "${0999:}", place(999))
	mustParse(t, "${x:}a", elsePlace("x"), text("a"))
	mustParse(t, "${x:a$1}", elsePlace("x", text("a"), tab(1)))
	mustParse(t, "${1: a:b}", place(1, text(" a:b")))
	mustParse(t, "${1::}", place(1, text(":")))
	mustParse(t, "${1:{}}", place(1, text("{")), text("}"))
	mustParse(t, "${1:a}}", place(1, text("a")), text("}"))
	mustParse(t, "${1:${2:${x:b}}c}", place(1, list(place(2, elsePlace("x", text("b"))...), text("c"))...))
	mustParse(t, "${1:${1:a}${1:b}}", place(1, list(place(1, text("a")), place(1, text("b")))...))
	mustParse(t, "${1:$}a", place(1, text("$")), text("a"))
	mustParse(t, "${1:${}a}", place(1, text("${")), text("a}"))
	mustParse(t, "${1:${2}a}", place(1, tab(2), text("a")))
	mustParse(t, "a${1:${2|a,}|}${3/}/}/}b}", text("a"), place(1, choice(2, "a", "}"), form(3, "}", formText("}")), text("b")))
	mustParse(t, "${1 :a}", text("${1 :a}"))
	mustParse(t, "$1:a}", tab(1), text(":a}"))
}

// TestP141Nest is that fewer than MaxNest placeholders are open where one is opened.
func TestP141Nest(t *testing.T) {
	opener := strings.Repeat("${1:", 6) + strings.Repeat("${x:", 6)
	for n := 1; n <= 12; n++ {
		inner := list(text("a"))
		for i := n; i > 0; i-- {
			if i <= 6 {
				inner = place(1, inner...)
			} else {
				inner = elsePlace("x", inner...)
			}
		}
		mustParse(t, opener[:4*n]+"a"+strings.Repeat("}", n), inner)
	}
	within := func(l []api.Node) []api.Node {
		for i := 12; i > 0; i-- {
			if i <= 6 {
				l = place(1, l...)
			} else {
				l = elsePlace("x", l...)
			}
		}
		return l
	}
	closers := strings.Repeat("}", 12)
	mustParse(t, opener+"${2:b}"+closers, within(list(text("${2:b"))), text("}"))
	mustParse(t, opener+"${y:b}"+closers, within(list(text("${y:b"))), text("}"))
	mustParse(t, opener+"${2:${3:${4:"+closers, within(list(text("${2:${3:${4:"))))
	mustParse(t, opener+"${2:$3"+closers, within(list(text("${2:"), tab(3))))
	mustParse(t, opener+"$2${3}$x${y}${4|a|}${5/a/b/}${z/a//}"+closers, within(list(tab(2), tab(3), variable("x"), variable("y"), choice(4, "a"), form(5, "a", formText("b")), varOf("z", "a"))))
	mustParse(t, opener+"}${2:b}"+closers, list(within(nil)[:11], api.Node{Kind: api.NodeElse, Deep: 11, Text: []rune("x")}, api.Node{Kind: api.NodePlace, Deep: 11, Num: 2}, api.Node{Deep: 12, Text: []rune("b")}), text("}")) // one was closed: there is room for one
	mustParse(t, opener+closers+"${2:b}", within(nil), place(2, text("b")))
	mustParse(t, strings.Repeat("${1:}", 100), slices.Repeat(place(1), 100))
}

// TestP141NestOpen is that a placeholder that nothing closes is open as well.
func TestP141NestOpen(t *testing.T) {
	opener := strings.Repeat("${1:", 12)
	mustParse(t, opener+"${2:b}", text(opener[4:]), place(1, text("${2:b")))
	mustParse(t, opener+"${2:b", text(opener+"${2:b"))
	mustParse(t, opener+"}${2:b}${3:${4:c}", text(opener[4:]), place(1), place(2, text("b")), place(3, text("${4:c")))
}

func TestP141Choices(t *testing.T) {
	mustParse(t, "${1|a,b|}", choice(1, "a", "b"))
	mustParse(t, "${012|a|}b", choice(12, "a"), text("b"))
	mustParse(t, "${1||}", choice(1, ""))
	mustParse(t, "${1|,|}", choice(1, "", ""))
	mustParse(t, "${1|,,a,|}", choice(1, "", "", "a", ""))
	mustParse(t, `${1|\,,\|,\\|}`, choice(1, ",", "|", `\`))
	mustParse(t, `${1|a\,b\|c\\d|}`, choice(1, `a,b|c\d`))
	mustParse(t, `${1|\a\},\$\/\:,\`+"\n"+`|}`, choice(1, `\a\}`, `\$\/\:`, "\\\n"))
	mustParse(t, `${1|\\|}`, choice(1, `\`))
	mustParse(t, `${1|\\\||}`, choice(1, `\|`))
	mustParse(t, "${1|}$2{${3:a},\n é|}", choice(1, "}$2{${3:a}", "\n é"))
	mustParse(t, "${1|a|}|}", choice(1, "a"), text("|}"))
	mustParse(t, "${1|${2|a|}", text("${1|"), choice(2, "a"))
	mustParse(t, "${1|a|$2", text("${1|a|"), tab(2))
	mustParse(t, "${1|a|${2:b}|}", text("${1|a|"), place(2, text("b")), text("|}"))
	mustParse(t, "${1|$2\\", text("${1|"), tab(2), text("\\"))
	for _, s := range []string{"${1|}", "${1|a}", "${1|a|b|}", "${1|a| }", "${1|a||}", "${1 |a|}", "${1|a|\n}", "${|a|}", "${x|a|}", "${x||}"} {
		mustParse(t, s, text(s))
	}
	mustParse(t, `${1|a\|}`, text("${1|a\\|}"))
	mustParse(t, `${1|a\\\|}`, text(`${1|a\\|}`)) // the pairs are now those of text
	mustBeText(t, "${1|", "${1||", "${1|a", "${1|a,", "${1|a,b|", "${1|a|b", "${x|a|")
}

func TestP141ChoiceItems(t *testing.T) {
	for n := 1; n <= 20; n++ {
		mustParse(t, "${1|"+strings.Repeat("a,", n-1)+"a|}", choice(1, slices.Repeat([]string{"a"}, n)...))
		mustParse(t, "${1|"+strings.Repeat(",", n-1)+"|}", choice(1, make([]string, n)...))
	}
	for _, n := range []int{21, 22, 40, 590} {
		s := "${1|" + strings.Repeat(",", n-1) + "|}"
		mustParse(t, s, text(s))
	}
	s := "${1|" + strings.Repeat("a,", 20) + "a|}"
	mustParse(t, s, text(s))
	mustParse(t, "${1|"+strings.Repeat(`\,`, 100)+"|}", choice(1, strings.Repeat(",", 100)))
	mustParse(t, "${1|"+strings.Repeat("é", 594)+"|}", choice(1, strings.Repeat("é", 594)))
}

func TestP141Forms(t *testing.T) {
	b := formText("b")
	mustParse(t, "${1/a/b/}", form(1, "a", b))
	mustParse(t, "${012/a/b/}c", form(12, "a", b), text("c"))
	mustParse(t, "${x/a/b/}", varOf("x", "a", b))
	mustParse(t, "${1///}", form(1, ""))
	mustParse(t, "${_///g}", flagged(varOf("_", ""), true, false))
	mustParse(t, "${1/(a)|b*?/$1/}", form(1, "(a)|b*?", api.Form{Kind: api.FormGroup, Group: 1}))
	mustParse(t, "${1/a/-${1:/upcase}${2:+c}}/}", form(1, "a", formText("-"), api.Form{Kind: api.FormGroup, Group: 1, Case: api.CaseUp}, api.Form{Kind: api.FormIf, Group: 2, Text: []rune("c")}, formText("}")))
	mustParse(t, `${1/a/\/\}\$1\\/}`, form(1, "a", formText(`/}$1\`)))
	mustParse(t, "${1/a/$999/}", form(1, "a", formText("$999")))
	mustParse(t, "${1/é\n/\n/}", form(1, "é\n", formText("\n")))
	mustParse(t, "${1/${2:a}/b/}", text("${1/"), place(2, text("a")), text("/b/}"))
	mustParse(t, "${1:${2/a/b/}}", place(1, form(2, "a", b)))
	mustParse(t, "${x:${y/a/b/i}}", elsePlace("x", flagged(varOf("y", "a", b), false, true)))
	mustParse(t, "$1/a/b/", tab(1), text("/a/b/"))
	for _, s := range []string{"${1/}", "${1//}", "${1/a/b}", "${1/a/b/ }", "${1/a/b//}", "${1/a/b/:}", "${/a/b/}", "${1 /a/b/}", "${x/a}", "${1000/a/b/}"} {
		mustParse(t, s, text(s))
	}
	mustBeText(t, "${1/", "${1/a", "${1/a/", "${1/a/b", "${1/a/b/", "${1/a/b/g", "${x/a/b/gi")
	mustParse(t, "${1/a/${1:+/}", text("${1/a/"), place(1, text("+/")))
	mustParse(t, "${1/a/$2", text("${1/a/"), tab(2))
	mustParse(t, "${1/a/b/$2", text("${1/a/b/"), tab(2))
}

func TestP141Patterns(t *testing.T) {
	b := formText("b")
	patterns := []struct{ written, is string }{
		{`\/`, "/"}, {`\/\/`, "//"}, {`a\/b`, "a/b"}, {`\\`, `\\`}, {`\\\/`, `\\/`}, {`\.`, `\.`}, {`\$\}`, `\$\}`}, {`\{\|`, `\{\|`}, {`[\/]`, "[/]"}, {`[\]\\]`, `[\]\\]`},
		{"}", "}"}, {"$", "$"}, {"^a$", "^a$"}, {"[^}$:|,]", "[^}$:|,]"}, {"a{2,3}", "a{2,3}"}, {"(?:a|b)+", "(?:a|b)+"}, {strings.Repeat("a", 60), strings.Repeat("a", 60)}, {strings.Repeat(`\/`, 60), strings.Repeat("/", 60)},
		{strings.Repeat("(a)", 9), strings.Repeat("(a)", 9)},
	}
	for _, p := range patterns {
		mustParse(t, "${1/"+p.written+"/b/}", form(1, p.is, b))
		mustParse(t, "${x/"+p.written+"/b/}", varOf("x", p.is, b))
	}
	for _, s := range []string{"*", "a**", "(a", "a)", "[", "[b-a]", "a{3,2}", strings.Repeat("a", 61), strings.Repeat("(a)", 10), strings.Repeat("(", 13) + strings.Repeat(")", 13), "(?:(?:a{9}){9}){4}"} {
		mustParse(t, "${1/"+s+"/b/}", text("${1/"+s+"/b/}"))
		mustParse(t, "${x/"+s+"/b/}", text("${x/"+s+"/b/}"))
		mustParse(t, "${1/"+s+"/$2/}", text("${1/"+s+"/"), tab(2), text("/}"))
	}
	s := "${1/" + strings.Repeat(`\/`, 61) + "/b/}"
	mustParse(t, s, text(s))
	mustParse(t, `${1/[/]/b/}`, text("${1/[/]/b/}")) // the / ends the pattern, in a set as well
	mustParse(t, `${1/a\/b/}`, text(`${1/a\/b/}`))
	mustParse(t, `${1/a\/b/c/}`, form(1, "a/b", formText("c")))
	mustParse(t, `${1/a\\/b/}`, form(1, `a\\`, b))
	mustParse(t, `${1/a\`, text(`${1/a\`))
	mustParse(t, `${1/\`, text(`${1/\`))
	mustParse(t, `${1/a\/`, text(`${1/a\/`))
}

func TestP141Flags(t *testing.T) {
	for flags, is := range map[string][2]bool{"": {}, "g": {true, false}, "i": {false, true}, "gi": {true, true}, "ig": {true, true}} {
		mustParse(t, "${1/a//"+flags+"}g", flagged(form(1, "a"), is[0], is[1]), text("g"))
		mustParse(t, "${x/a//"+flags+"}i", flagged(varOf("x", "a"), is[0], is[1]), text("i"))
	}
	for _, flags := range []string{"gg", "ii", "gig", "igi", "ggi", "iig", "gii", "igg", "x", "gx", "xg", "gix", "G", "I", " ", "g ", " i", "g,i", "1", "g1", "gi/", ":"} {
		mustParse(t, "${1/a//"+flags+"}", text("${1/a//"+flags+"}"))
		mustParse(t, "${x/a//"+flags+"}", text("${x/a//"+flags+"}"))
	}
}

// TestP141GoesOn is that reading goes on with the character after a $ that begins nothing.
func TestP141GoesOn(t *testing.T) {
	mustParse(t, "$$1", text("$"), tab(1))
	mustParse(t, "${$1", text("${"), tab(1))
	mustParse(t, "${1${2}", text("${1"), tab(2))
	mustParse(t, "${1|a,$2,${x}", text("${1|a,"), tab(2), text(","), variable("x"))
	mustParse(t, "${1|a,\\$2", text("${1|a,$2"))
	mustParse(t, "${1/a/${2:b}", text("${1/a/"), place(2, text("b")))
	mustParse(t, "${1/a/${2:b}/", text("${1/a/"), place(2, text("b")), text("/"))
	mustParse(t, "${1/*/${2|a|}/}", text("${1/*/"), choice(2, "a"), text("/}"))
	mustParse(t, "${1/a\\\\b", text("${1/a\\b"))
	mustParse(t, "${1:${2|a}b}", place(1, text("${2|a")), text("b}"))
	mustParse(t, "${1:${2/a}b}", place(1, text("${2/a")), text("b}"))
	mustParse(t, strings.Repeat("${1/", 150), text(strings.Repeat("${1/", 150)))
	mustParse(t, strings.Repeat("${1|", 149)+"|}", text(strings.Repeat("${1|", 148)), choice(1, ""))
}

func TestP142Unclosed(t *testing.T) {
	mustParse(t, "${1:", text("${1:"))
	mustParse(t, "${1:a$2", text("${1:a"), tab(2))
	mustParse(t, "${x:$1a", text("${x:"), tab(1), text("a"))
	mustParse(t, "a${1:b${2:c}", text("a${1:b"), place(2, text("c")))
	mustParse(t, "${1:${2:a}", text("${1:"), place(2, text("a")))
	mustParse(t, "${1:${2:a${3:b}c", text("${1:${2:a"), place(3, text("b")), text("c"))
	mustParse(t, "${1:${2:a}${3:b${4:${5:c}}d", text("${1:"), place(2, text("a")), text("${3:b"), place(4, place(5, text("c"))...), text("d"))
	mustParse(t, "${007:${_x:a", text("${007:${_x:a"))
	mustParse(t, "$1${2:a$3${4:b${x:c}$5", tab(1), text("${2:a"), tab(3), text("${4:b"), elsePlace("x", text("c")), tab(5))
	mustParse(t, `${1:a\}b`, text("${1:a}b"))
	mustParse(t, "${1:${2:a}}${3:b", place(1, place(2, text("a"))...), text("${3:b"))
	mustParse(t, strings.Repeat("${1:", 150), text(strings.Repeat("${1:", 150)))
}

func TestP143Texts(t *testing.T) {
	mustParse(t, `a\$b\}c\\d$`, text(`a$b}c\d$`))
	mustParse(t, "a${1:b}c", text("a"), place(1, text("b")), text("c"))
	mustParse(t, "a${1:}c", text("a"), place(1), text("c"))
	mustParse(t, "a${1:${2:}}c", text("a"), place(1, place(2)...), text("c"))
	mustParse(t, "${1:a}${2:b}c", place(1, text("a")), place(2, text("b")), text("c"))
	mustParse(t, "a${1:b${2:c", text("a${1:b${2:c"))
	mustParse(t, "${1:a${2:b${3:c}d${4:e", text("${1:a${2:b"), place(3, text("c")), text("d${4:e"))
	mustParse(t, "${1:a${2:}${3:b}c", text("${1:a"), place(2), place(3, text("b")), text("c"))
}

// TestP144 is P14.4 for some trees; the model's tests are it for every text that they try.
func TestP144Returns(t *testing.T) {
	for _, s := range []string{"", "$", "${1:a$2", "${1:a\\}b}", "${1|a\\,b,\\||}", "${x/a\\/b/\\/${1:-c}/ig}", strings.Repeat("${1:", 12) + "${2:", strings.Repeat("${x:", 12) + strings.Repeat("}", 12)} {
		l, _ := tree.Parse([]rune(s))
		mustReturn(t, l)
	}
}

func TestP141Full(t *testing.T) {
	for _, unit := range []rune{'a', '$', '}', '\\', '\n', -1, 0xd800} {
		for _, n := range []int{601, 602, 10000} {
			mustFail(t, slices.Repeat([]rune{unit}, n), api.ErrFull, 600)
		}
	}
	mustParse(t, strings.Repeat("a", 598)+"$1", text(strings.Repeat("a", 598)), tab(1))
	mustParse(t, strings.Repeat("文", 600), text(strings.Repeat("文", 600)))
}

func TestP141NoCharacters(t *testing.T) {
	for _, bad := range []rune{math.MinInt32, -1, 0xd800, 0xdfff, 0x110000, math.MaxInt32} {
		for at, s := range [][]rune{{bad}, {'a', bad, -1}, {'$', '{', bad}, {'$', '{', '1', bad, '}'}, {'$', '{', '1', '|', bad, '|', '}'}, {'$', '{', '1', '/', 'a', bad, '/', '/', '}', -1}} {
			mustFail(t, s, api.ErrForm, at)
		}
	}
	mustFail(t, append(slices.Repeat([]rune{'a'}, 599), -1), api.ErrForm, 599)
}

// TestP141NilAndEmpty is R3.
func TestP141NilAndEmpty(t *testing.T) {
	for _, s := range [][]rune{nil, {}, []rune("abc")[:0], []rune("abc")[3:]} {
		if l, f := tree.Parse(s); len(l) != 0 || f != (api.Fault{}) {
			t.Errorf("Parse of nothing: %s, %v", told(l), f)
		}
	}
}

// slicesOf returns all texts of a tree.
func slicesOf(l []api.Node) [][]rune {
	var all [][]rune
	for _, n := range l {
		all = append(all, n.Text, n.Pattern)
		all = append(all, n.Items...)
		for _, f := range n.Forms {
			all = append(all, f.Text, f.Else)
		}
	}
	return all
}

// TestP141OwnMemory is R4, R5 and R10: what stands behind a text plays no part, no call changes it, and results share no memory.
func TestP141OwnMemory(t *testing.T) {
	for _, written := range []string{
		"ab${1:c\\}${x:$y}}${x/p\\/q/r$1${2:?s:t}/g}${2|u,v\\,|}${3:w${4:z}",
		"${1/p/${2:-q}/}${x:${2:$3",
		"${1|,a,|}$x${y:}${1:${z}",
	} {
		mustCut(t, written)
		mustNotShare(t, written)
	}
}

// mustCut is that each part of a text has the same tree whether or not something stands behind it.
func mustCut(t *testing.T, written string) {
	t.Helper()
	whole := []rune(written)
	for from := range len(whole) + 1 {
		for to := from; to <= len(whole); to++ {
			cut, f := tree.Parse(whole[from:to])
			alone, g := tree.Parse(slices.Clip(slices.Clone(whole[from:to])))
			if f != g || !same(cut, alone) || string(whole) != written {
				t.Fatalf("Parse(%q) with more behind it: %s, %v, alone: %s, %v; the text is %q", string(whole[from:to]), told(cut), f, told(alone), g, string(whole))
			}
		}
	}
}

// mustNotShare is that what is written into one text of a tree, or behind it, shows nowhere else.
func mustNotShare(t *testing.T, written string) {
	t.Helper()
	whole := []rune(written)
	want := modelTree(written)
	first, _ := tree.Parse(whole)
	second, _ := tree.Parse(whole)
	for k, s := range slicesOf(second) {
		old := slices.Clone(s)
		for i := range s[:cap(s)] {
			s[:cap(s)][i] = -1
		}
		for j, other := range slicesOf(second) {
			if j != k && slices.Contains(other, -1) {
				t.Errorf("texts %d and %d of %q share memory", k, j, written)
			}
		}
		copy(s, old)
		if !same(first, want) || !same(second, want) || string(whole) != written {
			t.Fatalf("text %d of %q shares memory: %s, %s; the snippet is %q", k, written, told(first), told(second), string(whole))
		}
	}
	for i := range whole {
		whole[i] = -1
	}
	if third, _ := tree.Parse([]rune(written)); !same(first, want) || !same(second, want) || !same(third, want) {
		t.Errorf("%q is kept: %s, %s, %s", written, told(first), told(second), told(third))
	}
}
