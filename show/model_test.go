package show_test

import (
	"math/rand"
	"regexp"
	"slices"
	"strconv"
	"strings"
	"testing"

	"standish/api"
	"standish/format"
	"standish/show"
	"standish/tree"
)

// The model puts backslashes into texts and items by tables, and into patterns by an expression that reads them in pairs.
var (
	modelText  = strings.NewReplacer("$", `\$`, "}", `\}`, `\`, `\\`)
	modelItem  = strings.NewReplacer(",", `\,`, "|", `\|`, `\`, `\\`)
	modelPairs = regexp.MustCompile(`(?s)\\.|/`)
)

// printed is what P15.2 says of a tree, without its limit. It takes any list, and closes what is open as far as it can.
func printed(l []api.Node) string {
	var out strings.Builder
	open := 0
	for _, n := range l {
		out.WriteString(strings.Repeat("}", min(max(open-n.Deep, 0), 20)))
		open = min(open, max(n.Deep, 0))
		number, name := "${"+strconv.Itoa(n.Num), "${"+string(n.Text)
		switch n.Kind {
		case api.NodeText:
			out.WriteString(modelText.Replace(string(n.Text)))
		case api.NodeTab:
			out.WriteString(number + "}")
		case api.NodePlace:
			out.WriteString(number + ":")
			open++
		case api.NodeChoice:
			out.WriteString(number + "|" + strings.Join(printedItems(n.Items), ",") + "|}")
		case api.NodeForm:
			out.WriteString(number + printedForm(n))
		case api.NodeVar:
			out.WriteString(name + "}")
		case api.NodeElse:
			out.WriteString(name + ":")
			open++
		case api.NodeVarOf:
			out.WriteString(name + printedForm(n))
		}
	}
	return out.String() + strings.Repeat("}", open)
}

func printedItems(items [][]rune) []string {
	var l []string
	for _, item := range items {
		l = append(l, modelItem.Replace(string(item)))
	}
	return l
}

// printedForm is what stands behind the number or the name of a transformation.
func printedForm(n api.Node) string {
	forms, _ := format.Print(n.Forms)
	pattern := modelPairs.ReplaceAllStringFunc(string(n.Pattern), func(s string) string {
		if s == "/" {
			return `\/`
		}
		return s
	})
	flags := map[bool]string{true: "g"}[n.All] + map[bool]string{true: "i"}[n.Fold]
	return "/" + pattern + "/" + string(forms) + "/" + flags + "}"
}

// modelDeep is what the first item of P15.1 and the one of adjacent texts say of a list, by its words.
func modelDeep(l []api.Node) bool {
	for i, n := range l {
		holds := n.Kind == api.NodePlace || n.Kind == api.NodeElse
		switch {
		case i == 0 && n.Deep != 0, n.Deep < 0, n.Deep > 12, holds && n.Deep == 12:
			return false
		case i > 0 && n.Deep > l[i-1].Deep+1:
			return false
		case i > 0 && n.Deep > l[i-1].Deep && l[i-1].Kind != api.NodePlace && l[i-1].Kind != api.NodeElse:
			return false
		case n.Kind == api.NodeText && besideText(l[:i], n.Deep):
			return false
		}
	}
	return true
}

// besideText reports whether a text is the last node of this Deep, with no node of a lesser Deep behind it.
func besideText(before []api.Node, deep int) bool {
	for _, n := range slices.Backward(before) {
		if n.Deep <= deep {
			return n.Deep == deep && n.Kind == api.NodeText
		}
	}
	return false
}

// same reports whether two trees are equal.
func same(a, b []api.Node) bool {
	form := func(x, y api.Form) bool {
		return x.Kind == y.Kind && x.Group == y.Group && x.Case == y.Case && slices.Equal(x.Text, y.Text) && slices.Equal(x.Else, y.Else)
	}
	return slices.EqualFunc(a, b, func(x, y api.Node) bool {
		return x.Kind == y.Kind && x.Deep == y.Deep && x.Num == y.Num && x.All == y.All && x.Fold == y.Fold && slices.Equal(x.Text, y.Text) &&
			slices.EqualFunc(x.Items, y.Items, slices.Equal[[]rune]) && slices.Equal(x.Pattern, y.Pattern) && slices.EqualFunc(x.Forms, y.Forms, form)
	})
}

// holdToModel holds all that this package tells of any list to the model: Parse could return it if it returns it for what the model prints. It reports whether it could.
func holdToModel(t *testing.T, l []api.Node) bool {
	t.Helper()
	want := printed(l)
	length := len([]rune(want))
	if length > 600 {
		t.Fatalf("the model prints %d elements, which Parse does not take", length)
	}
	again, f := tree.Parse([]rune(want))
	may := f == (api.Fault{}) && same(again, l)
	got, code := show.Print(l)
	if may != show.May(l) {
		t.Fatalf("May(%s): %v, want %v", told(l), !may, may)
	}
	if may && (code != api.OK || string(got) != want) {
		t.Fatalf("Print(%s): %q, %d, want %q", told(l), string(got), code, want)
	}
	if !may && (code != api.ErrForm || len(got) > 0) {
		t.Fatalf("Print(%s): %q, %d, want %d", told(l), string(got), code, api.ErrForm)
	}
	return may
}

// everyList runs do on all lists of up to n of some nodes, behind a head.
func everyList(head, nodes []api.Node, n int, do func(l []api.Node)) {
	do(head)
	if n == 0 {
		return
	}
	for _, node := range nodes {
		everyList(append(slices.Clip(head), node), nodes, n-1, do)
	}
}

// atDeeps returns each of some nodes at each Deep from one to another.
func atDeeps(from, to int, nodes ...api.Node) []api.Node {
	var l []api.Node
	for deep := from; deep <= to; deep++ {
		for _, n := range nodes {
			n.Deep = deep
			l = append(l, n)
		}
	}
	return l
}

// TestP151AllShortLists holds all short lists of some nodes at some Deeps to the chapter's words and to Parse.
func TestP151AllShortLists(t *testing.T) {
	cases := []struct {
		head, nodes []api.Node
		n           int
	}{
		{nil, atDeeps(0, 2, text("a"), tab(1), open(1), openElse("x")), 4},
		{nil, atDeeps(-1, 3, text("a"), variable("x"), open(1)), 3},
		{nil, atDeeps(0, 1, text("a"), open(1)), 7},
		{nil, atDeeps(0, 1, text("$"), text(""), tab(-1), choice(1, "a"), choice(1), form(1, "a"), form(1, "*"), variable("é"), openElse(""), varOf("x", "")), 3},
		{nested(2), atDeeps(0, 4, text("a"), openElse("x")), 4},
		{nested(11), atDeeps(10, 13, text("a"), tab(1), open(1), openElse("x")), 3},
		{nested(12), atDeeps(10, 13, text("a"), varOf("x", "a"), open(1), openElse("x")), 3},
		{append(nested(12), atDeeps(12, 12, text("a"))...), atDeeps(0, 13, text("a"), open(1)), 2},
	}
	for _, c := range cases {
		some := 0
		everyList(c.head, c.nodes, c.n, func(l []api.Node) {
			may := holdToModel(t, l)
			if may && !modelDeep(l) {
				t.Fatalf("May(%s) goes against P15.1's words", told(l))
			}
			if may {
				some++
			}
		})
		if some == 0 {
			t.Errorf("no list from %s is a tree", told(c.nodes))
		}
	}
}

// TestP151AllDeeps holds all short lists of nodes without a slip to P15.1's words of Deep and adjacent texts alone.
func TestP151AllDeeps(t *testing.T) {
	everyList(nil, atDeeps(-1, 2, text("a"), tab(1), open(1)), 5, func(l []api.Node) {
		if got, want := show.May(l), modelDeep(l); got != want {
			t.Fatalf("May(%s): %v, want %v", told(l), got, want)
		}
	})
}

// TestP151AllFields holds nodes of each kind, with all sorts of things in every field, to Parse.
func TestP151AllFields(t *testing.T) {
	nums := []int{-1, 0, 1, 999, 1000}
	texts := []string{"", "a", "_A9", "9", "$}\\", "é"}
	items := [][]string{nil, {""}, {"a", ",|\\"}, slices.Repeat([]string{"b"}, 21)}
	patterns := []string{"", "a", "/", `\/`, "(", `\\/`}
	forms := [][]api.Form{nil, {{Text: []rune("/")}}, {{}}, {{Kind: api.FormIf, Group: 1}}, {{Kind: api.FormGroup, Group: 100}}}
	tried, valid := 0, 0
	for kind := -1; kind <= 8; kind++ {
		for _, num := range nums {
			for _, s := range texts {
				for _, item := range items {
					for _, pattern := range patterns {
						for _, parts := range forms {
							for flags := range 4 {
								n := choice(num, item...)
								n.Kind, n.Text, n.Pattern, n.Forms, n.All, n.Fold = kind, []rune(s), []rune(pattern), parts, flags&1 != 0, flags&2 != 0
								tried++
								if holdToModel(t, []api.Node{n}) {
									valid++
								}
							}
						}
					}
				}
			}
		}
	}
	// five texts; three numbers alone, as a placeholder, with two choices, with four patterns, three formats and four flags; two names in three ways
	if want := 5 + 3 + 3 + 3*2 + 3*4*3*4 + 2 + 2 + 2*4*3*4; valid != want {
		t.Errorf("%d of %d nodes may be, want %d", valid, tried, want)
	}
}

// TestP151AllPatterns holds all short patterns of some characters to Parse, of a number and of a name, with Fold and without.
func TestP151AllPatterns(t *testing.T) {
	var patterns []string
	all := []string{""}
	for range 5 {
		var longer []string
		for _, p := range all {
			for _, c := range `\/a*[].` {
				longer = append(longer, p+string(c))
			}
		}
		patterns = append(patterns, all...)
		all = longer
	}
	for i, p := range append(patterns, all...) {
		n := form(1, p)
		if i%2 == 0 {
			n = varOf("x", p)
		}
		holdToModel(t, []api.Node{flagged(n, i%3 == 0, i%5 < 2)})
	}
}

// anyText returns some elements of an alphabet.
func anyText(rnd *rand.Rand, least, most int) []rune {
	alphabet := []rune("\\\\$${}}:||,,//1aé\n文\U0001f600\x00")
	s := make([]rune, least+rnd.Intn(most-least+1))
	for i := range s {
		s[i] = alphabet[rnd.Intn(len(alphabet))]
	}
	return s
}

// anyTree returns a tree of some nodes, as P15.1 allows them.
func anyTree(rnd *rand.Rand, deep int) []api.Node {
	var l []api.Node
	afterText := false
	for range rnd.Intn(4) {
		n := anyNode(rnd, deep)
		if n.Kind == api.NodeText && afterText {
			continue
		}
		l = append(l, n)
		afterText = n.Kind == api.NodeText
		if n.Kind == api.NodePlace || n.Kind == api.NodeElse {
			l = append(l, anyTree(rnd, deep+1)...)
		}
	}
	return l
}

// anyNode returns a node as Parse could find it.
func anyNode(rnd *rand.Rand, deep int) api.Node {
	patterns := []string{"", "a", "/", `\\/`, `(a|/)\.`, "[/}$]*", `\$\}`, `\\\\//`, strings.Repeat("/", 60)}
	names := []string{"x", "_", "TM_LINE", "a1", strings.Repeat("n", 32)}
	n := api.Node{Kind: rnd.Intn(8), Deep: deep}
	if deep == 12 && (n.Kind == api.NodePlace || n.Kind == api.NodeElse) {
		n.Kind = api.NodeTab
	}
	switch n.Kind {
	case api.NodeText:
		n.Text = anyText(rnd, 1, 5)
	case api.NodeTab, api.NodePlace, api.NodeChoice, api.NodeForm:
		n.Num = rnd.Intn(1000)
	default:
		n.Text = []rune(names[rnd.Intn(len(names))])
	}
	switch n.Kind {
	case api.NodeChoice:
		for range 1 + rnd.Intn(4) {
			n.Items = append(n.Items, anyText(rnd, 0, 4))
		}
	case api.NodeForm, api.NodeVarOf:
		n.Pattern = []rune(patterns[rnd.Intn(len(patterns))])
		n.Forms = []api.Form{{Text: anyText(rnd, 1, 4)}, {Kind: api.FormGroup, Group: rnd.Intn(100), Case: rnd.Intn(6)}, {Kind: api.FormBoth, Text: anyText(rnd, 0, 3), Else: anyText(rnd, 0, 3)}, {Kind: api.FormElse, Else: anyText(rnd, 0, 3)}}[rnd.Intn(4):]
		n.All, n.Fold = rnd.Intn(2) == 0, rnd.Intn(2) == 0
	}
	return n
}

// slip changes one thing of a node, which may leave it as Parse could find it.
func slip(rnd *rand.Rand, n *api.Node) {
	switch rnd.Intn(10) {
	case 0, 1:
		n.Deep += 1 - 2*rnd.Intn(2)
	case 2:
		n.Kind = rnd.Intn(10) - 1
	case 3:
		n.Num = []int{-1, 0, 1, 1000}[rnd.Intn(4)]
	case 4:
		n.Text = anyText(rnd, 0, 2)
	case 5:
		n.Items = [][][]rune{nil, {nil}, {anyText(rnd, 0, 2)}, {{-1}}, {{'a'}, {0xd800}}, make([][]rune, 21)}[rnd.Intn(6)]
	case 6:
		n.Pattern = anyText(rnd, 0, 3)
	case 7:
		n.Forms = [][]api.Form{nil, {{}}, {{Text: []rune("a")}}, {{Text: []rune("a")}, {Text: []rune("b")}}, {{Kind: 5}}}[rnd.Intn(5)]
	case 8:
		n.All = !n.All
	case 9:
		n.Fold = !n.Fold
	}
}

// TestP152AnyTree holds all sorts of trees to the model: all of them may be (P15.1), are printed as it prints them (P15.2) and are read again as they were (P15.3).
func TestP152AnyTree(t *testing.T) {
	rnd := rand.New(rand.NewSource(15))
	for i := range 30000 {
		l := anyTree(rnd, 0)
		if i%50 == 0 {
			l = append(nested(12), anyTree(rnd, 12)...)
		}
		want := printed(l)
		if len([]rune(want)) > 600 {
			if got, code := show.Print(l); !show.May(l) || code != api.ErrFull || len(got) > 0 {
				t.Fatalf("Print(%s): %q, %d, want %d; May: %v", told(l), string(got), code, api.ErrFull, show.May(l))
			}
		} else if !holdToModel(t, l) {
			t.Fatalf("no tree: %s", told(l))
		}
	}
}

// TestP151AnySlip holds trees with a slip in one node, or without one of the nodes, to the model.
func TestP151AnySlip(t *testing.T) {
	rnd := rand.New(rand.NewSource(151))
	counts := map[bool]int{}
	for range 40000 {
		l := anyTree(rnd, 0)
		if len(l) == 0 {
			continue
		}
		at := rnd.Intn(len(l))
		switch rnd.Intn(8) {
		case 0:
			l = slices.Delete(l, at, at+1)
		case 1:
			l = slices.Insert(l, at, anyNode(rnd, rnd.Intn(3)))
		default:
			slip(rnd, &l[at])
		}
		if len([]rune(printed(l))) <= 600 {
			counts[holdToModel(t, l)]++
		}
	}
	if counts[true] < 3000 || counts[false] < 3000 {
		t.Errorf("trees and others: %v", counts)
	}
}

// mustReturn is P15.3 for the tree of a text (and thus P14.4): it is a tree, and what is printed for it is read as it.
func mustReturn(t *testing.T, s string) {
	t.Helper()
	l, f := tree.Parse([]rune(s))
	if f != (api.Fault{}) || !show.May(l) {
		t.Fatalf("Parse(%q): %s, %v, which may not be", s, told(l), f)
	}
	p, code := show.Print(l)
	if code == api.ErrFull && len([]rune(printed(l))) > 600 {
		return
	}
	again, f := tree.Parse(p)
	if code != api.OK || f != (api.Fault{}) || !same(again, l) {
		t.Fatalf("%q is printed as %q, %d, and read as %s, want %s", s, string(p), code, told(again), told(l))
	}
}

// everyText runs do on all texts of up to n of some pieces, behind a head.
func everyText(head string, pieces []string, n int, do func(s string)) {
	do(head)
	if n == 0 {
		return
	}
	for _, p := range pieces {
		everyText(head+p, pieces, n-1, do)
	}
}

// TestP153AllShortTexts is P15.3 for the trees of all short texts of some characters and pieces, behind some heads.
func TestP153AllShortTexts(t *testing.T) {
	cases := []struct {
		head, pieces string
		n            int
	}{
		{"", `$ { } 1 a : \`, 5},
		{"${1|", `a , | } \ $ |}`, 5},
		{"${x/", `/ \ } ( a ] /}`, 5},
		{"${1/a/", `/ \ } $ { 1 /i}`, 5},
		{"", `${1: ${x: } a $2 \`, 5},
		{strings.Repeat("${1:", 10), `${2: ${x: } a ${3}`, 5},
	}
	for _, c := range cases {
		everyText(c.head, strings.Fields(c.pieces), c.n, func(s string) { mustReturn(t, s) })
	}
}

// TestP153AnyText is P15.3 for the trees of texts of what snippets consist of, and of whole constructs.
func TestP153AnyText(t *testing.T) {
	rnd := rand.New(rand.NewSource(153))
	pieces := []string{"$", "{", "}", ":", "|", ",", "/", "\\", "}", "}", "|}", "/}", "1", "0", "007", "999", "1000", "a", "_", "TM_LINE", strings.Repeat("n", 32), "é", " ", "\n", "g", "i", "(", ")", "*", "[", "]", "\\/", "\\$", "\\}", "\\\\", "\\,", "\\|", "$1", "$x", "${1}", "${x}", "${1:", "${x:", "${2:", "${1|", "${1|a,b|}", "${1/", "${x/", "${1/a", "${1/(a)/$1/gi}", "${x/[/]*/${1:/upcase}/}", "/b/}", "${1:+", "${2:?a:b}", "文字", "\U0001f600", "\x00"}
	for i := range 15000 {
		most := 16
		if i%20 == 0 {
			most = 300
		}
		var s []rune
		for range rnd.Intn(most + 1) {
			s = append(s, []rune(pieces[rnd.Intn(len(pieces))])...)
		}
		mustReturn(t, string(s[:min(len(s), 600)]))
	}
}
