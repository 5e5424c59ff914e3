package tree_test

import (
	"math/rand"
	"regexp"
	"slices"
	"strconv"
	"strings"
	"testing"

	"standish/api"
	"standish/format"
	"standish/rematch"
	"standish/tree"
)

// The model reads constructs by the library's expressions.
var (
	modelBare    = regexp.MustCompile(`^\$(?:([0-9]+)|([a-zA-Z_][a-zA-Z0-9_]*))`)
	modelBraced  = regexp.MustCompile(`^\$\{(?:([0-9]+)|([a-zA-Z_][a-zA-Z0-9_]*))([}:|/])`)
	modelItems   = regexp.MustCompile(`(?s)^((?:[^,|\\]|\\.)*(?:,(?:[^,|\\]|\\.)*)*)\|\}`)
	modelPattern = regexp.MustCompile(`(?s)^((?:[^/\\]|\\.)*)/`)
	modelPair    = regexp.MustCompile(`(?s)\\.`)
	modelFlags   = regexp.MustCompile(`^/(|g|i|gi|ig)\}`)
	modelEscape  = regexp.MustCompile(`^\\[$}\\]`)
	modelSlashes = regexp.MustCompile(`(?s)\\.|/`)
)

// The model hides the escaped characters of the items while it splits them, and prints texts and items.
var (
	modelHide    = strings.NewReplacer(`\,`, "\ue000", `\|`, "\ue001", `\\`, "\ue002")
	modelUncover = strings.NewReplacer("\ue000", ",", "\ue001", "|", "\ue002", `\`)
	printText    = strings.NewReplacer("$", `\$`, "}", `\}`, `\`, `\\`)
	printItem    = strings.NewReplacer(",", `\,`, "|", `\|`, `\`, `\\`)
)

// An event is what stands at a place of a snippet: a text or a node, or what opens or closes a placeholder. What opens one has its text, too.
type event struct {
	what   int
	node   api.Node
	text   string
	closed bool // of what opens a placeholder: something closes it
}

const (
	isText = iota
	isNode
	isOpen
	isClose
)

// modelTree is what P14.1 to P14.3 say of a text of characters, in three steps: what stands there, what closes what, and the nodes of that.
func modelTree(s string) []api.Node {
	events := modelEvents(s)
	var open []int
	for i, e := range events {
		switch e.what {
		case isOpen:
			open = append(open, i)
		case isClose:
			events[open[len(open)-1]].closed = true
			open = open[:len(open)-1]
		}
	}
	for i, e := range events {
		if e.what == isOpen && !e.closed {
			events[i] = event{text: e.text}
		}
	}
	return modelNodes(events)
}

// modelEvents tells what stands in s, from left to right.
func modelEvents(s string) []event {
	var l []event
	open := 0
	for s != "" {
		e, n := modelEvent(s, open)
		switch e.what {
		case isOpen:
			open++
		case isClose:
			open--
		}
		l = append(l, e)
		s = s[n:]
	}
	return l
}

// modelEvent tells what stands at the beginning of s, and its bytes.
func modelEvent(s string, open int) (event, int) {
	if modelEscape.MatchString(s) {
		return event{text: s[1:2]}, 2
	}
	if s[0] == '}' && open > 0 {
		return event{what: isClose}, 1
	}
	if node, n := modelConstruct(s); n > 0 {
		if node.Kind != api.NodePlace && node.Kind != api.NodeElse {
			return event{what: isNode, node: node}, n
		}
		if open < 12 {
			return event{what: isOpen, node: node, text: s[:n]}, n
		}
	}
	first := string([]rune(s)[:1])
	return event{text: first}, len(first)
}

// modelConstruct tells which construct stands at the beginning of s, and its bytes, or none.
func modelConstruct(s string) (api.Node, int) {
	found, closer := modelBare.FindStringSubmatch(s), ""
	if found == nil {
		if found = modelBraced.FindStringSubmatch(s); found == nil {
			return api.Node{}, 0
		}
		closer = found[3]
	}
	digits, name, n := found[1], found[2], len(found[0])
	node := api.Node{Text: []rune(name)}
	kinds := map[string]int{"": api.NodeVar, "}": api.NodeVar, ":": api.NodeElse, "/": api.NodeVarOf, "|": -1}
	if digits != "" {
		value, err := strconv.Atoi(digits)
		if err != nil || value > 999 {
			return api.Node{}, 0
		}
		node.Num = value
		kinds = map[string]int{"": api.NodeTab, "}": api.NodeTab, ":": api.NodePlace, "/": api.NodeForm, "|": api.NodeChoice}
	}
	node.Kind = kinds[closer]
	switch {
	case len(name) > 32 || node.Kind < 0:
		return api.Node{}, 0
	case closer == "|":
		return modelChoice(node, s, n)
	case closer == "/":
		return modelForm(node, s, n)
	}
	return node, n
}

// modelChoice fills in the items, which begin at byte n of s.
func modelChoice(node api.Node, s string, n int) (api.Node, int) {
	found := modelItems.FindStringSubmatch(s[n:])
	if found == nil {
		return api.Node{}, 0
	}
	items := strings.Split(modelHide.Replace(found[1]), ",")
	if len(items) > 20 {
		return api.Node{}, 0
	}
	for _, item := range items {
		node.Items = append(node.Items, []rune(modelUncover.Replace(item)))
	}
	return node, n + len(found[0])
}

// modelForm fills in the pattern, which begins at byte n of s, and what follows it.
func modelForm(node api.Node, s string, n int) (api.Node, int) {
	found := modelPattern.FindStringSubmatch(s[n:])
	if found == nil {
		return api.Node{}, 0
	}
	n += len(found[0])
	node.Pattern = []rune(modelPair.ReplaceAllStringFunc(found[1], func(pair string) string {
		if pair == `\/` {
			return "/"
		}
		return pair
	}))
	if _, f := rematch.New(node.Pattern, true); f.Code != api.OK {
		return api.Node{}, 0
	}
	forms, slash, ok := format.Scan([]rune(s[n:]), 0)
	if !ok {
		return api.Node{}, 0
	}
	node.Forms = forms
	n += len(string([]rune(s[n:])[:slash]))
	flags := modelFlags.FindStringSubmatch(s[n:])
	if flags == nil {
		return api.Node{}, 0
	}
	node.All, node.Fold = strings.Contains(flags[1], "g"), strings.Contains(flags[1], "i")
	return node, n + len(flags[0])
}

// modelNodes makes nodes of events, of which everything that opens something is closed.
func modelNodes(events []event) []api.Node {
	var l []api.Node
	deep := 0
	for i, e := range events {
		e.node.Deep = deep
		switch e.what {
		case isText:
			if i == 0 || events[i-1].what != isText {
				l = append(l, e.node)
			}
			last := &l[len(l)-1]
			last.Text = append(last.Text, []rune(e.text)...)
		case isNode:
			l = append(l, e.node)
		case isOpen:
			l = append(l, e.node)
			deep++
		case isClose:
			deep--
		}
	}
	return l
}

// same reports whether two trees are equal.
func same(a, b []api.Node) bool {
	form := func(x, y api.Form) bool {
		return x.Kind == y.Kind && x.Group == y.Group && x.Case == y.Case && slices.Equal(x.Text, y.Text) && slices.Equal(x.Else, y.Else)
	}
	return slices.EqualFunc(a, b, func(x, y api.Node) bool {
		return x.Kind == y.Kind && x.Deep == y.Deep && x.Num == y.Num && x.All == y.All && x.Fold == y.Fold && slices.Equal(x.Text, y.Text) &&
			slices.EqualFunc(x.Items, y.Items, slices.Equal[[]rune]) && slices.Equal(x.Pattern, y.Pattern) && slices.EqualFunc(x.Forms, y.Forms, form)
	})
}

// printed is what P15.2 says of a tree, without its limit: what show prints.
func printed(l []api.Node) string {
	var out strings.Builder
	open := 0
	for _, n := range l {
		out.WriteString(strings.Repeat("}", open-n.Deep))
		open = n.Deep
		number := strconv.Itoa(n.Num)
		forms, _ := format.Print(n.Forms)
		flags := map[bool]string{true: "g"}[n.All] + map[bool]string{true: "i"}[n.Fold]
		behind := "/" + modelSlashes.ReplaceAllStringFunc(string(n.Pattern), slashEscaped) + "/" + string(forms) + "/" + flags + "}"
		switch n.Kind {
		case api.NodeText:
			out.WriteString(printText.Replace(string(n.Text)))
		case api.NodeTab:
			out.WriteString("${" + number + "}")
		case api.NodePlace:
			out.WriteString("${" + number + ":")
			open++
		case api.NodeChoice:
			var items []string
			for _, item := range n.Items {
				items = append(items, printItem.Replace(string(item)))
			}
			out.WriteString("${" + number + "|" + strings.Join(items, ",") + "|}")
		case api.NodeForm:
			out.WriteString("${" + number + behind)
		case api.NodeVar:
			out.WriteString("${" + string(n.Text) + "}")
		case api.NodeElse:
			out.WriteString("${" + string(n.Text) + ":")
			open++
		case api.NodeVarOf:
			out.WriteString("${" + string(n.Text) + behind)
		}
	}
	return out.String() + strings.Repeat("}", open)
}

// slashEscaped puts a backslash before a / that is not read with one.
func slashEscaped(s string) string {
	if s == "/" {
		return `\/`
	}
	return s
}

// holdToModel holds the tree of s to the model, and the tree of what is printed for it to P14.4.
func holdToModel(t *testing.T, s string) {
	t.Helper()
	want := modelTree(s)
	got, f := tree.Parse([]rune(s))
	if f != (api.Fault{}) || !same(got, want) {
		t.Fatalf("Parse(%q): %s, %v, want %s", s, told(got), f, told(want))
	}
	mustReturn(t, got)
}

// mustReturn is P14.4: the tree of what is printed for a tree is that tree.
func mustReturn(t *testing.T, l []api.Node) {
	t.Helper()
	p := []rune(printed(l))
	if len(p) > 600 {
		return
	}
	if again, f := tree.Parse(p); f != (api.Fault{}) || !same(again, l) {
		t.Fatalf("Parse(%q): %s, %v, want %s", string(p), told(again), f, told(l))
	}
}

// everyText runs do on all texts of up to n of some pieces, behind a head.
func everyText(head string, pieces []string, n int, do func(s string)) {
	do(head)
	if n == 0 {
		return
	}
	for _, p := range pieces {
		everyText(head+p, pieces, n-1, do)
	}
}

// TestP141AllShortTexts holds every short text of some characters and pieces, behind some heads, to the model.
func TestP141AllShortTexts(t *testing.T) {
	cases := []struct {
		head   string
		pieces string
		n      int
	}{
		{"", `$ { } 1 a : \`, 6},
		{"", `$ { } | , / \ 0 _ é`, 4},
		{"$", `{ } 0 9 a _ -`, 5},
		{"${", `1 a } : | / \ $`, 5},
		{"${1|", `a , | } \ $`, 6},
		{"a${01|é", `|} , \ ,| | b`, 5},
		{"${x|", `a , |} $1`, 4},
		{"${1/", `/ \ } a g $`, 6},
		{"${x/", `/ \ } ( ) * [`, 5},
		{"${1/a/", `/ \ } $ { 1 i`, 5},
		{"${x/a/${1", `: / } + upcase - $2`, 5},
		{"${1/a/b/", `g i } / a \`, 5},
		{"", `${1: ${x: } a $2`, 6},
		{"${1:", `${2/a/b/ ${2|a, |} } ${y`, 6},
		{strings.Repeat("${1:", 10), `${2: ${x: } a ${3}`, 6},
		{strings.Repeat("${_:", 12), `${2: ${x:a } $1 ${4/a/b/} ${5|a|}`, 5},
	}
	for _, c := range cases {
		everyText(c.head, strings.Fields(c.pieces), c.n, func(s string) { holdToModel(t, s) })
	}
}

// anyText returns a text of at most most of some pieces, but of no more than MaxSnip elements.
func anyText(rnd *rand.Rand, most int) string {
	pieces := []string{"$", "{", "}", ":", "|", ",", "/", "\\", "}", "}", "|}", "/}", "1", "0", "007", "999", "1000", "a", "_", "TM_LINE", strings.Repeat("n", 32), "é", " ", "\n", "g", "i", "(", ")", "*", "[", "]", "\\/", "\\$", "\\}", "\\\\", "\\,", "\\|", "$1", "$x", "${1}", "${x}", "${1:", "${x:", "${2:", "${1|", "${1|a,b|}", "${1/", "${x/", "${1/a", "${1/(a)/$1/gi}", "${x/[/]*/${1:/upcase}/}", "/b/", "${1:+", "${2:?a:b}", "文字", "\U0001f600", "\x00"}
	var s []rune
	for range rnd.Intn(most + 1) {
		s = append(s, []rune(pieces[rnd.Intn(len(pieces))])...)
	}
	return string(s[:min(len(s), api.MaxSnip)])
}

// TestP141AnyText holds texts of what snippets consist of, and of whole constructs, to the model.
func TestP141AnyText(t *testing.T) {
	rnd := rand.New(rand.NewSource(14))
	for i := range 15000 {
		most := 16
		if i%20 == 0 {
			most = 300
		}
		holdToModel(t, anyText(rnd, most))
	}
}

// TestP142AnyNest holds texts of many placeholders, some of which nothing closes, to the model.
func TestP142AnyNest(t *testing.T) {
	rnd := rand.New(rand.NewSource(142))
	pieces := []string{"${1:", "${x:", "${2:a", "${y:$1", "}", "}", "}}", "a", "$3", "${4|a,b|}", "${5/a/b/}", "\\}", "{"}
	for range 8000 {
		s := ""
		for range rnd.Intn(60) {
			s += pieces[rnd.Intn(len(pieces))]
		}
		holdToModel(t, s)
	}
}

// anyTree returns a tree of some nodes, as P15.1 allows them.
func anyTree(rnd *rand.Rand, deep int) []api.Node {
	var l []api.Node
	var beside api.Node // the last node of this Deep; a tab stop before the first one
	beside.Kind = api.NodeTab
	for range rnd.Intn(4) {
		n := anyNode(rnd, deep)
		if n.Kind == api.NodeText && beside.Kind == api.NodeText {
			continue
		}
		l = append(l, n)
		beside = n
		if n.Kind == api.NodePlace || n.Kind == api.NodeElse {
			l = append(l, anyTree(rnd, deep+1)...)
		}
	}
	return l
}

// anyNode returns a node as Parse could find it.
func anyNode(rnd *rand.Rand, deep int) api.Node {
	some := func(least, most int) []rune {
		alphabet := []rune("\\\\$${}}:||,,//1aé\n")
		s := make([]rune, least+rnd.Intn(most-least+1))
		for i := range s {
			s[i] = alphabet[rnd.Intn(len(alphabet))]
		}
		return s
	}
	patterns := []string{"", "a", "/", "\\\\/", "(a|/)\\.", "[/}$]*", "\\$\\}", strings.Repeat("/", 60)}
	names := []string{"x", "_", "TM_LINE", "a1", strings.Repeat("n", 32)}
	n := api.Node{Kind: rnd.Intn(8), Deep: deep}
	if deep == 12 && (n.Kind == api.NodePlace || n.Kind == api.NodeElse) {
		n.Kind = api.NodeTab
	}
	switch n.Kind {
	case api.NodeText:
		n.Text = some(1, 5)
	case api.NodeTab, api.NodePlace, api.NodeChoice, api.NodeForm:
		n.Num = rnd.Intn(1000)
	default:
		n.Text = []rune(names[rnd.Intn(len(names))])
	}
	switch n.Kind {
	case api.NodeChoice:
		for range 1 + rnd.Intn(4) {
			n.Items = append(n.Items, some(0, 4))
		}
	case api.NodeForm, api.NodeVarOf:
		n.Pattern = []rune(patterns[rnd.Intn(len(patterns))])
		n.Forms = []api.Form{{Text: some(1, 4)}, {Kind: api.FormGroup, Group: rnd.Intn(100), Case: rnd.Intn(6)}, {Kind: api.FormBoth, Text: some(0, 3), Else: some(0, 3)}}[rnd.Intn(3):]
		n.All, n.Fold = rnd.Intn(2) == 0, rnd.Intn(2) == 0
	}
	return n
}

// TestP144AnyTree is P14.4 for trees that were not read from a text.
func TestP144AnyTree(t *testing.T) {
	rnd := rand.New(rand.NewSource(144))
	for range 30000 {
		mustReturn(t, anyTree(rnd, 0))
	}
	for range 300 {
		l := []api.Node{}
		for deep := range 12 {
			l = append(l, api.Node{Kind: api.NodePlace, Deep: deep, Num: deep})
		}
		mustReturn(t, append(l, anyTree(rnd, 12)...))
	}
}
