package expand_test

import (
	"fmt"
	"math/rand"
	"slices"
	"strings"
	"testing"

	"standish/api"
	"standish/expand"
	"standish/show"
	"standish/transform"
	"standish/tree"
	"standish/vars"
)

// model works out what P17.1 and P17.2 say of a tree by their words, and almost everything anew wherever it is asked for.
type model struct {
	l      []api.Node
	indent string
	used   int
	live   []bool
	value  []string // of the live variables
	known  []bool
	homes  map[int]int
}

func newModel(l []api.Node, e api.Env, indent string, used int) *model {
	m := &model{l: l, indent: indent, used: used, live: make([]bool, len(l)), value: make([]string, len(l)), known: make([]bool, len(l)), homes: map[int]int{}}
	for i, n := range l {
		m.live[i] = true
		for j := range i {
			if m.inside(i, j) && (m.value[j] != "" && l[j].Kind == api.NodeElse || m.repeated(j)) {
				m.live[i] = false
			}
		}
		if m.live[i] && is(n, api.NodeVar, api.NodeElse, api.NodeVarOf) {
			value, known, then := vars.Value(e, n.Text, m.used)
			m.value[i], m.known[i], m.used = string(value), known, then
		}
	}
	for _, kinds := range [][]int{{api.NodeForm}, {api.NodeTab}, {api.NodePlace, api.NodeChoice}} {
		for i, n := range slices.Backward(l) {
			if m.live[i] && is(n, kinds...) {
				m.homes[n.Num] = i
			}
		}
	}
	return m
}

func is(n api.Node, kinds ...int) bool {
	return slices.Contains(kinds, n.Kind)
}

// inside reports whether node i is inside node j, at any depth.
func (m *model) inside(i, j int) bool {
	for k := j + 1; k <= i; k++ {
		if m.l[k].Deep <= m.l[j].Deep {
			return false
		}
	}
	return i > j
}

func (m *model) repeated(j int) bool {
	for k, n := range m.l[:j] {
		if m.l[j].Kind == api.NodePlace && m.live[k] && n.Num == m.l[j].Num && is(n, api.NodePlace, api.NodeChoice) {
			return true
		}
	}
	return false
}

func (m *model) numbered(i int) bool {
	return m.live[i] && is(m.l[i], api.NodeTab, api.NodePlace, api.NodeChoice, api.NodeForm)
}

func (m *model) home(i int) bool {
	return m.numbered(i) && m.homes[m.l[i].Num] == i
}

func (m *model) mirror(i int) bool {
	return m.numbered(i) && m.homes[m.l[i].Num] != i
}

func (m *model) leftOut(i int) bool {
	nested, holds := false, false
	for j, n := range m.l {
		nested = nested || m.home(j) && n.Kind == api.NodePlace && m.inside(i, j)
		holds = holds || m.mirror(i) && m.mirror(j) && m.inside(j, m.homes[m.l[i].Num])
	}
	return m.mirror(i) && nested && holds
}

// content lists the nodes that node i contains directly, or those with Deep 0 for -1.
func (m *model) content(i int) []int {
	var out []int
	for j, n := range m.l {
		if i == -1 && n.Deep == 0 || i >= 0 && m.inside(j, i) && n.Deep == m.l[i].Deep+1 {
			out = append(out, j)
		}
	}
	return out
}

func (m *model) texts(nodes []int) string {
	var out strings.Builder
	for _, i := range nodes {
		out.WriteString(m.text(i))
	}
	return out.String()
}

func (m *model) text(i int) string {
	n := m.l[i]
	switch {
	case !m.live[i] || m.leftOut(i):
		return ""
	case m.mirror(i):
		text := m.text(m.homes[n.Num])
		if n.Kind == api.NodeForm {
			return run(text, n)
		}
		return text
	case n.Kind == api.NodeText:
		return strings.ReplaceAll(string(n.Text), "\n", "\n"+m.indent)
	case n.Kind == api.NodeVar && !m.known[i]:
		return string(n.Text)
	case n.Kind == api.NodeVarOf:
		return run(m.value[i], n)
	case n.Kind == api.NodeChoice:
		return string(n.Items[0])
	case n.Kind == api.NodePlace, n.Kind == api.NodeElse && m.value[i] == "":
		return m.texts(m.content(i))
	}
	return m.value[i]
}

// run is the transformation of a text by n, or nothing if it has a fault.
func run(text string, n api.Node) string {
	out, f := transform.Run([]rune(text), n.Pattern, n.Forms, n.All, n.Fold)
	if f.Code != api.OK {
		return ""
	}
	return string(out)
}

// from is where the text of node i begins: behind those that stand before it in what contains it directly.
func (m *model) from(i int) int {
	for j := i - 1; j >= 0; j-- {
		if m.inside(i, j) {
			return m.from(j) + m.lengthBefore(m.content(j), i)
		}
	}
	return m.lengthBefore(m.content(-1), i)
}

func (m *model) lengthBefore(nodes []int, i int) int {
	return len([]rune(m.texts(nodes[:slices.Index(nodes, i)])))
}

// shape is the result, also if it is too long.
func (m *model) shape() api.Shape {
	out := api.Shape{Text: []rune(m.texts(m.content(-1))), Used: m.used}
	var nodes []int
	for i := range m.l {
		if m.numbered(i) && !m.leftOut(i) {
			nodes = append(nodes, i)
		}
	}
	for at, i := range nodes {
		n, home := m.l[i], m.homes[m.l[i].Num]
		f := api.Field{Kind: api.FieldMirror, Num: n.Num, From: m.from(i), Parent: -1, Of: slices.Index(nodes, home)}
		f.To = f.From + len([]rune(m.text(i)))
		for other, j := range nodes[:at] {
			if m.home(j) && m.inside(i, j) {
				f.Parent = other
			}
		}
		switch {
		case home == i && n.Kind == api.NodeChoice:
			f.Kind, f.Items = api.FieldChoice, n.Items
		case home == i:
			f.Kind = api.FieldPlain
		case n.Kind == api.NodeForm:
			f.Kind, f.Pattern, f.Forms, f.All, f.Fold = api.FieldForm, n.Pattern, n.Forms, n.All, n.Fold
		}
		out.Fields = append(out.Fields, f)
	}
	if _, ok := m.homes[0]; !ok {
		out.Fields = append(out.Fields, api.Field{From: len(out.Text), To: len(out.Text), Parent: -1, Of: len(out.Fields)})
	}
	return out
}

// holdToModel holds Expand of a tree to the model, and its result to P17.4. It returns that result.
func holdToModel(t *testing.T, l []api.Node, e api.Env, indent string, used int) (api.Shape, api.Errno) {
	t.Helper()
	got, code := expand.Expand(l, e, []rune(indent), used)
	want := newModel(l, e, indent, used).shape()
	if len(want.Text) > 1000 || len(want.Fields) > 64 {
		if code != api.ErrFull || told(got) != told(api.Shape{}) {
			t.Fatalf("Expand(%s): %s, %d, want %d: %d elements, %d fields", written(l), told(got), code, api.ErrFull, len(want.Text), len(want.Fields))
		}
		return got, code
	}
	if code != api.OK || told(got) != told(want) {
		t.Fatalf("Expand(%s): %s, %d, want %s", written(l), told(got), code, told(want))
	}
	mustHold(t, written(l), got)
	return got, code
}

// mustHold is P17.4 for a result.
func mustHold(t *testing.T, what string, x api.Shape) {
	t.Helper()
	homes := map[int]int{}
	for i, f := range x.Fields {
		if f.From < 0 || f.From > f.To || f.To > len(x.Text) || f.Parent < -1 || f.Parent >= i || f.Of < 0 || f.Of >= len(x.Fields) {
			t.Fatalf("%s: field %d is out of bounds: %s", what, i, told(x))
		}
		if f.Parent != -1 && (f.From < x.Fields[f.Parent].From || f.To > x.Fields[f.Parent].To) {
			t.Fatalf("%s: field %d does not lie in its Parent: %s", what, i, told(x))
		}
		for j, g := range x.Fields[:i] {
			if !leads(x.Fields, i, j) && g.To > f.From {
				t.Fatalf("%s: fields %d and %d overlap: %s", what, j, i, told(x))
			}
		}
		home := x.Fields[f.Of]
		if home.Num != f.Num || home.Of != f.Of || (f.Of == i) != (f.Kind == api.FieldPlain || f.Kind == api.FieldChoice) {
			t.Fatalf("%s: field %d has no home: %s", what, i, told(x))
		}
		if f.Of == i {
			homes[f.Num]++
		} else if text := expand.Tell(f, x.Text[home.From:home.To]); string(text) != string(x.Text[f.From:f.To]) {
			t.Fatalf("%s: field %d is not told of its home: %q, %s", what, i, string(text), told(x))
		}
	}
	for num, n := range homes {
		if n != 1 {
			t.Fatalf("%s: %d homes of %d: %s", what, n, num, told(x))
		}
	}
	if homes[0] != 1 {
		t.Fatalf("%s: no home of 0: %s", what, told(x))
	}
}

// leads reports whether Parents lead from field i to field j.
func leads(l []api.Field, i, j int) bool {
	for i != -1 && i != j {
		i = l[i].Parent
	}
	return i == j
}

// everyTree runs do on all trees of up to n of some nodes, at any Deep up to a greatest one, behind a head.
func everyTree(head, nodes []api.Node, n, deepest int, do func(l []api.Node)) {
	do(head)
	if n == 0 {
		return
	}
	for _, node := range nodes {
		for deep := range deepest + 1 {
			node.Deep = deep
			if l := append(slices.Clip(head), node); show.May(l) {
				everyTree(l, nodes, n-1, deepest, do)
			}
		}
	}
}

// TestP171AllShortTrees holds all short trees of some nodes to the model.
func TestP171AllShortTrees(t *testing.T) {
	a, b := text("a"), text("b\n")
	cases := []struct {
		nodes      []api.Node
		n, deepest int
	}{
		{[]api.Node{a, tab(1), open(1), choice(1, "x"), form(1, "a", "c")}, 5, 2},
		{[]api.Node{a, tab(1), tab(2), open(1), open(2)}, 5, 2},
		{[]api.Node{open(1), tab(2), open(2), form(2, "b", "cc"), tab(3), open(3)}, 4, 3},
		{[]api.Node{b, open(1), tab(1), openElse("NONE"), openElse("CLIPBOARD"), openElse("TM_CURRENT_WORD")}, 4, 3},
		{[]api.Node{tab(0), open(0), tab(1), openElse("RANDOM_HEX"), variable("RANDOM_HEX"), varOf("RANDOM_HEX", "a", "")}, 4, 2},
		{[]api.Node{b, tab(0), choice(0, "", "y"), open(0), form(0, "^", "z"), choice(1, "yy", "y")}, 5, 1},
	}
	for _, c := range cases {
		count := 0
		everyTree(nil, c.nodes, c.n, c.deepest, func(l []api.Node) {
			count++
			holdToModel(t, l, ordinary(), "\t ", 1)
		})
		if count < 5000 {
			t.Errorf("only %d trees of %s", count, written(c.nodes))
		}
	}
}

// TestP171AllNested holds all short trees in a home, with a mirror of it before and behind, to the model.
func TestP171AllNested(t *testing.T) {
	nodes := []api.Node{tab(1), tab(2), open(2), tab(3), open(3), text("a")}
	everyTree(nil, nodes, 3, 2, func(inner []api.Node) {
		everyTree(nil, nodes[1:5], 1, 0, func(behind []api.Node) {
			l := []api.Node{form(1, "a", "cd"), open(1)}
			for _, n := range inner {
				n.Deep++
				l = append(l, n)
			}
			l = append(l, behind...)
			holdToModel(t, append(l, at(0, open(3)), at(1, text("q")), at(1, tab(2)), tab(1)), ordinary(), "", 0)
		})
	})
}

// anyTree returns a tree of some nodes with few numbers, so that many have the same.
func anyTree(rnd *rand.Rand, deep, most int) []api.Node {
	var l []api.Node
	for range rnd.Intn(most + 1) {
		n := at(deep, anyNode(rnd))
		holds := is(n, api.NodePlace, api.NodeElse)
		if holds && deep == api.MaxNest || !show.May(append(moved(l, -deep), at(0, n))) {
			continue
		}
		l = append(l, n)
		if holds {
			l = append(l, anyTree(rnd, deep+1, min(most-1, 4))...)
		}
	}
	return l
}

// moved is a copy of some nodes with another Deep.
func moved(l []api.Node, by int) []api.Node {
	l = slices.Clone(l)
	for i := range l {
		l[i].Deep += by
	}
	return l
}

func anyNode(rnd *rand.Rand) api.Node {
	names := []string{"TM_CURRENT_WORD", "TM_SELECTED_TEXT", "CLIPBOARD", "RANDOM", "RANDOM_HEX", "UUID", "NONE", "TM_LINE_NUMBER", "tm"}
	texts := []string{"a", "b\nc", "\n", "aa\n\nb", "é文", "\x00"}
	name, num, s := names[rnd.Intn(len(names))], rnd.Intn(5), texts[rnd.Intn(len(texts))]
	pattern := []string{"", "a", "[^a]", "(.)(.)?", "\\n", "A+", "^", "$", "x*"}[rnd.Intn(9)]
	format := []string{"", "b", "$0$0", "${1:/upcase}", "${1:+yes}${2:-no}", "${2:?a:\n}", "$0$0$0$0$0$0$0$0$0$0"}[rnd.Intn(7)]
	all, fold := rnd.Intn(2) == 0, rnd.Intn(2) == 0
	switch rnd.Intn(12) {
	case 0, 1:
		return text(s)
	case 2, 3:
		return tab(num)
	case 4, 5, 6:
		return open(num)
	case 7:
		return choice(num, texts[rnd.Intn(len(texts))], "", s)
	case 8:
		return flagged(form(num, pattern, format), all, fold)
	case 9:
		return variable(name)
	case 10:
		return openElse(name)
	}
	return flagged(varOf(name, pattern, format), all, fold)
}

// TestP171AnyTree holds all sorts of trees to the model, in environments with any draws, with any indent and used.
func TestP171AnyTree(t *testing.T) {
	rnd := rand.New(rand.NewSource(17))
	codes, fields := map[api.Errno]int{}, map[int]int{}
	for i := range 6000 {
		most := 5
		if i%40 == 0 {
			most = 100
		}
		l := anyTree(rnd, 0, most)
		if i%50 == 0 {
			for deep := range 10 {
				l = append(l, at(deep, []api.Node{open(deep), openElse("NONE"), openElse("CLIPBOARD"), open(0)}[rnd.Intn(4)]))
			}
			l = append(l, anyTree(rnd, 10, 6)...)
		}
		if !show.May(l) {
			t.Fatalf("no tree: %s", written(l))
		}
		e := ordinary()
		e.Draws = e.Draws[:rnd.Intn(len(e.Draws)+1)]
		used := []int{0, 1, 2, 997, 1000}[rnd.Intn(5)]
		x, code := holdToModel(t, l, e, []string{"", " ", "\t", " \t ", strings.Repeat(" ", 40)}[rnd.Intn(5)], used)
		codes[code]++
		for _, f := range x.Fields {
			fields[f.Kind]++
		}
	}
	if codes[api.OK] < 5000 || codes[api.ErrFull] < 10 || slices.Min([]int{fields[0], fields[1], fields[2], fields[3]}) < 800 {
		t.Errorf("codes: %v, kinds of fields: %v", codes, fields)
	}
}

// TestP174AnyText is P17.4 and the model for the trees of texts of what snippets consist of.
func TestP174AnyText(t *testing.T) {
	rnd := rand.New(rand.NewSource(174))
	pieces := strings.Split("$1 $2 $0 ${1: ${2: ${3: ${0: ${1:a} ${2|a,bc|} ${1/a/b/} ${2/(.)/$1$1/g} ${3/A//i} } } } a b \n \\$ $NONE $CLIPBOARD $UUID $RANDOM ${NONE: ${CLIPBOARD: ${TM_CURRENT_WORD: ${TM_CURRENT_WORD/w/v/}", " ")
	codes := map[api.Errno]int{}
	for i := range 6000 {
		most := 14
		if i%20 == 0 {
			most = 90
		}
		var s []rune
		for range rnd.Intn(most + 1) {
			s = append(s, []rune(pieces[rnd.Intn(len(pieces))])...)
		}
		l, f := tree.Parse(s[:min(len(s), api.MaxSnip)])
		if f.Code != api.OK {
			t.Fatalf("Parse(%q): %v", string(s), f)
		}
		_, code := holdToModel(t, l, ordinary(), " ", 0)
		codes[code]++
	}
	if codes[api.OK] < 5000 {
		t.Errorf("codes: %v", codes)
	}
}

// written writes a tree, for the messages.
func written(l []api.Node) string {
	s, code := show.Print(l)
	if code != api.OK {
		return fmt.Sprintf("%d nodes", len(l))
	}
	return fmt.Sprintf("%q", string(s))
}
