package reprog_test

import (
	"fmt"
	"math/rand"
	"strconv"
	"strings"
	"testing"

	"standish/api"
	"standish/reprog"
	"standish/resyn"
)

// A block is a list of instructions whose targets are counted from the instruction itself on, so that blocks are put one behind the other as they are.
type block []api.Inst

func joined(blocks ...block) block {
	var all block
	for _, b := range blocks {
		all = append(all, b...)
	}
	return all
}

// choice is a block that is gone through, or past which more instructions are skipped.
func choice(b block, lazy bool, skipped int) block {
	x, y := 1, len(b)+1+skipped
	if lazy {
		x, y = y, x
	}
	return joined(block{split(x, y)}, b)
}

// either is the last block or one of those before it.
func either(blocks []block) block {
	last := len(blocks) - 1
	all := blocks[last]
	for i := last - 1; i >= 0; i-- {
		all = joined(choice(blocks[i], false, 1), block{jump(len(all) + 1)}, all)
	}
	return all
}

func repeated(b block, low, high int, lazy bool) block {
	var all block
	if high < 0 {
		again := choice(b, lazy, 1)
		all = joined(again, block{jump(-len(again))})
	}
	for n := 0; n < high-low; n++ { // from behind, as each choice skips all that follow it
		all = joined(choice(b, lazy, len(all)), all)
	}
	for range low {
		all = joined(b, all)
	}
	return all
}

func grouped(b block, number int) block {
	if number == 0 {
		return b
	}
	return joined(block{save(2 * number)}, b, block{save(2*number + 1)})
}

// program is a whole program with the block in it.
func (b block) program() []api.Inst {
	var all []api.Inst
	for i, inst := range joined(block{save(0)}, b, block{save(1), {Op: api.InMatch}}) {
		switch inst.Op {
		case api.InSplit:
			inst.Y += i
			inst.X += i
		case api.InJump:
			inst.X += i
		}
		all = append(all, inst)
	}
	return all
}

// A walker goes through the nodes of a tree.
type walker struct {
	tree []api.Re
	at   int
}

// contents makes a value of each tree that the node of this depth contains.
func contents[T any](w *walker, deep int, make func() T) []T {
	var all []T
	for w.at < len(w.tree) && w.tree[w.at].Deep > deep {
		all = append(all, make())
	}
	return all
}

// block is the block of the tree at which the walker stands.
func (w *walker) block() block {
	node := w.tree[w.at]
	w.at++
	inner := contents(w, node.Deep, w.block)
	switch node.Kind {
	case api.ReSet:
		return block{{Op: api.InSet, Not: node.Not, Set: node.Set}}
	case api.ReStart:
		return block{{Op: api.InStart}}
	case api.ReEnd:
		return block{{Op: api.InEnd}}
	case api.ReAlt:
		return either(inner)
	case api.ReGroup:
		return grouped(inner[0], node.Lo)
	case api.ReRep:
		return repeated(inner[0], node.Lo, node.Hi, node.Lazy)
	}
	return joined(inner...)
}

// count is the number of instructions of the tree at which the walker stands.
func (w *walker) count() int {
	node := w.tree[w.at]
	w.at++
	n := 0
	for _, inner := range contents(w, node.Deep, w.count) {
		n += inner
		if node.Kind == api.ReAlt {
			n += 2
		}
	}
	switch {
	case node.Kind == api.ReSet || node.Kind == api.ReStart || node.Kind == api.ReEnd:
		return 1
	case node.Kind == api.ReAlt:
		return n - 2
	case node.Kind == api.ReGroup && node.Lo > 0:
		return n + 2
	case node.Kind == api.ReRep && node.Hi < 0:
		return node.Lo*n + n + 2
	case node.Kind == api.ReRep:
		return node.Lo*n + (node.Hi-node.Lo)*(n+1)
	}
	return n
}

// mustBeModel is that a text has the program that follows from its tree, or else the right fault.
func mustBeModel(t *testing.T, text []rune) {
	t.Helper()
	tree, fault := resyn.Parse(text)
	var want []api.Inst
	if fault.Code == api.OK {
		if n := (&walker{tree: tree}).count() + 3; n > 300 {
			fault = api.Fault{Code: api.ErrFull, At: len(text)}
		} else if want = (&walker{tree: tree}).block().program(); len(want) != n {
			t.Fatalf("the model of %q has %d instructions, not %d", string(text), len(want), n)
		}
	}
	got, f := reprog.Compile(text)
	if f != fault || !same(got, want) {
		t.Errorf("Compile(%q): %v, %v, want %v, %v", string(text), got, f, want, fault)
	}
	mustStayInside(t, string(text), got)
}

// everyText is called for every text of at most n elements behind a head.
func everyText(head, alphabet string, n int, do func(text []rune)) {
	do([]rune(head))
	if n == 0 {
		return
	}
	for _, c := range alphabet {
		everyText(head+string(c), alphabet, n-1, do)
	}
}

// TestP91AllShortTexts holds every short text of some alphabets to the model.
func TestP91AllShortTexts(t *testing.T) {
	cases := []struct {
		head, alphabet string
		n              int
	}{
		{"", "a()?|*", 6},
		{"", "a()|+{2}", 5},
		{"", "a.^$|?", 5},
		{"a{", "0123,}?", 5},
		{"(?:a|b{2}){", "0123,}?", 5},
		{"(?:(?:(?:a|(b)){9}){", "2345})+", 4},
		{"(?:(?:a?){9}){9}(", "?:a+*){9}", 4},
	}
	for _, c := range cases {
		everyText(c.head, c.alphabet, c.n, func(text []rune) { mustBeModel(t, text) })
	}
}

// TestP91EveryRepeat puts every repeat behind every kind of atom, and two of them around one another.
func TestP91EveryRepeat(t *testing.T) {
	repeats := []string{"", "*", "+", "?", "*?", "+?", "??"}
	for low := range 10 {
		for _, lazy := range []string{"", "?"} {
			repeats = append(repeats, fmt.Sprintf("{%d}%s", low, lazy), fmt.Sprintf("{%d,}%s", low, lazy))
			for high := low; high < 10; high++ {
				repeats = append(repeats, fmt.Sprintf("{%d,%d}%s", low, high, lazy))
			}
		}
	}
	for _, inner := range repeats {
		for _, atom := range []string{".", "()", "(?:)", "(?:ab|c)", "(|a)", "(?:a(b)|)"} {
			mustBeModel(t, []rune("x"+atom+inner+"y"))
		}
		for _, outer := range repeats {
			mustBeModel(t, []rune("(?:a"+inner+")"+outer+"|b"))
			mustBeModel(t, []rune("(b"+inner+"|)"+outer))
		}
	}
}

// A maker makes patterns, each with the block that it must have.
type maker struct {
	*rand.Rand
	groups int
}

func (m *maker) pattern(nest int) (string, block) {
	var texts []string
	var blocks []block
	for range 1 + max(0, m.Intn(6)-3) {
		text, b := m.row(nest)
		texts, blocks = append(texts, text), append(blocks, b)
	}
	return strings.Join(texts, "|"), either(blocks)
}

func (m *maker) row(nest int) (string, block) {
	whole := ""
	var all block
	for range m.Intn(4) {
		text, b := m.item(nest)
		whole, all = whole+text, joined(all, b)
	}
	return whole, all
}

func (m *maker) item(nest int) (string, block) {
	low, high := m.Intn(4), m.Intn(10)
	low, high = min(low, high), max(low, high)
	repeat := fmt.Sprintf("{%d,%d}", low, high)
	switch m.Intn(12) {
	case 0:
		return "^", block{{Op: api.InStart}}
	case 1:
		return "$", block{{Op: api.InEnd}}
	case 2:
		high, repeat = low, "{"+strconv.Itoa(low)+"}"
	case 3:
		high, repeat = -1, "{"+strconv.Itoa(low)+",}"
	case 4:
		low, high, repeat = 0, -1, "*"
	case 5:
		low, high, repeat = 1, -1, "+"
	case 6:
		low, high, repeat = 0, 1, "?"
	case 7:
	default:
		return m.atom(nest)
	}
	lazy := m.Intn(2) == 0
	if lazy {
		repeat += "?"
	}
	text, b := m.atom(nest)
	return text + repeat, repeated(b[:min(len(b), 400)], low, high, lazy) // more than 300 are too many, however many they are
}

func (m *maker) atom(nest int) (string, block) {
	switch kind := m.Intn(5); {
	case kind == 0 && nest < 12 && m.groups < 9:
		m.groups++
		number := m.groups
		text, b := m.pattern(nest + 1)
		return "(" + text + ")", grouped(b, number)
	case kind == 1 && nest < 12:
		text, b := m.pattern(nest + 1)
		return "(?:" + text + ")", b
	}
	plain := []struct {
		text string
		inst api.Inst
	}{{"a", set("aa")}, {"-", set("--")}, {".", not("\n\n")}, {"\\d", set("09")}, {"\\W", not("azAZ09__")}, {"[^b-dx]", not("bdxx")}, {"[é\\s]", set("éé  \t\t\n\n")}}
	pick := plain[m.Intn(len(plain))]
	return pick.text, block{pick.inst}
}

// TestP91AnyPattern holds patterns that are made together with their programs to these.
func TestP91AnyPattern(t *testing.T) {
	rnd := rand.New(rand.NewSource(9))
	kept, full := 0, 0
	for range 40000 {
		text, b := (&maker{Rand: rnd}).pattern(0)
		elements := len([]rune(text))
		switch {
		case elements > api.MaxPattern:
		case len(b) > 297:
			full++
			mustFail(t, text, api.ErrFull, elements)
		default:
			kept++
			program := b.program()
			mustCompile(t, text, program[1:len(program)-2]...)
		}
	}
	if kept < 20000 || full < 40 {
		t.Errorf("only %d programs, and %d that are too long", kept, full)
	}
}
