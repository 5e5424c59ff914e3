package resyn_test

import (
	"fmt"
	"math/rand"
	"slices"
	"strconv"
	"strings"
	"testing"

	"standish/api"
	"standish/resyn"
	"standish/signs"
)

// What a model has read last.
const (
	modelPlain  = iota // nothing that a repeat may follow
	modelAtom          // an atom
	modelRepeat        // a repeat that is not lazy
	modelOpen          // (
	modelAsk           // (?
	modelEscape        // a backslash
	modelBrace         // {
	modelLow           // { low
	modelComma         // { low ,
	modelHigh          // { low , high
	modelClass         // [
	modelNot           // [^
	modelMember        // a member of a class
	modelSlash         // a backslash in a class
)

// A model finds the fault of a pattern by what may follow what, element after element and without any recursion.
type model struct {
	state, open, groups int
	brace               int // where the repeat's { stands
	low                 rune
	one                 rune // the member that may begin a range, or 0
	oneAt               int
	dash                bool // a - follows it
}

// modelFault returns the fault of a text of characters.
func modelFault(text []rune) api.Fault {
	m := model{}
	for at, c := range text {
		plainGroup := at+1 == len(text) || text[at+1] != '?'
		if f := m.step(at, c, plainGroup); f.Code != api.OK {
			return f
		}
	}
	if m.open > 0 || m.state > modelRepeat {
		return api.Fault{Code: api.ErrSyntax, At: len(text)}
	}
	return api.Fault{}
}

func (m *model) step(at int, c rune, plainGroup bool) api.Fault {
	switch {
	case m.state <= modelOpen && c == '(' && m.open == 12:
		return api.Fault{Code: api.ErrDeep, At: at}
	case m.state <= modelOpen && c == '(' && plainGroup && m.groups == 9:
		return api.Fault{Code: api.ErrFull, At: at}
	case m.state == modelHigh && c == '}' && m.low > 0:
		return api.Fault{Code: api.ErrSyntax, At: m.brace}
	}
	if m.state >= modelClass {
		return m.inClass(at, c)
	}
	if !m.outside(at, c, plainGroup) {
		return api.Fault{Code: api.ErrSyntax, At: at}
	}
	return api.Fault{}
}

// goes is where an element leads to, if it may stand there.
func (m *model) goes(may bool, state int) bool {
	m.state = state
	return may
}

func (m *model) outside(at int, c rune, plainGroup bool) bool {
	digit := strings.ContainsRune("0123456789", c)
	switch m.state {
	case modelAsk:
		return m.goes(c == ':', modelPlain)
	case modelEscape:
		return m.goes(modelMeans(c) || strings.ContainsRune("DWS", c), modelAtom)
	case modelBrace:
		m.low = c
		return m.goes(digit, modelLow)
	case modelLow:
		if c == ',' {
			return m.goes(true, modelComma)
		}
		return m.goes(c == '}', modelRepeat)
	case modelComma:
		if c == '}' {
			return m.goes(true, modelRepeat)
		}
		m.low = max(0, m.low-c) // greater than 0 if low is greater than high
		return m.goes(digit, modelHigh)
	case modelHigh:
		return m.goes(c == '}', modelRepeat)
	}
	return m.plain(at, c, plainGroup)
}

// plain is an element where an item may begin.
func (m *model) plain(at int, c rune, plainGroup bool) bool {
	switch c {
	case '?':
		if m.state == modelOpen {
			return m.goes(true, modelAsk)
		}
		if m.state == modelRepeat {
			return m.goes(true, modelPlain)
		}
		return m.goes(m.state == modelAtom, modelRepeat)
	case '*', '+':
		return m.goes(m.state == modelAtom, modelRepeat)
	case '{':
		m.brace = at
		return m.goes(m.state == modelAtom, modelBrace)
	case '|', '^', '$':
		return m.goes(true, modelPlain)
	case '(':
		m.open++
		if plainGroup {
			m.groups++
		}
		return m.goes(true, modelOpen)
	case ')':
		m.open--
		return m.goes(m.open >= 0, modelAtom)
	case '[':
		m.one, m.dash = 0, false
		return m.goes(true, modelClass)
	case '\\':
		return m.goes(true, modelEscape)
	}
	return m.goes(true, modelAtom)
}

// modelMeans reports whether c may follow a backslash in a class.
func modelMeans(c rune) bool {
	return strings.ContainsRune("dwsnt", c) || signs.Class(c) == api.ClassOther || signs.Class(c) == api.ClassBlank
}

func (m *model) inClass(at int, c rune) api.Fault {
	switch {
	case m.state == modelClass && c == '^':
		m.state = modelNot
		return api.Fault{}
	case m.state == modelMember && c == ']':
		m.state = modelAtom
		return api.Fault{}
	case c == ']' && m.state != modelSlash, m.state == modelSlash && !modelMeans(c):
		return api.Fault{Code: api.ErrSyntax, At: at}
	case m.state == modelSlash:
		m.state = modelMember
		if strings.ContainsRune("dws", c) {
			m.one, m.dash = 0, false
			return api.Fault{}
		}
		if other, ok := map[rune]rune{'n': 10, 't': 9}[c]; ok {
			c = other
		}
		return m.single(at-1, c, false)
	case c == '\\':
		m.state = modelSlash
		return api.Fault{}
	}
	m.state = modelMember
	return m.single(at, c, c == '-')
}

// single is a member of one character, or a - that makes a range.
func (m *model) single(at int, c rune, dash bool) api.Fault {
	switch {
	case m.dash && m.one > c:
		return api.Fault{Code: api.ErrSyntax, At: m.oneAt}
	case m.dash:
		m.one, m.dash = 0, false
	case dash && m.one > 0:
		m.dash = true
	default:
		m.one, m.oneAt = c, at
	}
	return api.Fault{}
}

// everyText runs do on all texts of up to n elements of an alphabet, behind a head.
func everyText(head, alphabet string, n int, do func(text []rune)) {
	do([]rune(head))
	if n == 0 {
		return
	}
	for _, c := range alphabet {
		everyText(head+string(c), alphabet, n-1, do)
	}
}

// TestP81AllShortTexts holds the fault of every short text of some alphabets to the model's.
func TestP81AllShortTexts(t *testing.T) {
	nine := strings.Repeat("()", 9)
	opened := strings.Repeat("(?:", 11)
	cases := []struct {
		head, alphabet string
		n              int
	}{
		{"", "a()?:|*^", 6},
		{"", "a{}01,?+", 6},
		{"a{", "}2103,?*a", 6},
		{"[", "]^-\\abdW", 6},
		{"x[a", "]^-\\[.n", 6},
		{"", "a0d()[]{}?:|,\\-^*$.\n é", 4},
		{nine, "()?:a*|", 6},
		{opened, "()?:a[", 6},
	}
	for _, c := range cases {
		everyText(c.head, c.alphabet, c.n, func(text []rune) {
			tree, f := resyn.Parse(text)
			if want := modelFault(text); f != want || len(tree) > 0 != (want.Code == api.OK) {
				t.Fatalf("Parse(%q): %d nodes, %v, want %v", string(text), len(tree), f, want)
			}
		})
	}
}

// TestP81WhereItCannotBeContinued is the first fault in its own words: up to its index some ending makes a pattern of the text, one element further none does.
func TestP81WhereItCannotBeContinued(t *testing.T) {
	var endings []string
	for _, ending := range []string{"", "a", "a]", "]", "d]", "d", "0}", "}", ":"} {
		for n := range 4 {
			endings = append(endings, ending+strings.Repeat(")", n))
		}
	}
	may := func(text string) bool {
		for _, ending := range endings {
			if _, f := resyn.Parse([]rune(text + ending)); f.Code == api.OK {
				return true
			}
		}
		return false
	}
	everyText("", "a0d()[]{}?:|,\\^*$", 3, func(text []rune) { // no -, so that there are no ranges
		tree, f := resyn.Parse(text)
		switch {
		case f.Code == api.OK && len(tree) > 0:
			return
		case f.Code != api.ErrSyntax || f.At < 0 || f.At > len(text) || !may(string(text[:f.At])):
			t.Errorf("Parse(%q): %v", string(text), f)
		case f.At < len(text) && may(string(text[:f.At+1])):
			t.Errorf("Parse(%q): %v, but the text can be continued", string(text), f)
		}
	})
}

// A maker makes patterns, each with the tree that it must have.
type maker struct {
	*rand.Rand
	groups int
}

func (m *maker) pattern(deep, nest int) (string, []api.Re) {
	n := m.Intn(4) - 1
	if n < 2 {
		return m.row(deep, nest)
	}
	var texts []string
	tree := []api.Re{alt(deep)}
	for range n {
		text, row := m.row(deep+1, nest)
		texts, tree = append(texts, text), append(tree, row...)
	}
	return strings.Join(texts, "|"), tree
}

func (m *maker) row(deep, nest int) (string, []api.Re) {
	whole := ""
	tree := []api.Re{seq(deep)}
	for range m.Intn(4) {
		text, item := m.item(deep+1, nest)
		whole, tree = whole+text, append(tree, item...)
	}
	return whole, tree
}

func (m *maker) item(deep, nest int) (string, []api.Re) {
	low, high := m.Intn(10), m.Intn(10)
	low, high = min(low, high), max(low, high)
	node, repeat := rep(deep, low, high), fmt.Sprintf("{%d,%d}", low, high)
	switch m.Intn(12) {
	case 0:
		return "^", []api.Re{start(deep)}
	case 1:
		return "$", []api.Re{stop(deep)}
	case 2:
		node.Hi, repeat = low, "{"+strconv.Itoa(low)+"}"
	case 3:
		node.Hi, repeat = -1, "{"+strconv.Itoa(low)+",}"
	case 4:
		node.Lo, node.Hi, repeat = 0, -1, "*"
	case 5:
		node.Lo, node.Hi, repeat = 1, -1, "+"
	case 6:
		node.Lo, node.Hi, repeat = 0, 1, "?"
	case 7:
	default:
		return m.atom(deep, nest)
	}
	if m.Intn(2) == 0 {
		node.Lazy, repeat = true, repeat+"?"
	}
	text, atom := m.atom(deep+1, nest)
	return text + repeat, append([]api.Re{node}, atom...)
}

func (m *maker) atom(deep, nest int) (string, []api.Re) {
	switch kind := m.Intn(6); {
	case kind == 0 && nest < 12 && m.groups < 9:
		m.groups++
		node := group(deep, m.groups)
		text, content := m.pattern(deep+1, nest+1)
		return "(" + text + ")", append([]api.Re{node}, content...)
	case kind == 1 && nest < 12:
		text, content := m.pattern(deep+1, nest+1)
		return "(?:" + text + ")", append([]api.Re{group(deep, 0)}, content...)
	case kind == 2:
		return m.class(deep)
	}
	one := [][2]string{{"a", "aa"}, {"]", "]]"}, {"-", "--"}, {"}", "}}"}, {",", ",,"}, {"\n", "\n\n"}, {"é", "éé"}, {"\\d", "09"}, {"\\w", "azAZ09__"}, {"\\s", "  \t\t\n\n"}, {"\\n", "\n\n"}, {"\\t", "\t\t"}, {"\\(", "(("}, {"\\\\", "\\\\"}, {"\\ ", "  "}, {"\\×", "××"}}
	negated := [][2]string{{".", "\n\n"}, {"\\D", "09"}, {"\\W", "azAZ09__"}, {"\\S", "  \t\t\n\n"}}
	if m.Intn(3) == 0 {
		pick := negated[m.Intn(len(negated))]
		return pick[0], []api.Re{not(set(deep, pick[1]))}
	}
	pick := one[m.Intn(len(one))]
	return pick[0], []api.Re{set(deep, pick[1])}
}

func (m *maker) class(deep int) (string, []api.Re) {
	members := [][2]string{{"a", "aa"}, {"x-z", "xz"}, {"\\]", "]]"}, {"[", "[["}, {"*", "**"}, {"\\d", "09"}, {"\\w", "azAZ09__"}, {"\\s", "  \t\t\n\n"}, {"\\n", "\n\n"}, {"\\t-\\n", "\t\n"}, {"--9", "-9"}, {"+--", "+-"}, {"\\--\\-", "--"}, {"\\^", "^^"}, {"\\-", "--"}, {"é-ï", "éï"}, {"(", "(("}}
	// A - ahead of a - at the beginning of a member would make a range with what is ahead of it.
	text, ranges, ahead := "", "", false
	for range 1 + m.Intn(4) {
		pick := members[m.Intn(len(members))]
		if ahead && pick[0][0] == '-' {
			continue
		}
		text, ranges = text+pick[0], ranges+pick[1]
		ahead = len([]rune(pick[1])) == 2 && []rune(pick[1])[0] == []rune(pick[1])[1]
	}
	if m.Intn(3) == 0 {
		text, ranges = text+"-", ranges+"--"
	}
	if m.Intn(3) == 0 {
		return "[^" + text + "]", []api.Re{not(set(deep, ranges))}
	}
	return "[" + text + "]", []api.Re{set(deep, ranges)}
}

// TestP82AnyTree holds patterns that are made together with their trees to these.
func TestP82AnyTree(t *testing.T) {
	rnd := rand.New(rand.NewSource(8))
	kept := 0
	for range 60000 {
		m := &maker{Rand: rnd}
		text, tree := m.pattern(0, 0)
		if len([]rune(text)) > api.MaxPattern {
			continue
		}
		kept++
		mustParse(t, text, tree...)
		if got := resyn.Groups(tree); got != m.groups {
			t.Errorf("Groups of %q: %d, want %d", text, got, m.groups)
		}
	}
	if kept < 30000 {
		t.Errorf("only %d patterns", kept)
	}
}

// TestP81AnySlip holds the fault of a pattern in which an element is left out, put in or replaced to the model's.
func TestP81AnySlip(t *testing.T) {
	rnd := rand.New(rand.NewSource(81))
	elements := []rune("a()[]{}?:|\\,-^*$.d0192")
	for range 40000 {
		text, _ := (&maker{Rand: rnd}).pattern(0, 0)
		p := []rune(text)
		from := rnd.Intn(len(p) + 1)
		to := min(len(p), from+rnd.Intn(2))
		p = slices.Replace(p, from, to, elements[rnd.Intn(len(elements))])
		if rnd.Intn(3) == 0 {
			p = slices.Delete(p, from, from+1)
		}
		if len(p) > api.MaxPattern {
			continue
		}
		if tree, f := resyn.Parse(p); f != modelFault(p) || len(tree) > 0 != (f.Code == api.OK) {
			t.Errorf("Parse(%q): %d nodes, %v, want %v", string(p), len(tree), f, modelFault(p))
		}
	}
}
