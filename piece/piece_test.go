package piece_test

import (
	"fmt"
	"math"
	"math/rand"
	"slices"
	"strings"
	"testing"

	"standish/api"
	"standish/piece"
)

func ExampleTable() {
	table, _ := piece.New([]rune("ab"))
	table.Splice(1, 0, []rune("x"))
	for _, p := range table.Pieces() {
		fmt.Println(p.Add, p.From, p.Len)
	}
	fmt.Println(string(table.Text()), table.Len(), table.Added())
	// Output:
	// false 0 1
	// true 0 1
	// false 1 1
	// axb 3 1
}

// notCharacters are numbers that no text may hold.
func notCharacters() []rune {
	return []rune{math.MinInt32, -1, 0xd800, 0xdfff, 0x110000, math.MaxInt32}
}

// outside are ranges, each an index and a number of elements, that are not within a text of this length.
func outside(length int) [][2]int {
	return [][2]int{
		{-1, 0}, {-1, 1}, {length + 1, 0}, {length + 1, -1}, {0, -1}, {length, -1}, {0, length + 1}, {length, 1}, {length - 1, 2},
		{1, math.MaxInt}, {length, math.MaxInt}, {math.MaxInt, 0}, {math.MaxInt, 1}, {math.MaxInt, math.MaxInt},
		{math.MaxInt, math.MinInt}, {math.MinInt, 0}, {math.MinInt, math.MinInt}, {math.MinInt, math.MaxInt}, {0, math.MinInt},
	}
}

func filled(n int) []rune { return slices.Repeat([]rune{'a'}, n) }

func newTable(t *testing.T, s []rune) *piece.Table {
	t.Helper()
	table, code := piece.New(s)
	if code != api.OK || table == nil {
		t.Fatalf("New of %d elements: %v, %d", len(s), table, code)
	}
	return table
}

func mustSplice(t *testing.T, table *piece.Table, at, cut int, put []rune, want api.Errno) {
	t.Helper()
	if got := table.Splice(at, cut, put); got != want {
		t.Errorf("Splice of %d, %d and %d elements: %d, want %d", at, cut, len(put), got, want)
	}
}

// written puts pieces down as a text: o for the original text, a for the added one, and of each piece the first element and the length.
func written(pieces []api.Piece) string {
	var out []string
	for _, p := range pieces {
		source := "o"
		if p.Add {
			source = "a"
		}
		out = append(out, fmt.Sprintf("%s%d+%d", source, p.From, p.Len))
	}
	return strings.Join(out, " ")
}

// state is all that a table tells without being asked for a range.
type state struct {
	text, pieces string
	length       int
	added        int
}

func stateOf(table *piece.Table) state {
	return state{string(table.Text()), written(table.Pieces()), table.Len(), table.Added()}
}

func mustBe(t *testing.T, when string, table *piece.Table, want state) {
	t.Helper()
	if got := stateOf(table); got != want {
		t.Errorf("%s: %+v, want %+v", when, got, want)
	}
}

func TestP31New(t *testing.T) {
	mustBe(t, "a text", newTable(t, []rune("aé\n")), state{"aé\n", "o0+3", 3, 0})
	mustBe(t, "one element", newTable(t, []rune{0x10ffff}), state{"\U0010ffff", "o0+1", 1, 0})
	mustBe(t, "an empty text", newTable(t, []rune{}), state{"", "", 0, 0})
	mustBe(t, "nil", newTable(t, nil), state{"", "", 0, 0})
	full := newTable(t, filled(api.MaxText))
	mustBe(t, "the longest text", full, state{string(filled(api.MaxText)), fmt.Sprintf("o0+%d", api.MaxText), api.MaxText, 0})
}

func TestP31NewRefused(t *testing.T) {
	check := func(s []rune, want api.Errno) {
		t.Helper()
		if table, code := piece.New(s); table != nil || code != want {
			t.Errorf("New of %d elements: %v, %d, want nil, %d", len(s), table, code, want)
		}
	}
	for _, bad := range notCharacters() {
		for at := range 3 {
			s := []rune("abc")
			s[at] = bad
			check(s, api.ErrForm)
		}
		check(append(filled(api.MaxText), bad), api.ErrForm) // ErrFull applies, too, but comes second
	}
	check(filled(api.MaxText+1), api.ErrFull)
	check(filled(3*api.MaxText), api.ErrFull)
}

// spliced returns a table of the text "abXYcdZ", whose pieces lie in its two texts in another order than in the text.
func spliced(t *testing.T) *piece.Table {
	t.Helper()
	table := newTable(t, []rune("abcd"))
	mustSplice(t, table, 4, 0, []rune("Z"), api.OK)
	mustSplice(t, table, 2, 0, []rune("XY"), api.OK)
	mustBe(t, "the spliced table", table, state{"abXYcdZ", "o0+2 a1+2 o2+2 a0+1", 7, 3})
	return table
}

func TestP31Slice(t *testing.T) {
	table, text := spliced(t), []rune("abXYcdZ")
	for at := range len(text) + 1 {
		for n := range len(text) - at + 1 {
			got, code := table.Slice(at, n)
			if code != api.OK || !slices.Equal(got, text[at:at+n]) {
				t.Errorf("Slice(%d, %d): %q, %d", at, n, string(got), code)
			}
		}
	}
	mustBe(t, "after Slice", table, stateOf(spliced(t)))
}

func TestP31SliceOutside(t *testing.T) {
	for _, table := range []*piece.Table{spliced(t), newTable(t, nil), newTable(t, filled(api.MaxText))} {
		for _, r := range outside(table.Len()) {
			if got, code := table.Slice(r[0], r[1]); code != api.ErrArg || len(got) != 0 {
				t.Errorf("Slice(%d, %d) of %d elements: %q, %d", r[0], r[1], table.Len(), string(got), code)
			}
		}
		if got, code := table.Slice(table.Len(), 0); code != api.OK || len(got) != 0 {
			t.Errorf("Slice at the end of %d elements: %q, %d", table.Len(), string(got), code)
		}
	}
}

// A step is a call of Splice, and what the table must be after it.
type step struct {
	at, cut int
	put     string
	want    state
}

func walk(t *testing.T, start string, steps []step) {
	t.Helper()
	table := newTable(t, []rune(start))
	for i, s := range steps {
		mustSplice(t, table, s.at, s.cut, []rune(s.put), api.OK)
		mustBe(t, fmt.Sprintf("%q, step %d", start, i), table, s.want)
	}
}

func TestP32Removed(t *testing.T) {
	walk(t, "abcdef", []step{
		{1, 2, "", state{"adef", "o0+1 o3+3", 4, 0}},  // the piece contains the range
		{3, 1, "", state{"ade", "o0+1 o3+2", 3, 0}},   // a piece's end
		{1, 1, "", state{"ae", "o0+1 o4+1", 2, 0}},    // a piece's beginning
		{1, 1, "", state{"a", "o0+1", 1, 0}},          // a whole piece
		{0, 1, "", state{"", "", 0, 0}},               // all there is
		{0, 0, "xy", state{"xy", "a0+2", 2, 2}},       // what is put into an empty table
		{0, 2, "z", state{"z", "a2+1", 1, 3}},         // all there is, for something else
		{0, 1, "", state{"", "", 0, 3}},               // the added text stays
		{0, 0, "pqr", state{"pqr", "a3+3", 3, 6}},     // it goes on where it ended
		{1, 1, "", state{"pr", "a3+1 a5+1", 2, 6}},    // a piece of the added text contains the range
		{2, 0, "s", state{"prs", "a3+1 a5+2", 3, 7}},  // its second part still ends where the added text does
		{1, 2, "t", state{"pt", "a3+1 a7+1", 2, 8}},   // its first part does not
		{2, 0, "u", state{"ptu", "a3+1 a7+2", 3, 9}},  // but what came after it does
		{0, 3, "v", state{"v", "a9+1", 1, 10}},        // nothing stands before at
		{0, 0, "w", state{"wv", "a10+1 a9+1", 2, 11}}, // what stands after at is not extended
	})
}

func TestP32RemovedOverSeveralPieces(t *testing.T) {
	walk(t, "abcd", []step{
		{2, 0, "XY", state{"abXYcd", "o0+2 a0+2 o2+2", 6, 2}},
		{1, 4, "", state{"ad", "o0+1 o3+1", 2, 2}}, // parts of the outer pieces stay, the inner one goes
	})
	walk(t, "abcd", []step{
		{2, 0, "XY", state{"abXYcd", "o0+2 a0+2 o2+2", 6, 2}},
		{3, 2, "z", state{"abXzd", "o0+2 a0+1 a2+1 o3+1", 5, 3}}, // what was added and is removed stays in the added text
		{2, 2, "", state{"abd", "o0+2 o3+1", 3, 3}},
		{2, 0, "w", state{"abwd", "o0+2 a3+1 o3+1", 4, 4}},
	})
}

func TestP32Put(t *testing.T) {
	walk(t, "abc", []step{
		{0, 0, "X", state{"Xabc", "a0+1 o0+3", 4, 1}},                         // at the beginning
		{4, 0, "Y", state{"XabcY", "a0+1 o0+3 a1+1", 5, 2}},                   // at the end
		{2, 0, "Z", state{"XaZbcY", "a0+1 o0+1 a2+1 o1+2 a1+1", 6, 3}},        // amid a piece
		{3, 0, "W", state{"XaZWbcY", "a0+1 o0+1 a2+2 o1+2 a1+1", 7, 4}},       // behind what was added last
		{2, 0, "V", state{"XaVZWbcY", "a0+1 o0+1 a4+1 a2+2 o1+2 a1+1", 8, 5}}, // ahead of it
		{4, 0, "U", state{"XaVZUWbcY", "a0+1 o0+1 a4+1 a2+1 a5+1 a3+1 o1+2 a1+1", 9, 6}},
	})
}

// TestP32NoJoinByPlace puts something behind pieces that end at the added text's length, but in the original text, and behind what was added earlier.
func TestP32NoJoinByPlace(t *testing.T) {
	walk(t, "ab", []step{
		{2, 0, "xy", state{"abxy", "o0+2 a0+2", 4, 2}},
		{2, 0, "z", state{"abzxy", "o0+2 a2+1 a0+2", 5, 3}},
		{5, 0, "w", state{"abzxyw", "o0+2 a2+1 a0+2 a3+1", 6, 4}},
	})
}

// TestP32TypedWord is example 2 of the chapter.
func TestP32TypedWord(t *testing.T) {
	table := newTable(t, []rune("()"))
	for i, r := range []rune("word") {
		mustSplice(t, table, 1+i, 0, []rune{r}, api.OK)
	}
	mustBe(t, "typed", table, state{"(word)", "o0+1 a0+4 o1+1", 6, 4})
	mustSplice(t, table, 5, 1, []rune("]"), api.OK)
	mustBe(t, "typed over the next element", table, state{"(word]", "o0+1 a0+5", 6, 5})
}

// TestP32Nothing is that a splice of nothing leaves all pieces whole, and that a word can be typed on after it.
func TestP32Nothing(t *testing.T) {
	table := spliced(t)
	want := stateOf(table)
	for at := range table.Len() + 1 {
		mustSplice(t, table, at, 0, nil, api.OK)
		mustSplice(t, table, at, 0, []rune{}, api.OK)
		mustBe(t, "after a splice of nothing", table, want)
	}
	mustSplice(t, table, 4, 0, []rune("!"), api.OK)
	mustBe(t, "typed on", table, state{"abXY!cdZ", "o0+2 a1+3 o2+2 a0+1", 8, 4})
	empty := newTable(t, nil)
	mustSplice(t, empty, 0, 0, nil, api.OK)
	mustBe(t, "an empty table", empty, state{})
}

// TestP32Refused is also R5: what is refused changes nothing.
func TestP32Refused(t *testing.T) {
	table := spliced(t)
	want := stateOf(table)
	tooMuch := filled(api.MaxAdd + api.MaxText)
	for _, bad := range notCharacters() {
		for _, r := range outside(table.Len()) {
			mustSplice(t, table, r[0], r[1], nil, api.ErrArg)
			mustSplice(t, table, r[0], r[1], []rune{'a', bad}, api.ErrArg)
			mustSplice(t, table, r[0], r[1], tooMuch, api.ErrArg)
		}
		mustSplice(t, table, 4, 0, []rune{bad}, api.ErrForm)
		mustSplice(t, table, 4, 3, []rune{'a', bad, 'b'}, api.ErrForm)
		mustSplice(t, table, 4, 0, append(slices.Clone(tooMuch), bad), api.ErrForm)
	}
	mustSplice(t, table, 4, 0, tooMuch, api.ErrFull)
	mustBe(t, "after what was refused", table, want)
	mustSplice(t, table, 4, 0, []rune("!"), api.OK)
	mustBe(t, "typed on", table, state{"abXY!cdZ", "o0+2 a1+3 o2+2 a0+1", 8, 4})
}

func TestP32MaxText(t *testing.T) {
	table := newTable(t, filled(api.MaxText-2))
	mustSplice(t, table, 5, 0, []rune("xyz"), api.ErrFull)
	mustBe(t, "refused", table, stateOf(newTable(t, filled(api.MaxText-2))))
	mustSplice(t, table, 5, 0, []rune("xy"), api.OK)
	mustSplice(t, table, 0, 0, []rune("z"), api.ErrFull)
	mustSplice(t, table, 0, 0, nil, api.OK)
	mustSplice(t, table, 0, 1, []rune("zz"), api.ErrFull)
	mustSplice(t, table, 0, 2, []rune("zz"), api.OK)
	mustSplice(t, table, 0, api.MaxText, filled(api.MaxText+1), api.ErrFull)
	mustSplice(t, table, 0, api.MaxText, filled(api.MaxText), api.OK)
	mustBe(t, "full", table, state{string(filled(api.MaxText)), fmt.Sprintf("a4+%d", api.MaxText), api.MaxText, api.MaxText + 4})
}

func TestP32MaxAdd(t *testing.T) {
	table := newTable(t, []rune("ab"))
	room := api.MaxAdd - 2
	for room > 0 {
		n := min(room, api.MaxText)
		mustSplice(t, table, 0, table.Len(), filled(n), api.OK)
		room -= n
	}
	mustSplice(t, table, 0, table.Len(), []rune("b"), api.OK)
	mustSplice(t, table, 1, 0, []rune("cd"), api.ErrFull)
	mustBe(t, "one short of full", table, state{"b", fmt.Sprintf("a%d+1", api.MaxAdd-2), 1, api.MaxAdd - 1})
	mustSplice(t, table, 1, 0, []rune("c"), api.OK)
	want := state{"bc", fmt.Sprintf("a%d+2", api.MaxAdd-2), 2, api.MaxAdd}
	mustBe(t, "full", table, want)
	mustSplice(t, table, 0, 1, []rune("d"), api.ErrFull)
	mustSplice(t, table, 0, 0, nil, api.OK)
	mustBe(t, "refused", table, want)
	mustSplice(t, table.Copy(), 0, 0, []rune("d"), api.ErrFull)
	mustSplice(t, table, 0, 1, nil, api.OK)
	mustSplice(t, table, 0, 0, []rune("d"), api.ErrFull)
	mustBe(t, "removed", table, state{"c", fmt.Sprintf("a%d+1", api.MaxAdd-1), 1, api.MaxAdd})
}

func TestP33Copy(t *testing.T) {
	table := spliced(t)
	first := stateOf(table)
	copied := table.Copy()
	mustBe(t, "the copy", copied, first)
	mustSplice(t, table, 4, 0, []rune("one"), api.OK)
	mustBe(t, "the copy after a splice of the table", copied, first)
	mustSplice(t, copied, 4, 0, []rune("two!"), api.OK)
	mustBe(t, "the table", table, state{"abXYonecdZ", "o0+2 a1+5 o2+2 a0+1", 10, 6})
	mustBe(t, "the copy", copied, state{"abXYtwo!cdZ", "o0+2 a1+6 o2+2 a0+1", 11, 7})
	again := copied.Copy()
	mustSplice(t, copied, 0, 11, nil, api.OK)
	mustBe(t, "the copy of the copy", again, state{"abXYtwo!cdZ", "o0+2 a1+6 o2+2 a0+1", 11, 7})
	mustBe(t, "the copy of an empty table", newTable(t, nil).Copy(), state{})
}

// TestP33CopyAtEachLength types on in a table and in its copy, element by element, so that shared spare room of any size would show.
func TestP33CopyAtEachLength(t *testing.T) {
	table := newTable(t, []rune("ab"))
	for n := range 70 {
		copied := table.Copy()
		mustSplice(t, table, 1+n, 0, []rune("x"), api.OK)
		mustSplice(t, copied, 1+n, 0, []rune("y"), api.OK)
		typed := "a" + strings.Repeat("x", n)
		pieces := fmt.Sprintf("o0+1 a0+%d o1+1", n+1)
		mustBe(t, "the table", table, state{typed + "xb", pieces, n + 3, n + 1})
		mustBe(t, "the copy", copied, state{typed + "yb", pieces, n + 3, n + 1})
		mustSplice(t, copied, 0, n+3, nil, api.OK)
		mustBe(t, "the table after the copy was emptied", table, state{typed + "xb", pieces, n + 3, n + 1})
	}
}

// TestP33OwnMemory is R4: what a table is given and what it returns can be changed, and the table stays.
func TestP33OwnMemory(t *testing.T) {
	start, put := []rune("ab--"), []rune("XY--")
	table := newTable(t, start[:2])
	mustSplice(t, table, 1, 0, put[:2], api.OK)
	mustSplice(t, table, 3, 0, put[1:2], api.OK)
	if string(start) != "ab--" || string(put) != "XY--" {
		t.Errorf("arguments became %q and %q", string(start), string(put))
	}
	want := state{"aXYYb", "o0+1 a0+3 o1+1", 5, 3}
	scribble(start, '!')
	scribble(put, '!')
	mustBe(t, "arguments changed", table, want)
	copied := table.Copy()
	whole, part, other := table.Text(), sliceOf(t, table, 0, 4), sliceOf(t, table, 0, 4)
	pieces, more := table.Pieces(), table.Pieces()
	scribble(whole, '!')
	scribble(part, '?')
	scribble(pieces, api.Piece{From: 7})
	mustBe(t, "results changed", table, want)
	mustBe(t, "results changed: the copy", copied, want)
	if string(other) != "aXYY" || written(more) != want.pieces {
		t.Errorf("two results share memory: %q, %s", string(other), written(more))
	}
}

func sliceOf(t *testing.T, table *piece.Table, at, n int) []rune {
	t.Helper()
	got, code := table.Slice(at, n)
	if code != api.OK {
		t.Fatalf("Slice(%d, %d): %d", at, n, code)
	}
	return got
}

// scribble writes over all that a slice reaches.
func scribble[E any](s []E, with E) {
	s = s[:cap(s)]
	for i := range s {
		s[i] = with
	}
}

func TestP33NilTable(t *testing.T) {
	var none *piece.Table
	mustBe(t, "a nil table", none, state{})
	for _, r := range append(outside(0), [2]int{0, 0}) {
		if got, code := none.Slice(r[0], r[1]); code != api.ErrNil || len(got) != 0 {
			t.Errorf("Slice of a nil table: %q, %d", string(got), code)
		}
		mustSplice(t, none, r[0], r[1], []rune{-1}, api.ErrNil)
		mustSplice(t, none, r[0], r[1], nil, api.ErrNil)
	}
	if none.Copy() != nil {
		t.Error("Copy of a nil table is not nil")
	}
}

// A cell is an element of the model's text: where it comes from, and whether a piece begins with it.
type cell struct {
	r      rune
	add    bool
	from   int
	begins bool
}

// model is a plain slice of elements that are spliced like a table's.
type model struct {
	cells []cell
	added int
}

func newModel(s []rune) model {
	var m model
	for i, r := range s {
		m.cells = append(m.cells, cell{r, false, i, i == 0})
	}
	return m
}

// spliced returns the model after a splice, and leaves the one before as it is.
func (m model) spliced(at, cut int, put []rune) model {
	if cut == 0 && len(put) == 0 {
		return m
	}
	joins := at > 0 && m.cells[at-1].add && m.cells[at-1].from == m.added-1
	var in []cell
	for i, r := range put {
		in = append(in, cell{r, true, m.added + i, i == 0 && !joins})
	}
	after := slices.Clone(m.cells[at+cut:])
	if len(after) > 0 {
		after[0].begins = true
	}
	return model{slices.Concat(m.cells[:at], in, after), m.added + len(put)}
}

func (m model) state() state {
	var text []rune
	var pieces []api.Piece
	for _, c := range m.cells {
		text = append(text, c.r)
		if c.begins {
			pieces = append(pieces, api.Piece{Add: c.add, From: c.from})
		}
		pieces[len(pieces)-1].Len++
	}
	return state{string(text), written(pieces), len(m.cells), m.added}
}

// TestP34AllSplices makes all rows of splices of short texts, on copies, and holds each table against the model.
func TestP34AllSplices(t *testing.T) {
	var row func(table *piece.Table, m model, left int)
	row = func(table *piece.Table, m model, left int) {
		mustBe(t, "in a row", table, m.state())
		if left == 0 || t.Failed() {
			return
		}
		for at := range len(m.cells) + 1 {
			for cut := range len(m.cells) - at + 1 {
				for _, put := range []string{"", "x", "yz"} {
					next := table.Copy()
					mustSplice(t, next, at, cut, []rune(put), api.OK)
					row(next, m.spliced(at, cut, []rune(put)), left-1)
				}
			}
		}
	}
	for _, start := range []string{"", "a", "abc"} {
		row(newTable(t, []rune(start)), newModel([]rune(start)), 3)
	}
}

// TestP34LongRows makes long rows of splices of one table each, with an unchanging seed.
func TestP34LongRows(t *testing.T) {
	source := rand.New(rand.NewSource(34))
	for range 30 {
		start := []rune("the original text\n")
		table, m := newTable(t, start), newModel(start)
		for range 300 {
			at := source.Intn(len(m.cells) + 1)
			cut := source.Intn(min(len(m.cells)-at, 6) + 1)
			put := []rune("added\n")[:source.Intn(7)]
			mustSplice(t, table, at, cut, put, api.OK)
			m = m.spliced(at, cut, put)
			mustBe(t, "in a long row", table, m.state())
			if t.Failed() {
				return
			}
		}
	}
}
