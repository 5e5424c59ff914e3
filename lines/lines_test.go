package lines_test

import (
	"fmt"
	"math"
	"slices"
	"strings"
	"testing"

	"standish/api"
	"standish/lines"
)

func ExamplePlace() {
	fmt.Println(lines.Place([]rune("a\nb"), 2))
	// Output:
	// 1 0 0
}

// A row is what the chapter requires of one line: where it begins, how many elements it has, and its blanks.
type row struct {
	start, width int
	indent       string
}

// rowsOf cuts a text of characters into its lines by other means than the program: it splits the text and adds up what it gets.
func rowsOf(text string) []row {
	var out []row
	start := 0
	for _, part := range strings.Split(text, "\n") {
		runes := []rune(part)
		blanks := []rune(part[:len(part)-len(strings.TrimLeft(part, " \t"))])
		out = append(out, row{start, len(runes), string(blanks[:min(len(blanks), 40)])})
		start += len(runes) + 1
	}
	return out
}

// texts are all texts of up to seven elements of these four, and some longer ones.
func texts() []string {
	out := []string{""}
	for from, n := 0, 0; n < 7; n++ {
		to := len(out)
		for _, text := range out[from:to] {
			for _, r := range "a \t\n" {
				out = append(out, text+string(r))
			}
		}
		from = to
	}
	return append(out, "\n\n\n\n\n\n\n\n\n", "one\n\n  two\n\t \tthree\nfour é\n\n", "no end\nof line", strings.Repeat("ab\n", 700))
}

// noLines are numbers of lines that a text of count lines does not have.
func noLines(count int) []int {
	return []int{-1, -2, -count, count, count + 1, math.MaxInt32, math.MinInt32, math.MaxInt - 1, math.MaxInt, math.MinInt, math.MinInt + 1}
}

func mustStart(t *testing.T, s []rune, line, want int, code api.Errno) {
	t.Helper()
	if got, e := lines.Start(s, line); got != want || e != code {
		t.Errorf("Start(%q, %d): %d, %d, want %d, %d", string(s), line, got, e, want, code)
	}
}

func mustWidth(t *testing.T, s []rune, line, want int, code api.Errno) {
	t.Helper()
	if got, e := lines.Width(s, line); got != want || e != code {
		t.Errorf("Width(%q, %d): %d, %d, want %d, %d", string(s), line, got, e, want, code)
	}
}

func mustOffset(t *testing.T, s []rune, line, col, want int, code api.Errno) {
	t.Helper()
	if got, e := lines.Offset(s, line, col); got != want || e != code {
		t.Errorf("Offset(%q, %d, %d): %d, %d, want %d, %d", string(s), line, col, got, e, want, code)
	}
}

func mustPlace(t *testing.T, s []rune, at, line, col int, code api.Errno) {
	t.Helper()
	if l, c, e := lines.Place(s, at); l != line || c != col || e != code {
		t.Errorf("Place(%q, %d): %d, %d, %d, want %d, %d, %d", string(s), at, l, c, e, line, col, code)
	}
}

func mustIndent(t *testing.T, s []rune, line int, want string, code api.Errno) {
	t.Helper()
	if got, e := lines.Indent(s, line); string(got) != want || e != code {
		t.Errorf("Indent(%q, %d): %q, %d, want %q, %d", string(s), line, string(got), e, want, code)
	}
}

// mustRows holds all functions to the rows of a text.
func mustRows(t *testing.T, s []rune, rows []row) {
	t.Helper()
	if got := lines.Count(s); got != len(rows) {
		t.Errorf("Count(%q): %d, want %d", string(s), got, len(rows))
	}
	for line, r := range rows {
		mustStart(t, s, line, r.start, api.OK)
		mustWidth(t, s, line, r.width, api.OK)
		mustIndent(t, s, line, r.indent, api.OK)
		for col := range r.width + 1 {
			mustOffset(t, s, line, col, r.start+col, api.OK)
			mustPlace(t, s, r.start+col, line, col, api.OK)
		}
	}
}

func TestP41AndP42WrittenOut(t *testing.T) {
	cases := []struct {
		text string
		rows []row
	}{
		{"", []row{{0, 0, ""}}},
		{"a", []row{{0, 1, ""}}},
		{"\n", []row{{0, 0, ""}, {1, 0, ""}}},
		{"a\n", []row{{0, 1, ""}, {2, 0, ""}}},
		{"\na", []row{{0, 0, ""}, {1, 1, ""}}},
		{"a\nb", []row{{0, 1, ""}, {2, 1, ""}}},
		{"\n\n\n", []row{{0, 0, ""}, {1, 0, ""}, {2, 0, ""}, {3, 0, ""}}},
		{"if\n  é \n\t x\n ", []row{{0, 2, ""}, {3, 4, "  "}, {8, 3, "\t "}, {12, 1, " "}}},
		{" a\n\n\n  \n", []row{{0, 2, " "}, {3, 0, ""}, {4, 0, ""}, {5, 2, "  "}, {8, 0, ""}}},
	}
	for _, c := range cases {
		mustRows(t, []rune(c.text), c.rows)
	}
}

func TestP41AndP42AllShortTexts(t *testing.T) {
	for _, text := range texts() {
		mustRows(t, []rune(text), rowsOf(text))
	}
}

// TestP41ByElement10 is that a text has one line more than elements 10, and that nothing else ends a line.
func TestP41ByElement10(t *testing.T) {
	others := []rune{0, 9, 11, 12, 13, 28, 29, 30, 0x85, 0x2028, 0x2029, 0x10ffff, -1, -10, 0xd800, 0xdfff, 0x110000, math.MinInt32, math.MaxInt32, 10 + 1<<8, 10 + 1<<16}
	mustRows(t, others, []row{{0, len(others), ""}})
	for _, r := range others {
		if got := lines.Count([]rune{r, r}); got != 1 {
			t.Errorf("Count of %x twice: %d", r, got)
		}
		if got := lines.Count([]rune{r, 10, 10, r}); got != 3 {
			t.Errorf("Count of %x around two elements 10: %d", r, got)
		}
	}
}

func TestP41PlaceOutside(t *testing.T) {
	for _, text := range texts() {
		s := []rune(text)
		n := len(s)
		for _, at := range []int{-1, -n - 1, n + 1, n + 2, math.MaxInt32, math.MinInt32, math.MaxInt, math.MinInt} {
			mustPlace(t, s, at, 0, 0, api.ErrArg)
		}
	}
}

func TestP41AndP42NoSuchLine(t *testing.T) {
	for _, text := range texts() {
		s := []rune(text)
		for _, line := range noLines(len(rowsOf(text))) {
			mustStart(t, s, line, 0, api.ErrArg)
			mustWidth(t, s, line, 0, api.ErrArg)
			mustIndent(t, s, line, "", api.ErrArg)
			for _, col := range []int{0, 1, -1, len(s), -line, math.MaxInt, math.MinInt} {
				mustOffset(t, s, line, col, 0, api.ErrArg)
			}
		}
	}
}

func TestP41NoSuchColumn(t *testing.T) {
	for _, text := range texts() {
		s := []rune(text)
		for line, r := range rowsOf(text) {
			for _, col := range []int{-1, -r.start - 1, r.width + 1, r.width + 2, len(s) + 1, math.MaxInt, math.MaxInt - r.start, math.MinInt, math.MinInt + 1} {
				mustOffset(t, s, line, col, 0, api.ErrArg)
			}
		}
	}
}

func TestP42AtMostMaxIndent(t *testing.T) {
	if api.MaxIndent != 40 {
		t.Fatalf("MaxIndent is %d", api.MaxIndent)
	}
	for _, n := range []int{1, 39, 40, 41, 80, 1000} {
		blanks := strings.Repeat(" ", n)
		want := blanks[:min(n, 40)]
		for _, behind := range []string{"", "a", "\n", "a b\n  c"} {
			mustIndent(t, []rune(blanks+behind), 0, want, api.OK)
			mustIndent(t, []rune(" a\n"+blanks+behind), 1, want, api.OK)
		}
	}
	mixed := strings.Repeat("\t ", 30)
	mustIndent(t, []rune(mixed+"a"), 0, mixed[:40], api.OK)
}

// TestP42OnlyBlanks is that spaces and tabs are blanks and nothing else is, and that only the line's own count.
func TestP42OnlyBlanks(t *testing.T) {
	for _, r := range []rune{0, 8, 10, 11, 12, 13, 31, 33, '_', 0x85, 0xa0, 0x2003, 0x3000, 0xfeff, -1, 0xd800, 0x110000, math.MinInt32, math.MaxInt32} {
		mustIndent(t, []rune{r, ' ', ' '}, 0, "", api.OK)
		mustIndent(t, []rune{' ', '\t', r, ' '}, 0, " \t", api.OK)
	}
	mustIndent(t, []rune(" \n\n  \n\t"), 0, " ", api.OK)
	mustIndent(t, []rune(" \n\n  \n\t"), 1, "", api.OK)
	mustIndent(t, []rune(" \n\n  \n\t"), 2, "  ", api.OK)
	mustIndent(t, []rune(" \n\n  \n\t"), 3, "\t", api.OK)
}

func TestP43PlaceAndBack(t *testing.T) {
	for _, text := range texts() {
		s := []rune(text)
		for at := range len(s) + 1 {
			line, col, e := lines.Place(s, at)
			if e != api.OK {
				t.Errorf("Place(%q, %d): %d", text, at, e)
			}
			mustOffset(t, s, line, col, at, api.OK)
		}
	}
}

// TestP41AndP42SpareCapacity is R10: what stands behind a text is no part of it.
func TestP41AndP42SpareCapacity(t *testing.T) {
	whole := []rune("a\n  \n\n")
	for n := range len(whole) {
		mustRows(t, whole[:n], rowsOf(string(whole[:n])))
		for _, line := range noLines(len(rowsOf(string(whole[:n])))) {
			mustStart(t, whole[:n], line, 0, api.ErrArg)
		}
	}
	mustPlace(t, whole[:1], 2, 0, 0, api.ErrArg)
	mustOffset(t, whole[:3], 1, 2, 0, api.ErrArg)
}

// TestP41AndP42NilIsEmpty is R3.
func TestP41AndP42NilIsEmpty(t *testing.T) {
	for _, s := range [][]rune{nil, {}} {
		mustRows(t, s, []row{{0, 0, ""}})
		mustStart(t, s, 1, 0, api.ErrArg)
		mustOffset(t, s, 0, 1, 0, api.ErrArg)
		mustPlace(t, s, 1, 0, 0, api.ErrArg)
	}
}

// TestP42OwnMemory is R4: an indent shares no memory with the text or with another indent, and no call changes the text.
func TestP42OwnMemory(t *testing.T) {
	for n := range 90 {
		whole := []rune("x\n" + strings.Repeat(" ", n) + "y\n--")
		before := slices.Clone(whole)
		s := whole[:len(whole)-2]
		mustRows(t, s, rowsOf(string(s)))
		first, _ := lines.Indent(s, 1)
		second, _ := lines.Indent(s, 1)
		first = first[:cap(first)]
		for i := range first {
			first[i] = '!'
		}
		if !slices.Equal(whole, before) {
			t.Errorf("the text became %q", string(whole))
		}
		if string(second) != strings.Repeat(" ", min(n, 40)) {
			t.Errorf("two indents share memory: %q", string(second))
		}
	}
}
