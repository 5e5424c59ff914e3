package change_test

import (
	"fmt"
	"math"
	"math/rand"
	"slices"
	"strings"
	"testing"

	"standish/api"
	"standish/change"
)

func ExampleLeast() {
	c := change.Least([]rune("abc"), []rune("axc"))
	fmt.Println(c.At, string(c.Cut), string(c.Put))
	// Output:
	// 1 b x
}

// maxText is the limit as its constant of api says, so that a test here does not follow the program if that takes another one.
const maxText = 1000

// noChars are numbers that are no characters, edge by edge.
var noChars = []rune{-1, -2, math.MinInt32, 0xd800, 0xd801, 0xdc00, 0xdfff, 0x110000, 0x110001, math.MaxInt32}

// edgeChars are characters that stand beside those.
var edgeChars = []rune{0, 1, 9, 10, 0xd7, 0xd7ff, 0xe000, 0xfffd, 0xffff, 0x10000, 0x10fffe, 0x10ffff}

func of(at int, cut, put string) api.Change {
	return api.Change{At: at, Cut: []rune(cut), Put: []rune(put)}
}

func same(a, b api.Change) bool {
	return a.At == b.At && slices.Equal(a.Cut, b.Cut) && slices.Equal(a.Put, b.Put)
}

func told(c api.Change) string {
	return fmt.Sprintf("{%d %.20q %.20q}", c.At, string(c.Cut), string(c.Put))
}

// upTo are all texts of at most n elements out of letters.
func upTo(n int, letters string) []string {
	out := []string{""}
	for from := 0; n > 0; n-- {
		to := len(out)
		for _, text := range out[from:to] {
			for _, r := range letters {
				out = append(out, text+string(r))
			}
		}
		from = to
	}
	return out
}

// modelApply does a change by other means than the program: it tries out where the cut part may stand, in strings of one-byte letters.
func modelApply(s string, c api.Change) (string, bool) {
	cut, put := string(c.Cut), string(c.Put)
	for at := range len(s) + 1 {
		if at == c.At && strings.HasPrefix(s[at:], cut) {
			out := s[:at] + put + strings.TrimPrefix(s[at:], cut)
			return out, len(s) <= maxText && len(out) <= maxText
		}
	}
	return "", false
}

func mustApply(t *testing.T, s []rune, c api.Change, want []rune, ok bool) {
	t.Helper()
	code := api.OK
	if !ok {
		code, want = api.ErrForm, nil
	}
	if change.May(s, c) != ok {
		t.Errorf("May(%.20q, %s) of %d elements: %t", string(s), told(c), len(s), !ok)
	}
	if got, e := change.Apply(s, c); !slices.Equal(got, want) || e != code {
		t.Errorf("Apply(%.20q, %s) of %d elements: %.20q, %d, want %.20q, %d", string(s), told(c), len(s), string(got), e, string(want), code)
	}
}

func TestP51MayAndApplyWrittenOut(t *testing.T) {
	cases := []struct {
		s    string
		c    api.Change
		want string
	}{
		{"", of(0, "", ""), ""},
		{"", of(0, "", "new"), "new"},
		{"abc", of(0, "", "x"), "xabc"},
		{"abc", of(3, "", "x"), "abcx"},
		{"abc", of(3, "", ""), "abc"},
		{"abc", of(1, "b", ""), "ac"},
		{"abc", of(1, "b", "b"), "abc"},
		{"abc", of(1, "bc", "é\n\U0010ffff"), "aé\n\U0010ffff"},
		{"abc", of(0, "abc", ""), ""},
		{"aé\nz", of(1, "é\n", "-"), "a-z"},
	}
	for _, c := range cases {
		mustApply(t, []rune(c.s), c.c, []rune(c.want), true)
	}
	refused := []struct {
		s string
		c api.Change
	}{
		{"", of(1, "", "")}, {"", of(-1, "", "")}, {"", of(0, "a", "")}, {"", of(0, "a", "a")},
		{"abc", of(4, "", "")}, {"abc", of(-1, "", "")}, {"abc", of(-1, "c", "")}, {"abc", of(3, "c", "")},
		{"abc", of(2, "cd", "")}, {"abc", of(2, "ca", "")}, {"abc", of(0, "abcd", "abc")}, {"abc", of(0, "abd", "")}, {"abc", of(0, "xbc", "")},
		{"abc", of(1, "a", "")}, {"abc", of(1, "c", "")}, {"abc", of(1, "B", "")},
		{"abc", of(math.MaxInt, "", "")}, {"abc", of(math.MaxInt, "a", "")}, {"abc", of(math.MaxInt-2, "abc", "")}, {"abc", of(math.MinInt, "a", "")}, {"abc", of(math.MinInt, "", "")},
		{"abc", of(math.MaxInt32, "a", "")}, {"abc", of(math.MinInt32, "a", "")}, {"abc", of(1<<32, "a", "")}, {"abc", of(1<<32+1, "b", "")},
	}
	for _, r := range refused {
		mustApply(t, []rune(r.s), r.c, nil, false)
	}
}

func TestP51AllShortChanges(t *testing.T) {
	parts := upTo(2, "ab")
	for _, s := range upTo(4, "ab") {
		for at := -2; at <= len(s)+2; at++ {
			for _, cut := range append(parts, s, s+"a") {
				for _, put := range parts {
					want, ok := modelApply(s, of(at, cut, put))
					mustApply(t, []rune(s), of(at, cut, put), []rune(want), ok)
				}
			}
		}
	}
}

// TestP51Characters is that all that is cut and put is made of characters, while the rest of the text may be anything.
func TestP51Characters(t *testing.T) {
	for _, r := range noChars {
		for _, c := range [][]rune{{r}, {r, 'a'}, {'a', r}, {'a', r, 'b'}} {
			mustApply(t, c, api.Change{Cut: c}, nil, false)
			mustApply(t, c, api.Change{Cut: c, Put: []rune("x")}, nil, false)
			mustApply(t, nil, api.Change{Put: c}, nil, false)
			mustApply(t, []rune("x"), api.Change{Cut: []rune("x"), Put: c}, nil, false)
			mustApply(t, c, api.Change{Cut: c, Put: c}, nil, false)
			mustApply(t, c, api.Change{At: len(c), Put: []rune("x")}, append(slices.Clone(c), 'x'), true)
			mustApply(t, append(slices.Clone(c), 'x'), api.Change{At: len(c), Cut: []rune("x")}, c, true)
		}
	}
	for _, r := range edgeChars {
		c := []rune{'a', r, 'b'}
		mustApply(t, c, api.Change{Cut: c}, nil, true)
		mustApply(t, nil, api.Change{Put: c}, c, true)
		mustApply(t, c, api.Change{At: 1, Cut: c[1:2], Put: c}, []rune{'a', 'a', r, 'b', 'b'}, true)
		mustApply(t, c, api.Change{At: 1, Cut: []rune{r ^ 0x100}}, nil, false)
	}
}

func TestP51MaxText(t *testing.T) {
	if api.MaxText != maxText {
		t.Fatalf("MaxText is %d", api.MaxText)
	}
	for _, n := range []int{maxText - 2, maxText - 1, maxText, maxText + 1, maxText + 2, 2 * maxText} {
		for _, cut := range []int{0, 1, 2, 3, n - 1, n} {
			for _, put := range []int{0, 1, 2, 3, 4, maxText - 1, maxText, maxText + 1, 3 * maxText} {
				for _, at := range []int{0, 1, n - cut} {
					c := of(at, strings.Repeat("a", cut), strings.Repeat("b", put))
					s := strings.Repeat("a", n)
					want, ok := modelApply(s, c)
					mustApply(t, []rune(s), c, []rune(want), ok)
				}
			}
		}
	}
}

func TestP51Invert(t *testing.T) {
	cases := []struct{ c, want api.Change }{
		{of(1, "b", "xy"), of(1, "xy", "b")},
		{of(0, "", ""), of(0, "", "")},
		{of(3, "", "x"), of(3, "x", "")},
		{of(-7, "\n", "é"), of(-7, "é", "\n")},
		{of(math.MinInt, "a", ""), of(math.MinInt, "", "a")},
		{of(math.MaxInt, "a", ""), of(math.MaxInt, "", "a")},
		{api.Change{At: 2, Cut: noChars, Put: []rune{-1}}, api.Change{At: 2, Cut: []rune{-1}, Put: noChars}},
		{of(5, strings.Repeat("a", 3000), "b"), of(5, "b", strings.Repeat("a", 3000))},
	}
	for _, c := range cases {
		if got := change.Invert(c.c); !same(got, c.want) {
			t.Errorf("Invert(%s): %s", told(c.c), told(got))
		}
		if got := change.Invert(change.Invert(c.c)); !same(got, c.c) {
			t.Errorf("Invert(%s) twice: %s", told(c.c), told(got))
		}
	}
}

func mustRow(t *testing.T, s []rune, l []api.Change, want []rune, code api.Errno) {
	t.Helper()
	if got, e := change.Row(s, l); !slices.Equal(got, want) || e != code {
		t.Errorf("Row(%.20q) of %d changes: %.20q, %d, want %.20q, %d", string(s), len(l), string(got), e, string(want), code)
	}
}

func TestP52RowWrittenOut(t *testing.T) {
	ok, no := of(0, "", "ab"), of(9, "", "")
	cases := []struct {
		s    string
		l    []api.Change
		want string
		code api.Errno
	}{
		{"z", nil, "z", api.OK},
		{"", nil, "", api.OK},
		{"z", []api.Change{}, "z", api.OK},
		{"z", []api.Change{ok}, "abz", api.OK},
		{"z", []api.Change{ok, of(1, "b", "cd"), of(0, "a", "")}, "cdz", api.OK},
		{"z", []api.Change{of(1, "b", "cd"), ok, of(0, "a", "")}, "", api.ErrForm},
		{"z", []api.Change{no}, "", api.ErrForm},
		{"z", []api.Change{no, ok}, "", api.ErrForm},
		{"z", []api.Change{ok, no}, "", api.ErrForm},
		{"z", []api.Change{ok, no, ok}, "", api.ErrForm},
		{"z", []api.Change{of(0, "z", "y"), of(0, "z", "y")}, "", api.ErrForm},
		{"z", []api.Change{of(0, "z", "y"), of(0, "y", "z"), of(0, "z", "")}, "", api.OK},
	}
	for _, c := range cases {
		mustRow(t, []rune(c.s), c.l, []rune(c.want), c.code)
	}
	// No change is asked of these, so that nothing refuses them.
	long := []rune(strings.Repeat("a", maxText+5))
	mustRow(t, long, nil, long, api.OK)
	mustRow(t, noChars, nil, noChars, api.OK)
	mustRow(t, long, []api.Change{of(0, "a", "")}, nil, api.ErrForm)
}

// shortChanges are changes of which many are not applicable to short texts.
func shortChanges() []api.Change {
	var out []api.Change
	for at := -1; at <= 3; at++ {
		for _, cut := range []string{"", "a", "b", "ab"} {
			for _, put := range []string{"", "a", "ba"} {
				out = append(out, of(at, cut, put))
			}
		}
	}
	return out
}

func modelRow(s string, l []api.Change) ([]rune, api.Errno) {
	for _, c := range l {
		next, ok := modelApply(s, c)
		if !ok {
			return nil, api.ErrForm
		}
		s = next
	}
	return []rune(s), api.OK
}

func TestP52AndP53AllShortRows(t *testing.T) {
	changes := shortChanges()
	for _, s := range upTo(3, "ab") {
		for _, first := range changes {
			for _, second := range changes {
				l := []api.Change{first, second}
				want, code := modelRow(s, l)
				mustRow(t, []rune(s), l, want, code)
				if code == api.OK {
					mustRow(t, want, change.Back(l), []rune(s), api.OK)
				}
			}
		}
	}
}

func TestP52AndP53LongRows(t *testing.T) {
	rnd := rand.New(rand.NewSource(52))
	for range 60 {
		s := strings.Repeat("ab", rnd.Intn(maxText/2+1))
		now, l := s, []api.Change(nil)
		for range 200 {
			at := rnd.Intn(len(now) + 1)
			cut := now[at : at+rnd.Intn(min(len(now)-at, 30)+1)]
			put := strings.Repeat("c", rnd.Intn(min(maxText-len(now)+len(cut), 30)+1))
			l = append(l, of(at, cut, put))
			now = now[:at] + put + now[at+len(cut):]
		}
		mustRow(t, []rune(s), l, []rune(now), api.OK)
		mustRow(t, []rune(now), change.Back(l), []rune(s), api.OK)
		l[rnd.Intn(len(l))].At = -1
		mustRow(t, []rune(s), l, nil, api.ErrForm)
	}
}

func TestP53FullText(t *testing.T) {
	full := strings.Repeat("a", maxText)
	l := []api.Change{of(0, full, ""), of(0, "", full), of(0, "a", "b"), of(1, full[1:], "")}
	mustRow(t, []rune(full), l, []rune("b"), api.OK)
	mustRow(t, []rune("b"), change.Back(l), []rune(full), api.OK)
}

func TestP52Back(t *testing.T) {
	// Back asks nothing of the changes, so that also those that are never applicable are inverted.
	l := []api.Change{of(0, "", "ab"), of(1, "b", "cd"), of(-3, "a", ""), {At: math.MaxInt, Cut: noChars}}
	want := []api.Change{{At: math.MaxInt, Put: noChars}, of(-3, "", "a"), of(1, "cd", "b"), of(0, "ab", "")}
	if got := change.Back(l); !slices.EqualFunc(got, want, same) {
		t.Errorf("Back: %v", got)
	}
	if got := change.Back(change.Back(l)); !slices.EqualFunc(got, l, same) {
		t.Errorf("Back twice: %v", got)
	}
	if len(change.Back(nil)) != 0 || len(change.Back([]api.Change{})) != 0 {
		t.Error("Back of no changes")
	}
}

// modelLeast looks for the lengths from the longest ones on, in strings of one-byte letters.
func modelLeast(s, u string) api.Change {
	at := min(len(s), len(u))
	for s[:at] != u[:at] {
		at--
	}
	s, u = s[at:], u[at:]
	tail := min(len(s), len(u))
	for s[len(s)-tail:] != u[len(u)-tail:] {
		tail--
	}
	return of(at, s[:len(s)-tail], u[:len(u)-tail])
}

func TestP52LeastWrittenOut(t *testing.T) {
	cases := []struct {
		s, u string
		want api.Change
	}{
		{"abc", "axc", of(1, "b", "x")},
		{"", "", of(0, "", "")},
		{"abc", "abc", of(3, "", "")},
		{"", "ab", of(0, "", "ab")},
		{"ab", "", of(0, "ab", "")},
		{"aa", "aaa", of(2, "", "a")},
		{"aaa", "aa", of(2, "a", "")},
		{"abab", "ab", of(2, "ab", "")},
		{"ab", "abab", of(2, "", "ab")},
		{"aba", "abcaba", of(2, "", "cab")},
		{"one two", "one three two", of(5, "", "hree t")},
		{"é\n", "è\n", of(0, "é", "è")},
		{"ab", "cd", of(0, "ab", "cd")},
	}
	for _, c := range cases {
		if got := change.Least([]rune(c.s), []rune(c.u)); !same(got, c.want) {
			t.Errorf("Least(%q, %q): %s, want %s", c.s, c.u, told(got), told(c.want))
		}
	}
	// Texts that no change may touch have a least one, too.
	long := slices.Repeat(noChars, 300)
	if got := change.Least(long, append(slices.Clone(long), -1)); !same(got, api.Change{At: len(long), Put: []rune{-1}}) {
		t.Errorf("Least of long texts that are no characters: %s", told(got))
	}
	if got := change.Least([]rune{-1, 7, -1}, []rune{-1, -1}); !same(got, api.Change{At: 1, Cut: []rune{7}}) {
		t.Errorf("Least of elements that are no characters: %s", told(got))
	}
}

func TestP52LeastAllShortTexts(t *testing.T) {
	for _, texts := range [][]string{upTo(6, "ab"), upTo(4, "abc")} {
		for _, s := range texts {
			for _, u := range texts {
				got := change.Least([]rune(s), []rune(u))
				if want := modelLeast(s, u); !same(got, want) {
					t.Fatalf("Least(%q, %q): %s, want %s", s, u, told(got), told(want))
				}
				mustApply(t, []rune(s), got, []rune(u), true)
				mustApply(t, []rune(u), change.Invert(got), []rune(s), true)
			}
		}
	}
}

// roomy is a text with spare capacity, filled with a guard.
func roomy(text string) []rune {
	s := append(make([]rune, 0, len(text)+8), []rune(text)...)
	for i := len(s); i < cap(s); i++ {
		s[:cap(s)][i] = 'G'
	}
	return s
}

// kept tells whether a text of roomy is as it was made.
func kept(s []rune, text string) bool {
	return string(s) == text && string(s[:cap(s)][len(s):]) == strings.Repeat("G", cap(s)-len(s))
}

// scribble overwrites a result up to its capacity.
func scribble(lists ...[]rune) {
	for _, s := range lists {
		for i := range s[:cap(s)] {
			s[:cap(s)][i] = '#'
		}
	}
}

// TestP51AndP52OwnMemory is rule R4: no argument is written to, and no two lists share memory.
func TestP51AndP52OwnMemory(t *testing.T) {
	for _, at := range []int{0, 1, 2, 3} {
		for _, cut := range []string{"", "abc"[at:]} {
			for _, put := range []string{"", "xy"} {
				s := roomy("abc")
				c := api.Change{At: at, Cut: roomy(cut), Put: roomy(put)}
				l := append(make([]api.Change, 0, 4), c)
				applied, _ := change.Apply(s, c)
				row, _ := change.Row(s, l)
				none, _ := change.Row(s, nil)
				inverse, back := change.Invert(c), change.Back(l)
				least := change.Least(s, c.Put)
				scribble(applied, row, none, inverse.Cut, back[0].Cut, least.Cut)
				if string(inverse.Put) != cut || string(back[0].Put) != cut || string(least.Put) != put {
					t.Errorf("at %d, %q to %q: two lists of a result share memory", at, cut, put)
				}
				scribble(inverse.Put, back[0].Put, least.Put)
				if !kept(s, "abc") || !kept(c.Cut, cut) || !kept(c.Put, put) || l[:2][1].At != 0 || l[:2][1].Cut != nil {
					t.Errorf("at %d, %q to %q: an argument has changed", at, cut, put)
				}
			}
		}
	}
}

// TestP51AndP52NilAndEmpty is rule R3.
func TestP51AndP52NilAndEmpty(t *testing.T) {
	for _, none := range [][]rune{nil, {}, make([]rune, 0, 5)} {
		mustApply(t, none, api.Change{Cut: none, Put: none}, nil, true)
		mustApply(t, []rune("a"), api.Change{At: 1, Cut: none, Put: none}, []rune("a"), true)
		mustApply(t, none, api.Change{At: 1, Cut: none, Put: none}, nil, false)
		mustRow(t, none, []api.Change{{Cut: none, Put: []rune("b")}}, []rune("b"), api.OK)
		if got := change.Least(none, nil); !same(got, api.Change{}) {
			t.Errorf("Least of nothing: %s", told(got))
		}
	}
}
