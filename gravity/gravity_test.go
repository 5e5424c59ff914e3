package gravity_test

import (
	"fmt"
	"math"
	"math/rand"
	"slices"
	"strings"
	"testing"

	"standish/api"
	"standish/change"
	"standish/gravity"
)

func ExamplePlace() {
	c := api.Change{At: 3, Put: []rune("xy")}
	fmt.Println(gravity.Place(3, c, false), gravity.Place(3, c, true))
	// Output:
	// 3 5
}

func ExampleSpan() {
	c := api.Change{At: 3, Put: []rune("xy")}
	fmt.Println(gravity.Span(api.Span{From: 3, To: 3}, c, gravity.Grows))
	// Output:
	// {3 5}
}

// farthest is the greatest index that moves, as the chapter says.
const farthest = 1 << 40

// hows are the ways of a span, with what they ask of Place for From and for To.
var hows = []struct {
	how      int
	from, to bool
}{
	{gravity.Grows, false, true},
	{gravity.Ahead, false, false},
	{gravity.Behind, true, true},
}

// noHows are numbers that are no way of a span; some of them would be one if an int had fewer bits.
var noHows = []int{-1, -2, -3, 3, 4, 255, 256, 257, 258, 1 << 32, 1<<32 + 1, 1<<32 + 2, math.MinInt, math.MaxInt}

// notIn are indices outside of those that move.
var notIn = []int{-1, -2, math.MinInt32, -farthest, math.MinInt, math.MinInt + 1, farthest + 1, farthest + 2, 1 << 41, math.MaxInt - 1, math.MaxInt}

// of is a change that cuts n elements and puts m.
func of(at, n, m int) api.Change {
	return api.Change{At: at, Cut: []rune(strings.Repeat("c", n)), Put: []rune(strings.Repeat("p", m))}
}

// told tells a change without its elements.
func told(c api.Change) string {
	return fmt.Sprintf("{at %d, %d out, %d in}", c.At, len(c.Cut), len(c.Put))
}

func mustPlace(t *testing.T, at int, c api.Change, left, right int) {
	t.Helper()
	if got := gravity.Place(at, c, false); got != left {
		t.Errorf("Place(%d, %s, false): %d, want %d", at, told(c), got, left)
	}
	if got := gravity.Place(at, c, true); got != right {
		t.Errorf("Place(%d, %s, true): %d, want %d", at, told(c), got, right)
	}
}

func mustSpan(t *testing.T, f api.Span, c api.Change, grows, ahead, behind api.Span) {
	t.Helper()
	for how, want := range []api.Span{grows, ahead, behind} {
		if got := gravity.Span(f, c, how); got != want {
			t.Errorf("Span(%v, %s, %d): %v, want %v", f, told(c), how, got, want)
		}
	}
	for _, how := range noHows {
		if got := gravity.Span(f, c, how); got != f {
			t.Errorf("Span(%v, %s, %d): %v", f, told(c), how, got)
		}
	}
}

func TestP61PlaceWrittenOut(t *testing.T) {
	cases := []struct {
		at          int
		c           api.Change
		left, right int
	}{
		{3, of(3, 0, 2), 3, 5}, // nothing removed: right decides at the place of the insertion only
		{2, of(3, 0, 2), 2, 2},
		{4, of(3, 0, 2), 6, 6},
		{0, of(0, 0, 1), 0, 1},
		{1, of(3, 2, 4), 1, 1}, // something replaced: right decides inside only
		{2, of(3, 2, 4), 2, 2},
		{3, of(3, 2, 4), 3, 3},
		{4, of(3, 2, 4), 3, 7},
		{5, of(3, 2, 4), 7, 7},
		{6, of(3, 2, 4), 8, 8},
		{3, of(3, 1, 1), 3, 3}, // one element has no inside
		{4, of(3, 1, 1), 4, 4},
		{0, of(0, 3, 0), 0, 0}, // something removed: all of it comes to one place
		{1, of(0, 3, 0), 0, 0},
		{2, of(0, 3, 0), 0, 0},
		{3, of(0, 3, 0), 0, 0},
		{4, of(0, 3, 0), 1, 1},
		{5, of(2, 6, 1), 2, 3}, // more removed than put
		{8, of(2, 6, 1), 3, 3},
		{3000, of(0, 5000, 1), 0, 1}, // more than a text can have
		{5000, of(0, 5000, 1), 1, 1},
		{7000, of(0, 5000, 2000), 4000, 4000},
	}
	for _, c := range cases {
		mustPlace(t, c.at, c.c, c.left, c.right)
	}
}

// modelPlace moves a bar that stands in the text itself, and looks where it stands afterwards.
func modelPlace(text string, at, a, n, m int, right bool) int {
	put := strings.Repeat("p", m)
	swallowed := n > 0 && at > a && at < a+n || n == 0 && at == a
	switch {
	case swallowed && right:
		put += "|"
	case swallowed:
		put = "|" + put
	case at <= a:
		text = text[:at] + "|" + text[at:]
		a++
	default:
		text = text[:at] + "|" + text[at:]
	}
	return strings.Index(text[:a]+put+text[a+n:], "|")
}

func TestP61AllShortChanges(t *testing.T) {
	const length = 7
	text := strings.Repeat("t", length)
	for a := range length + 1 {
		for n := range length - a + 1 {
			for m := range 5 {
				for at := range length + 1 {
					left := modelPlace(text, at, a, n, m, false)
					right := modelPlace(text, at, a, n, m, true)
					mustPlace(t, at, of(a, n, m), left, right)
				}
			}
		}
	}
}

// TestP61NothingChanged is the chapter's example 1.
func TestP61NothingChanged(t *testing.T) {
	for _, a := range []int{0, 1, 5, 1000, farthest} {
		for _, at := range []int{0, 1, 2, 4, 5, 6, 999, 1000, 1001, farthest - 1, farthest} {
			mustPlace(t, at, of(a, 0, 0), at, at)
		}
	}
}

// TestP61AndP62Bounds is what stands at the least and at the greatest index that move.
func TestP61AndP62Bounds(t *testing.T) {
	cases := []struct {
		at          int
		c           api.Change
		left, right int
	}{
		{farthest, of(0, 0, 5), farthest + 5, farthest + 5},
		{farthest, of(0, 5, 0), farthest - 5, farthest - 5},
		{farthest, of(farthest, 0, 2), farthest, farthest + 2},
		{farthest - 1, of(farthest, 0, 2), farthest - 1, farthest - 1},
		{farthest, of(farthest, 3, 2), farthest, farthest},
		{farthest, of(farthest-1, 3, 7), farthest - 1, farthest + 6},
		{farthest, of(farthest-3, 3, 7), farthest + 4, farthest + 4},
		{0, of(farthest, 3, 2), 0, 0},
		{0, of(0, 0, 2), 0, 2},
		{0, of(0, 1, 2), 0, 0},
	}
	for _, c := range cases {
		mustPlace(t, c.at, c.c, c.left, c.right)
		f := api.Span{From: c.at, To: c.at}
		mustSpan(t, f, c.c, api.Span{From: c.left, To: c.right}, api.Span{From: c.left, To: c.left}, api.Span{From: c.right, To: c.right})
	}
}

// TestP61AndP62NotInBounds is that a single index out of bounds leaves a position, or a whole span, where it is.
func TestP61AndP62NotInBounds(t *testing.T) {
	changes := []api.Change{of(0, 0, 5), of(0, 2, 5), of(0, 9, 0), of(3, 1, 4), of(farthest, 0, 5), of(farthest-1, 3, 0)}
	for _, out := range notIn {
		for _, c := range changes {
			mustPlace(t, out, c, out, out)
			for _, in := range []int{0, 1, 5, 50, farthest - 1, farthest} {
				for _, f := range []api.Span{{From: out, To: in}, {From: in, To: out}, {From: out, To: out}} {
					mustSpan(t, f, c, f, f, f)
				}
			}
		}
		for _, in := range []int{0, 1, 2, 5, farthest - 1, farthest} {
			for _, c := range []api.Change{of(out, 0, 5), of(out, 2, 0), of(out, 3, 1)} {
				mustPlace(t, in, c, in, in)
				mustPlace(t, out, c, out, out)
				f := api.Span{From: in, To: farthest}
				mustSpan(t, f, c, f, f, f)
			}
		}
	}
}

func TestP62Constants(t *testing.T) {
	const grows, ahead, behind = gravity.Grows, gravity.Ahead, gravity.Behind
	if grows != 0 || ahead != 1 || behind != 2 {
		t.Errorf("Grows, Ahead, Behind: %d, %d, %d", grows, ahead, behind)
	}
}

func TestP62SpanWrittenOut(t *testing.T) {
	span := func(from, to int) api.Span { return api.Span{From: from, To: to} }
	cases := []struct {
		f                    api.Span
		c                    api.Change
		grows, ahead, behind api.Span
	}{
		{span(3, 3), of(3, 0, 2), span(3, 5), span(3, 3), span(5, 5)}, // the chapter's example 2
		{span(3, 5), of(3, 0, 2), span(3, 7), span(3, 7), span(5, 7)}, // inserted at the first edge
		{span(3, 5), of(4, 0, 2), span(3, 7), span(3, 7), span(3, 7)}, // in the middle
		{span(3, 5), of(5, 0, 2), span(3, 7), span(3, 5), span(3, 7)}, // at the last edge
		{span(3, 5), of(2, 0, 2), span(5, 7), span(5, 7), span(5, 7)}, // before it
		{span(3, 5), of(6, 0, 2), span(3, 5), span(3, 5), span(3, 5)}, // after it
		{span(3, 5), of(3, 2, 1), span(3, 4), span(3, 4), span(3, 4)}, // all of it
		{span(3, 5), of(2, 4, 1), span(2, 3), span(2, 2), span(3, 3)}, // more than it
		{span(4, 8), of(3, 3, 1), span(3, 6), span(3, 6), span(4, 6)}, // its first part
		{span(4, 8), of(7, 3, 1), span(4, 8), span(4, 7), span(4, 8)}, // its last part
		{span(4, 8), of(5, 2, 0), span(4, 6), span(4, 6), span(4, 6)}, // its inside
		{span(5, 2), of(3, 0, 2), span(7, 2), span(7, 2), span(7, 2)}, // ends that are the wrong way round
		{span(5, 3), of(3, 0, 2), span(7, 5), span(7, 3), span(7, 5)},
	}
	for _, c := range cases {
		mustSpan(t, c.f, c.c, c.grows, c.ahead, c.behind)
	}
}

func TestP62AllShortSpans(t *testing.T) {
	const length = 6
	text := strings.Repeat("t", length)
	for a := range length + 1 {
		for n := range length - a + 1 {
			for m := range 4 {
				for from := range length + 1 {
					for to := range length + 1 {
						f, c := api.Span{From: from, To: to}, of(a, n, m)
						for _, h := range hows {
							want := api.Span{From: modelPlace(text, from, a, n, m, h.from), To: modelPlace(text, to, a, n, m, h.to)}
							if got := gravity.Span(f, c, h.how); got != want {
								t.Errorf("Span(%v, %s, %d): %v, want %v", f, told(c), h.how, got, want)
							}
						}
					}
				}
			}
		}
	}
}

// mustReturn holds P6.3 of a position, with every choice of right.
func mustReturn(t *testing.T, at int, c api.Change) {
	t.Helper()
	back := change.Invert(c)
	for _, first := range []bool{false, true} {
		for _, second := range []bool{false, true} {
			if got := gravity.Place(gravity.Place(at, c, first), back, second); got != at {
				t.Errorf("Place(%d, %s, %t), and back with %t: %d", at, told(c), first, second, got)
			}
		}
	}
}

func TestP63AllShortChanges(t *testing.T) {
	for a := range 8 {
		for n := range 5 {
			for m := range 5 {
				for at := range 15 {
					if at < a || at > a+n {
						mustReturn(t, at, of(a, n, m))
					}
				}
			}
		}
	}
}

func TestP63LongChanges(t *testing.T) {
	rnd := rand.New(rand.NewSource(63))
	for range 3000 {
		c := of(rnd.Intn(3000), rnd.Intn(3000), rnd.Intn(3000))
		after := c.At + len(c.Cut) + 1 + rnd.Intn(3000)
		mustReturn(t, after, c)
		mustReturn(t, farthest-3000-rnd.Intn(3000), c)
		if c.At > 0 {
			mustReturn(t, rnd.Intn(c.At), c)
		}
	}
}

// TestP61AndP62Elements is that only the numbers of elements count, be they characters or not, and nil or empty.
func TestP61AndP62Elements(t *testing.T) {
	noChars := []rune{-1, math.MinInt32, 0xd800, 0xdfff, 0x110000, math.MaxInt32}
	mustPlace(t, 9, api.Change{At: 1, Cut: noChars, Put: noChars[:2]}, 5, 5)
	mustPlace(t, 4, api.Change{At: 1, Cut: noChars, Put: noChars[:2]}, 1, 3)
	for _, none := range [][]rune{nil, {}, make([]rune, 0, 5)} {
		mustPlace(t, 3, api.Change{At: 3, Cut: none, Put: []rune("xy")}, 3, 5)
		mustPlace(t, 4, api.Change{At: 3, Cut: []rune("xy"), Put: none}, 3, 3)
		mustPlace(t, 5, api.Change{At: 3, Cut: none, Put: none}, 5, 5)
	}
}

// TestP61AndP62ArgumentsStay is rule R4: no call writes to a change or to what stands behind its elements.
func TestP61AndP62ArgumentsStay(t *testing.T) {
	cut, put := []rune("cutGGG"), []rune("putGGGG")
	c := api.Change{At: 2, Cut: cut[:3], Put: put[:3]}
	for at := range 9 {
		for _, right := range []bool{false, true} {
			gravity.Place(at, c, right)
		}
		for how := range 4 {
			gravity.Span(api.Span{From: at, To: 9 - at}, c, how)
		}
	}
	if !slices.Equal(cut, []rune("cutGGG")) || !slices.Equal(put, []rune("putGGGG")) || c.At != 2 || len(c.Cut) != 3 || len(c.Put) != 3 {
		t.Errorf("a change became %d, %q, %q", c.At, string(cut), string(put))
	}
}
