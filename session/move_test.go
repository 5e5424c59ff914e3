package session_test

import (
	"fmt"
	"math"
	"slices"
	"strings"
	"testing"

	"standish/api"
	"standish/session"
)

// activate makes the field with an index active. It must be a home.
func activate(t *testing.T, x *session.Session, at int) {
	t.Helper()
	for x.Prev() {
	}
	for x.Active() != at {
		if !x.Next() {
			t.Fatalf("field %d is no home", at)
		}
	}
}

// TestP192Holds holds Holds to its words, for changes in, at and around the active field; what they cut and put does not matter.
func TestP192Holds(t *testing.T) {
	for _, w := range []struct {
		s        string
		at       int
		body     string
		from, to int
	}{{"", 0, "$1", 0, 0}, {"", 0, "${1:abc}", 0, 3}, {"xyz", 3, "${1:abc}", 3, 6}, {"xy", 1, "a${2:b${1:cd}e}", 3, 5}, {"xy", 1, "a${2:b}${1:c${3:de}f}$1", 3, 7}, {"xyz", 2, "ab$0c", 4, 4}} {
		x, _ := open(t, w.s, w.at, 0, w.body)
		before := told(x)
		for at := -3; at <= 12; at++ {
			for cut := range 12 {
				for _, put := range []string{"", "abc"} {
					c := api.Change{At: at, Cut: make([]rune, cut), Put: []rune(put)}
					want := at >= w.from && at+cut <= w.to
					if got := x.Holds(c); got != want {
						t.Errorf("%q holds %d cut at %d: %v", w.body, cut, at, got)
					}
					y := x.Copy()
					if got := y.Move(c); got != want {
						t.Errorf("%q moves by %d cut at %d: %v", w.body, cut, at, got)
					}
					if !want && told(y) != before {
						t.Errorf("%q is changed by a Move that it does not hold: %s", w.body, told(y))
					}
				}
			}
		}
		mustBe(t, w.body, x, before)
	}
}

// TestP192HoldsFar is Holds for indices from which a sum overflows.
func TestP192HoldsFar(t *testing.T) {
	x, _ := open(t, "xy", 1, 0, "${1:abc}$1")
	before := told(x)
	for _, at := range []int{math.MinInt, math.MinInt + 1, math.MinInt + 4, -1 << 32, 1 << 32, 1<<32 + 1, 1<<40 + 1, math.MaxInt - 2, math.MaxInt - 1, math.MaxInt} {
		for _, cut := range []int{0, 1, 2, 3, 4, 100} {
			c := api.Change{At: at, Cut: make([]rune, cut), Put: []rune("q")}
			if x.Holds(c) || x.Move(c) {
				t.Errorf("%d cut at %d", cut, at)
			}
		}
	}
	mustBe(t, "a session", x, before)
}

// TestP192Moved is Move with all that becomes of the fields, written out.
func TestP192Moved(t *testing.T) {
	for _, w := range []struct {
		body   string
		active int
		c      api.Change
		want   string
	}{
		// the spans
		{"${1:abc}", 0, of(1, "b", "xyz"), "P1:0-5=0* P0:5-5=1 (0-5)"},
		{"${1:abc}", 0, of(0, "abc", ""), "P1:0-0=0* P0:0-0=1 (0-0)"},
		{"${1:abc}", 0, of(0, "", "x"), "P1:0-4=0* P0:4-4=1 (0-4)"},
		{"${1:abc}", 0, of(3, "", "x"), "P1:0-4=0* P0:4-4=1 (0-4)"},
		{"a$1b", 0, of(1, "", "xy"), "P1:1-3=0* P0:4-4=1 (0-4)"},
		{"$1$2$3", 0, of(0, "", "x"), "P1:0-1=0* P2:1-1=1 P3:1-1=2 P0:1-1=3 (0-1)"},
		{"$1$2$3", 1, of(0, "", "x"), "P1:0-0=0 P2:0-1=1* P3:1-1=2 P0:1-1=3 (0-1)"},
		{"$1$2$3", 2, of(0, "", "x"), "P1:0-0=0 P2:0-0=1 P3:0-1=2* P0:1-1=3 (0-1)"},
		{"$1$2$3", 3, of(0, "", "x"), "P1:0-0=0 P2:0-0=1 P3:0-0=2 P0:0-1=3* (0-1)"},
		{"${1:a}${2:b}${3:c}", 1, of(1, "", "x"), "P1:0-1=0 P2:1-3=1* P3:3-4=2 P0:4-4=3 (0-4)"},
		{"${1:a}${2:b}${3:c}", 1, of(2, "", "x"), "P1:0-1=0 P2:1-3=1* P3:3-4=2 P0:4-4=3 (0-4)"},
		{"${1:a}${2:b}${3:c}", 1, of(1, "b", ""), "P1:0-1=0 P2:1-1=1* P3:1-2=2 P0:2-2=3 (0-2)"},
		{"$1${1/a/b/}$1", 0, of(0, "", "xa"), "P1:0-2=0* F1:2-2=0/a/b/falsefalsetrue M1:2-2=0 P0:2-2=3 (0-2)"},
		// the fields around the active one
		{"${1:${2:$3}}", 2, of(0, "", "x"), "P1:0-1=0 P2:0-1=1^0 P3:0-1=2^1* P0:1-1=3 (0-1)"},
		{"${1:$2$3$4}", 2, of(0, "", "x"), "P1:0-1=0 P2:0-0=1^0 P3:0-1=2^0* P4:1-1=3^0 P0:1-1=4 (0-1)"},
		{"${1:a${2:b}c}$2", 1, of(2, "", "x"), "P1:0-4=0 P2:1-3=1^0* M2:4-5=1 P0:5-5=3 (0-5)"},
		{"$3${1:$2$4}$5", 3, of(0, "", "x"), "P3:0-0=0 P1:0-1=1 P2:0-0=2^1 P4:0-1=3^1* P5:1-1=4 P0:1-1=5 (0-1)"},
		{"${3:$4}${1:${2:a}$5}", 3, of(0, "a", "x"), "P3:0-0=0 P4:0-0=1^0 P1:0-1=2 P2:0-1=3^2* P5:1-1=4^2 P0:1-1=5 (0-1)"},
		// the fields inside of it
		{"${1:a${2:b}c}", 0, of(3, "", ""), "P1:0-3=0* P0:3-3=1 (0-3)"},
		{"${1:a${2:b${3:c}}}$3", 0, of(0, "a", ""), "P1:0-2=0* P0:3-3=1 (0-3)"},
		{"${1:a${2:b${3:c}}}$3", 1, of(1, "b", ""), "P1:0-2=0 P2:1-2=1^0* P0:3-3=2 (0-3)"},
		{"${1:a${2:b${3:c}}}$3", 2, of(2, "c", ""), "P1:0-2=0 P2:1-2=1^0 P3:2-2=2^1* M3:2-3=2 P0:3-3=4 (0-3)"},
		{"${1:a$0b}", 0, of(2, "", "x"), "P1:0-3=0* (0-3)"},
		{"${1:$2}${2:a}", 0, of(0, "", "x"), "P1:0-2=0* P2:2-3=1 P0:3-3=2 (0-3)"},
		{"${1:${4/a/b/}$5}$4", 0, of(0, "", "x"), "P1:0-1=0* P4:1-1=1 P0:1-1=2 (0-1)"},
		// the mirrors of what is inside of it, on both sides and in another home
		{"$2-${1:x${2:y}}", 1, of(4, "", "q"), "P1:2-5=0* P0:5-5=1 (0-5)"},
		{"$2${3:a$2}${1:x${2:y}}$2${2/y/z/}", 3, of(3, "xy", ""), "P3:1-3=0 P1:3-3=1* P0:5-5=2 (0-5)"},
		{"$4$2${1:${2:y}}$4$2", 2, of(1, "y", "yy"), "P4:0-0=0 P1:1-3=1* M4:3-3=0 P0:4-4=3 (0-4)"},
		{"$3$2${3:a}${1:${2:y}}$3", 3, of(3, "y", ""), "M3:0-1=1 P3:2-3=1 P1:3-3=2* M3:3-4=1 P0:4-4=4 (0-4)"},
		{"$2${5:${4:$2b}$6}${1:x${2:y}}$6$4", 5, of(3, "x", ""), "P5:1-3=0 P4:1-3=1^0 P6:3-3=2^0 P1:3-4=3* M6:4-4=2 M4:4-6=1 P0:6-6=6 (0-6)"},
		{"$2${5:${4:$3}$6}${1:x${2:y}${3|z,|}}$6$4", 5, of(2, "x", ""), "P5:1-2=0 P4:1-2=1^0 P6:2-2=2^0 P1:2-4=3* M6:4-4=2 M4:4-5=1 P0:5-5=6 (0-5)"},
	} {
		x, _ := open(t, "", 0, 0, w.body)
		activate(t, x, w.active)
		if !x.Move(w.c) {
			t.Errorf("%q does not move", w.body)
		}
		mustBe(t, w.body, x, w.want)
	}
}

// TestP192Kept is that a field that is kept keeps what else it has.
func TestP192Kept(t *testing.T) {
	x, _, code := session.Open(nil, 0, 0, []rune("${1:$2$3}${4|a,b|}${1/x/y/gi}${4/^/${1:+z}/}"), ordinary(), 12)
	if code != api.OK || !x.Move(of(0, "", "")) {
		t.Fatal(code)
	}
	mustBe(t, "a session", x, "P1:0-0=0* C4:0-1=1|a|b F1:1-1=0/x/y/truetruetrue F4:1-2=1/^/${1:+z}/falsefalsetrue P0:2-2=4 (0-2) used 12")
}

// TestP192Change is that Move and Shift neither change nor keep their argument.
func TestP192Change(t *testing.T) {
	for _, shift := range []bool{false, true} {
		x, _ := open(t, "", 0, 0, "${1:abc}$1")
		c := api.Change{At: 1, Cut: []rune{'?', -1}[:1], Put: []rune{'x', 'y', -1}[:2]}
		before := fmt.Sprint(c, c.Cut[:2], c.Put[:3])
		want := "P1:0-4=0* M1:4-7=0 P0:7-7=2 (0-7)"
		if shift {
			x.Shift(c, true)
		} else if !x.Move(c) {
			t.Fatal("Move")
		}
		if fmt.Sprint(c, c.Cut[:2], c.Put[:3]) != before {
			t.Errorf("%v, before: %s", c, before)
		}
		spoilTexts(c.Cut, c.Put)
		mustBe(t, "a session", x, want)
	}
}

// place is P6.1, by a text in which a bar stands at the position.
func place(at int, c api.Change, right bool) int {
	n, m := len(c.Cut), len(c.Put)
	ahead := strings.Repeat("a", c.At)
	for i := range n {
		ahead += string(rune('0' + i))
	}
	ahead += strings.Repeat("b", max(0, at-c.At-n))
	bar := ahead[:at] + "|" + ahead[at:]
	cut := bar[c.At : c.At+n]
	switch {
	case n == 0 && at == c.At && right, strings.Contains(cut, "|") && at != c.At && right:
		return c.At + m
	case n == 0 && at == c.At, strings.Contains(cut, "|") && at != c.At:
		return c.At
	case at <= c.At:
		return at
	}
	return at + m - n
}

// TestP192Shift holds Shift to place for all short changes.
func TestP192Shift(t *testing.T) {
	x, _ := open(t, "xxx", 2, 0, "a${1:b${2:cd}}$1${3:}$4e$2")
	x.Next()
	for at := range 14 {
		for cut := range 6 {
			for put := range 4 {
				for _, right := range []bool{false, true} {
					c := api.Change{At: at, Cut: make([]rune, cut), Put: make([]rune, put)}
					y := x.Copy()
					y.Shift(c, right)
					fields := y.Fields()
					for i, f := range x.Fields() {
						f.From, f.To = place(f.From, c, right), place(f.To, c, right)
						if toldField(f) != toldField(fields[i]) {
							t.Errorf("%d by %d at %d, %v: field %d: %s, want %s", cut, put, at, right, i, toldField(fields[i]), toldField(f))
						}
					}
					want := api.Span{From: place(2, c, right), To: place(x.Span().To, c, right)}
					if y.Span() != want || y.Active() != 1 || len(fields) != len(x.Fields()) {
						t.Errorf("%d by %d at %d, %v: %s", cut, put, at, right, told(y))
					}
				}
			}
		}
	}
}

// TestP192ShiftFar is that a change that is nowhere shifts nothing, and one that is far behind neither.
func TestP192ShiftFar(t *testing.T) {
	x, _ := open(t, "", 0, 0, "${1:a}$1")
	before := told(x)
	for _, at := range []int{math.MinInt, -1 << 40, -2, -1, 3, 1000, 1 << 40, 1<<40 + 1, math.MaxInt - 1, math.MaxInt} {
		for _, cut := range []int{0, 1, 5, 2000} {
			for _, right := range []bool{false, true} {
				x.Shift(api.Change{At: at, Cut: make([]rune, cut), Put: []rune("abc")}, right)
			}
		}
	}
	mustBe(t, "a session", x, before)
	x.Shift(api.Change{At: 0, Put: slices.Repeat([]rune{'a'}, 5000000)}, true)
	mustBe(t, "far away", x, "P1:5000000-5000001=0* M1:5000001-5000002=0 P0:5000002-5000002=2 (5000000-5000002)")
	x.Shift(api.Change{At: 0, Cut: slices.Repeat([]rune{'a'}, 4999990)}, false)
	mustBe(t, "and back", x, "P1:10-11=0* M1:11-12=0 P0:12-12=2 (10-12)")
}

// TestP192ShiftRight is what right decides: where a session goes that stands where something is put, or in what is cut.
func TestP192ShiftRight(t *testing.T) {
	for _, w := range []struct {
		c           api.Change
		left, right string
	}{
		{of(0, "", "q"), "P1:3-4=0* P0:5-5=1 (3-5)", "P1:3-4=0* P0:5-5=1 (3-5)"},
		{of(2, "", "q"), "P1:2-4=0* P0:5-5=1 (2-5)", "P1:3-4=0* P0:5-5=1 (3-5)"},
		{of(3, "", "q"), "P1:2-3=0* P0:5-5=1 (2-5)", "P1:2-4=0* P0:5-5=1 (2-5)"},
		{of(4, "", "q"), "P1:2-3=0* P0:4-4=1 (2-4)", "P1:2-3=0* P0:5-5=1 (2-5)"},
		{of(5, "", "q"), "P1:2-3=0* P0:4-4=1 (2-4)", "P1:2-3=0* P0:4-4=1 (2-4)"},
		{of(1, "xab", "q"), "P1:1-1=0* P0:2-2=1 (1-2)", "P1:2-2=0* P0:2-2=1 (2-2)"},
		{of(1, "xabx", "qr"), "P1:1-1=0* P0:1-1=1 (1-1)", "P1:3-3=0* P0:3-3=1 (3-3)"},
		{of(2, "ab", "qrs"), "P1:2-2=0* P0:5-5=1 (2-5)", "P1:2-5=0* P0:5-5=1 (2-5)"},
		{of(3, "", ""), "P1:2-3=0* P0:4-4=1 (2-4)", "P1:2-3=0* P0:4-4=1 (2-4)"},
	} {
		for _, right := range []bool{false, true} {
			x, _ := open(t, "xxxx", 2, 0, "${1:a}b")
			x.Shift(w.c, right)
			mustBe(t, fmt.Sprintf("%d %q %q %v", w.c.At, string(w.c.Cut), string(w.c.Put), right), x, map[bool]string{false: w.left, true: w.right}[right])
		}
	}
}
