package rematch_test

import (
	"fmt"
	"math/rand"
	"slices"
	"strings"
	"testing"

	"standish/api"
	"standish/rematch"
)

// A walk goes through a text from an index on, by all its ways one after the other, until next has a result at the end of one: this one. Nil is none. Walks know nothing of programs, and nothing of what was reached; only a round of a loop that goes no further is given up.
type walk func(text []rune, at int, recorded []int, next then) []int

type then func(at int, recorded []int) []int

// element goes over an element of some kind.
func element(in func(r rune) bool) walk {
	return func(text []rune, at int, recorded []int, next then) []int {
		if at < len(text) && in(text[at]) {
			return next(at+1, recorded)
		}
		return nil
	}
}

// stands goes on if the index is the right one.
func stands(right func(text []rune, at int) bool) walk {
	return func(text []rune, at int, recorded []int, next then) []int {
		if right(text, at) {
			return next(at, recorded)
		}
		return nil
	}
}

// both goes through a, then b.
func both(a, b walk) walk {
	return func(text []rune, at int, recorded []int, next then) []int {
		return a(text, at, recorded, func(at int, recorded []int) []int { return b(text, at, recorded, next) })
	}
}

// either goes through a, or else b.
func either(a, b walk) walk {
	return func(text []rune, at int, recorded []int, next then) []int {
		if done := a(text, at, recorded, next); done != nil {
			return done
		}
		return b(text, at, recorded, next)
	}
}

// saved goes on with the index recorded for x.
func saved(x int) walk {
	return func(text []rune, at int, recorded []int, next then) []int {
		recorded = slices.Clone(recorded)
		recorded[x] = at
		return next(at, recorded)
	}
}

// nothing goes on at once.
func nothing(text []rune, at int, recorded []int, next then) []int { return next(at, recorded) }

// repeated goes through w from low to high times; a high of -1 is no bound.
func repeated(w walk, low, high int, lazy bool) walk {
	switch {
	case high == 0:
		return nothing
	case low > 0:
		return both(w, repeated(w, low-1, max(high-1, -1), lazy))
	}
	return func(text []rune, at int, recorded []int, next then) []int {
		more := both(w, func(text []rune, to int, recorded []int, next then) []int {
			if high < 0 && to == at {
				return nil
			}
			return repeated(w, 0, max(high-1, -1), lazy)(text, to, recorded, next)
		})
		if lazy {
			return either(nothing, more)(text, at, recorded, next)
		}
		return either(more, nothing)(text, at, recorded, next)
	}
}

// A part is a part of a pattern, and how to walk through it.
type part struct {
	text   string
	walk   walk
	empty  bool // there are ways through it that go no further
	circle bool // a loop in it has rounds that go no further, so that the ways through it may differ from those of the program
}

// A maker makes patterns.
type maker struct {
	*rand.Rand
	groups int
}

func (m *maker) pattern(nest int) part {
	all := m.row(nest)
	for range max(0, m.Intn(6)-3) {
		p := m.row(nest)
		all = part{all.text + "|" + p.text, either(all.walk, p.walk), all.empty || p.empty, all.circle || p.circle}
	}
	return all
}

func (m *maker) row(nest int) part {
	all := part{"", nothing, true, false}
	for range m.Intn(5) {
		p := m.item(nest)
		all = part{all.text + p.text, both(all.walk, p.walk), all.empty && p.empty, all.circle || p.circle}
	}
	return all
}

func (m *maker) item(nest int) part {
	low, high := m.Intn(3), m.Intn(4)
	low, high = min(low, high), max(low, high)
	repeat := fmt.Sprintf("{%d,%d}", low, high)
	switch m.Intn(12) {
	case 0:
		return part{"^", stands(func(_ []rune, at int) bool { return at == 0 }), true, false}
	case 1:
		return part{"$", stands(func(text []rune, at int) bool { return at == len(text) }), true, false}
	case 2:
		high, repeat = low, fmt.Sprintf("{%d}", low)
	case 3:
		high, repeat = -1, fmt.Sprintf("{%d,}", low)
	case 4:
		low, high, repeat = 0, -1, "*"
	case 5:
		low, high, repeat = 1, -1, "+"
	case 6:
		low, high, repeat = 0, 1, "?"
	case 7:
	default:
		return m.atom(nest)
	}
	p := m.atom(nest)
	lazy := m.Intn(2) == 0
	if lazy {
		repeat += "?"
	}
	return part{p.text + repeat, repeated(p.walk, low, high, lazy), p.empty || low == 0, p.circle || high < 0 && p.empty}
}

func (m *maker) atom(nest int) part {
	switch kind := m.Intn(5); {
	case kind == 0 && nest < 12 && m.groups < 9:
		m.groups++
		number := m.groups
		p := m.pattern(nest + 1)
		return part{"(" + p.text + ")", both(saved(2*number), both(p.walk, saved(2*number+1))), p.empty, p.circle}
	case kind == 1 && nest < 12:
		p := m.pattern(nest + 1)
		return part{"(?:" + p.text + ")", p.walk, p.empty, p.circle}
	}
	plain := []struct {
		text string
		in   func(r rune) bool
	}{
		{"a", func(r rune) bool { return r == 'a' }},
		{"b", func(r rune) bool { return r == 'b' }},
		{".", func(r rune) bool { return r != '\n' }},
		{"[ab]", func(r rune) bool { return r == 'a' || r == 'b' }},
		{"[^b]", func(r rune) bool { return r != 'b' }},
		{"\\w", func(r rune) bool { return r != '\n' }}, // of the elements of the texts
	}
	pick := plain[m.Intn(len(plain))]
	return part{pick.text, element(pick.in), false, false}
}

// first is what the first try records that reaches the end; nil is none.
func (p part) first(text []rune, groups, from int) []int {
	blank := make([]int, 2*groups+2)
	for x := range blank {
		blank[x] = -1
	}
	whole := both(saved(0), both(p.walk, saved(1)))
	for at := from; at <= len(text); at++ {
		if done := whole(text, at, blank, func(_ int, recorded []int) []int { return recorded }); done != nil {
			return done
		}
	}
	return nil
}

// TestP102AndP104AnyPattern holds patterns that are made together with walks through them to these: what is recorded if no loop goes round in place, and in any case where the match begins.
func TestP102AndP104AnyPattern(t *testing.T) {
	rnd := rand.New(rand.NewSource(10))
	plain, circles, misses := 0, 0, 0
	for range 20000 {
		maker := &maker{Rand: rnd}
		p := maker.pattern(0)
		m, f := rematch.New([]rune(p.text), false)
		if f.Code != api.OK {
			continue
		}
		var text []rune
		for range rnd.Intn(7) {
			text = append(text, rune("aabbc\n"[rnd.Intn(6)]))
		}
		for from := range len(text) + 1 {
			want := p.first(text, maker.groups, from)
			got, ok := m.Find(text, from)
			switch {
			case want == nil:
				misses++
				if ok {
					t.Errorf("%q in %q from %d: %v, want no match", p.text, string(text), from, got)
				}
			case !p.circle:
				plain++
				if !slices.Equal(got, want) {
					t.Errorf("%q in %q from %d: %v, want %v", p.text, string(text), from, got, want)
				}
			default:
				circles++
				if !ok || got[0] != want[0] {
					t.Errorf("%q in %q from %d: %v, want a match at %d", p.text, string(text), from, got, want[0])
				}
			}
			mustLieWithin(t, p.text, string(text), got)
		}
	}
	if plain < 20000 || circles < 1000 || misses < 5000 {
		t.Errorf("only %d plain matches, %d with circles, and %d misses", plain, circles, misses)
	}
}

// mustLieWithin is that each group has no indices, or two that lie within the match.
func mustLieWithin(t *testing.T, pattern, text string, match []int) {
	t.Helper()
	for x := 2; x < len(match); x += 2 {
		first, last := match[x], match[x+1]
		if (first != -1 || last != -1) && !(match[0] <= first && first <= last && last <= match[1]) {
			t.Errorf("%q in %q: %v: group %d lies elsewhere", pattern, text, match, x/2)
		}
	}
}

// TestP104LeastIndex is about matches that begin further on but would be longer, or recorded first by other alternatives.
func TestP104LeastIndex(t *testing.T) {
	mustRecord(t, "aaa|b", "cbaaa", 0, 1, 2)
	mustRecord(t, "b+|ab", "abbb", 0, 0, 2)
	mustRecord(t, "bbb|", "abbb", 0, 0, 0)
	mustRecord(t, "c|.*b", "acb", 0, 0, 3)
	mustRecord(t, "(c)|(.b)", "abc", 0, 0, 2, -1, -1, 0, 2)
	mustRecord(t, strings.Repeat("(", 9)+"b"+strings.Repeat(")", 9), "ab", 0, slices.Repeat([]int{1, 2}, 10)...)
}
