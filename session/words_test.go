package session_test

import (
	"fmt"
	"math/rand"
	"slices"
	"strings"
	"testing"

	"standish/api"
	"standish/expand"
	"standish/session"
)

// words is a session that does what P19.2 and P19.3 say by their words, with fields that know each other and no indices.
type words struct {
	fields []*field
	active *field
	span   *field // only its From and To
	used   int
}

type field struct {
	api.Field
	parent, of *field
}

func newWords(x *session.Session) *words {
	l, span := x.Fields(), x.Span()
	w := &words{span: &field{Field: api.Field{From: span.From, To: span.To}}, used: x.Used()}
	for _, f := range l {
		w.fields = append(w.fields, &field{Field: f})
	}
	for i, f := range l {
		if w.fields[i].of = w.fields[f.Of]; f.Parent != -1 {
			w.fields[i].parent = w.fields[f.Parent]
		}
	}
	w.active = w.fields[x.Active()]
	return w
}

func (w *words) told() string {
	var out []string
	for _, f := range w.fields {
		g := f.Field
		g.Parent, g.Of = slices.Index(w.fields, f.parent), slices.Index(w.fields, f.of)
		s := toldField(g)
		if f == w.active {
			s += "*"
		}
		out = append(out, s)
	}
	s := strings.Join(out, " ") + fmt.Sprintf(" (%d-%d)", w.span.From, w.span.To)
	if w.used > 0 {
		s += fmt.Sprintf(" used %d", w.used)
	}
	return s
}

func (f *field) inside(g *field) bool {
	return f.parent != nil && (f.parent == g || f.parent.inside(g))
}

// by moves the ends of a field or of the span.
func (f *field) by(c api.Change, right, right2 bool) {
	f.From, f.To = place(f.From, c, right), place(f.To, c, right2)
}

func (w *words) moveBy(in *field, c api.Change) {
	lesser := true
	for _, f := range w.fields {
		if f == in {
			lesser = false
		}
		switch {
		case f == in || in.inside(f):
			f.by(c, false, true)
		case lesser:
			f.by(c, false, false)
		default:
			f.by(c, true, true)
		}
	}
	w.span.by(c, false, true)
}

func (w *words) holds(c api.Change) bool {
	return c.At >= w.active.From && c.At+len(c.Cut) <= w.active.To
}

func (w *words) move(c api.Change) bool {
	if !w.holds(c) {
		return false
	}
	var gone []*field
	for _, f := range w.fields {
		if f.inside(w.active) {
			gone = append(gone, f)
		}
	}
	for _, f := range w.fields {
		if f.of != f && slices.Contains(gone, f.of) {
			gone = append(gone, f)
		}
	}
	w.fields = slices.DeleteFunc(w.fields, func(f *field) bool { return slices.Contains(gone, f) })
	w.moveBy(w.active, c)
	return true
}

func (w *words) shift(c api.Change, right bool) {
	for _, f := range append(slices.Clip(w.fields), w.span) {
		f.by(c, right, right)
	}
}

// settle returns the changes, as written writes them. After an error, w is not to be used any more.
func (w *words) settle(s string) (string, api.Errno) {
	text := []rune(s)
	if len(text) < w.span.To {
		return "", api.ErrArg
	}
	if len(text) > 1000 {
		return "", api.ErrFull
	}
	var out []string
	var order []*field
	for _, nested := range []bool{true, false} {
		for _, f := range w.fields {
			if (f.Kind == api.FieldMirror || f.Kind == api.FieldForm) && (f.parent != nil) == nested {
				order = append(order, f)
			}
		}
	}
	for _, f := range order {
		was, is := string(text[f.From:f.To]), string(expand.Tell(f.Field, text[f.of.From:f.of.To]))
		if was == is {
			continue
		}
		c := of(f.From, was, is)
		out = append(out, fmt.Sprintf("%d:%s>%s:%v", c.At, was, is, slices.Index(w.fields, f) < slices.Index(w.fields, w.active)))
		text = []rune(string(text[:f.From]) + is + string(text[f.To:]))
		if len(text) > 1000 {
			return "", api.ErrFull
		}
		w.moveBy(f, c)
	}
	return strings.Join(out, " "), api.OK
}

// TestP193AnyCalls holds rows of all calls, in any order and with any changes and texts, to the words of the chapter.
func TestP193AnyCalls(t *testing.T) {
	rnd := rand.New(rand.NewSource(193))
	codes := map[api.Errno]int{}
	moved, refused, changes := 0, 0, 0
	for i, body := range someBodies(5000, 20) {
		x, _, code := session.Open([]rune("xyz"), i%4, 0, body, ordinary(), i%3)
		if code != api.OK {
			continue
		}
		w := newWords(x)
		for n := range 20 {
			what := fmt.Sprintf("%q, call %d", string(body), n)
			switch rnd.Intn(7) {
			case 0:
				x.Next()
			case 1:
				x.Prev()
			case 2:
				c := anyChange(rnd, x.Span())
				right := rnd.Intn(2) == 0
				x.Shift(c, right)
				w.shift(c, right)
			case 3:
				x = x.Copy()
			case 4, 5:
				c := anyChange(rnd, anySpan(rnd, x))
				if got, want := x.Holds(c), w.holds(c); got != want || x.Move(c) != want {
					t.Fatalf("%s: holds %v: %v, want %v", what, c, got, want)
				} else if w.move(c) {
					moved++
				} else {
					refused++
				}
			case 6:
				codes[settleBoth(t, what, x, &w, anyText(rnd, x))]++
				changes++
			}
			w.active = w.fields[x.Active()]
			if got, want := told(x), w.told(); got != want {
				t.Fatalf("%s: %s, want %s", what, got, want)
			}
		}
	}
	if moved < 2000 || refused < 2000 || codes[api.OK] < 5000 || codes[api.ErrArg] < 100 || codes[api.ErrFull] < 100 {
		t.Errorf("%d moves, %d refused, codes %v", moved, refused, codes)
	}
}

// settleBoth holds Settle of a session to that of its words, which stay as they are after an error.
func settleBoth(t *testing.T, what string, x *session.Session, w **words, s string) api.Errno {
	t.Helper()
	tried := newWords(x)
	want, code := tried.settle(s)
	if code != api.OK {
		mustFail(t, x, []rune(s), code)
		return code
	}
	l, lesser, got := x.Settle([]rune(s))
	if got != api.OK || len(l) != len(lesser) || written(l, lesser) != want {
		t.Fatalf("%s: Settle of %q: %s, %d, want %s", what, s, written(l, lesser), got, want)
	}
	*w = tried
	return api.OK
}

// anySpan is that of a field, mostly the active one, or of the session.
func anySpan(rnd *rand.Rand, x *session.Session) api.Span {
	l := x.Fields()
	f := l[x.Active()]
	switch rnd.Intn(8) {
	case 0:
		return x.Span()
	case 1, 2:
		f = l[rnd.Intn(len(l))]
	}
	return api.Span{From: f.From, To: f.To}
}

// anyChange is a change in a span or around it.
func anyChange(rnd *rand.Rand, in api.Span) api.Change {
	from, to := in.From, in.To
	if rnd.Intn(4) == 0 {
		from, to = max(from-2, 0), to+2
	}
	at := from + rnd.Intn(to-from+1)
	return api.Change{At: at, Cut: make([]rune, rnd.Intn(min(to-at, 6)+1)), Put: make([]rune, rnd.Intn(5))}
}

// anyText is a text in which a session mostly lies.
func anyText(rnd *rand.Rand, x *session.Session) string {
	n := x.Span().To + rnd.Intn(4)
	switch rnd.Intn(30) {
	case 0:
		n = rnd.Intn(n + 1)
	case 1, 2:
		n = max(n, 940+rnd.Intn(70))
	}
	var out strings.Builder
	for range n {
		out.WriteByte("abAB\n"[rnd.Intn(5)])
	}
	return out.String()
}
