package session_test

import (
	"fmt"
	"math/rand"
	"slices"
	"strings"
	"testing"

	"standish/api"
	"standish/change"
	"standish/expand"
	"standish/session"
)

// somePieces are what snippets of these tests consist of.
var somePieces = strings.Split("$1 $2 $0 ${1: ${2: ${3: ${0: ${1:a} ${2|a,bc|} ${1/a/b/} ${2/(.)/$1$1/g} ${3/A//i} ${1/$/!/} } } } } a b \n \\$ $NONE $CLIPBOARD $RANDOM ${NONE: ${CLIPBOARD: ${TM_CURRENT_WORD: ${TM_CURRENT_WORD/w/v/}", " ")

// someBodies returns n snippets of at most so many pieces, each time the same ones.
func someBodies(n, most int) [][]rune {
	rnd := rand.New(rand.NewSource(19))
	var out [][]rune
	for range n {
		var s []rune
		for range rnd.Intn(most + 1) {
			s = append(s, []rune(somePieces[rnd.Intn(len(somePieces))])...)
		}
		out = append(out, s[:min(len(s), api.MaxSnip)])
	}
	return out
}

// page is a session as a tree, which has texts where a session has indices: an edit replaces what stands in the active home, and what the mirrors show is told anew whenever it is asked for.
type page struct {
	before, after string
	parts         []*part
	active        *part
	used          int
}

// part is a text or, if it has a field, a home with parts of its own or a mirror.
type part struct {
	text  string
	field *api.Field // its From, To, Parent and Of are not used
	of    *part      // itself for a home
	parts []*part
}

// newPage reads the page of a session that has just been opened in a text.
func newPage(x *session.Session, s []rune) *page {
	fields, span := x.Fields(), x.Span()
	all := make([]*part, len(fields))
	for i := range all {
		all[i] = &part{field: &fields[i]}
	}
	var read func(from, to, parent int) []*part
	read = func(from, to, parent int) []*part {
		var out []*part
		for i, f := range fields {
			if f.Parent != parent {
				continue
			}
			out = append(out, &part{text: string(s[from:f.From])}, all[i])
			if all[i].of = all[f.Of]; f.Of == i {
				all[i].parts = read(f.From, f.To, i)
			}
			from = f.To
		}
		return append(out, &part{text: string(s[from:to])})
	}
	p := &page{before: string(s[:span.From]), after: string(s[span.To:]), used: x.Used()}
	p.parts, p.active = read(span.From, span.To, -1), all[x.Active()]
	return p
}

func show(l []*part) string {
	var out strings.Builder
	for _, p := range l {
		switch {
		case p.field == nil:
			out.WriteString(p.text)
		case p.of == p:
			out.WriteString(show(p.parts))
		default:
			out.WriteString(string(expand.Tell(*p.field, []rune(show(p.of.parts)))))
		}
	}
	return out.String()
}

func (p *page) text() string { return p.before + show(p.parts) + p.after }

// fieldsIn lists the parts with a field, each followed by those in it.
func fieldsIn(l []*part) []*part {
	var out []*part
	for _, p := range l {
		if p.field != nil {
			out = append(append(out, p), fieldsIn(p.parts)...)
		}
	}
	return out
}

// start is the index at which a part begins, and whether it stands among l or in one of these.
func start(l []*part, want *part) (int, bool) {
	at := 0
	for _, p := range l {
		if p == want {
			return at, true
		}
		if n, ok := start(p.parts, want); ok {
			return at + n, true
		}
		at += len([]rune(show([]*part{p})))
	}
	return 0, false
}

func (p *page) from(of *part) int {
	at, _ := start(p.parts, of)
	return len([]rune(p.before)) + at
}

// edit replaces n elements at an index in the active home, in which only text is left.
func (p *page) edit(at, n int, put string) {
	gone := fieldsIn(p.active.parts)
	var freeze func(l []*part)
	freeze = func(l []*part) {
		for i, q := range l {
			if q.field != nil && q.of != q && slices.Contains(gone, q.of) {
				l[i] = &part{text: show([]*part{q})}
			}
			freeze(q.parts)
		}
	}
	at -= p.from(p.active)
	old := []rune(show(p.active.parts))
	freeze(p.parts)
	p.active.parts = []*part{{text: string(old[:at]) + put + string(old[at+n:])}}
}

// told writes the page as told writes a session.
func (p *page) told() string {
	all := fieldsIn(p.parts)
	var out []string
	for _, q := range all {
		f := *q.field
		f.From, f.Parent, f.Of = p.from(q), -1, slices.Index(all, q.of)
		f.To = f.From + len([]rune(show([]*part{q})))
		for k, r := range all {
			if r != q && slices.Contains(fieldsIn(r.parts), q) {
				f.Parent = k // the last one is the innermost one
			}
		}
		s := toldField(f)
		if q == p.active {
			s += "*"
		}
		out = append(out, s)
	}
	from := len([]rune(p.before))
	s := strings.Join(out, " ") + fmt.Sprintf(" (%d-%d)", from, from+len([]rune(show(p.parts))))
	if p.used > 0 {
		s += fmt.Sprintf(" used %d", p.used)
	}
	return s
}

// mustHold is P19.5 for a session and a text.
func mustHold(t *testing.T, what string, x *session.Session, s []rune) {
	t.Helper()
	l, span := x.Fields(), x.Span()
	if a := x.Active(); a < 0 || a >= len(l) || l[a].Of != a {
		t.Fatalf("%s: no home is active: %s", what, told(x))
	}
	for i, f := range l {
		if f.From < span.From || f.From > f.To || f.To > span.To || span.To > len(s) || f.Parent < -1 || f.Parent >= i || f.Of < 0 || f.Of >= len(l) {
			t.Fatalf("%s: field %d is out of bounds: %s", what, i, told(x))
		}
		if f.Parent != -1 && (f.From < l[f.Parent].From || f.To > l[f.Parent].To) {
			t.Fatalf("%s: field %d does not lie in its Parent: %s", what, i, told(x))
		}
		for j, g := range l[:i] {
			if !leads(l, i, j) && g.To > f.From {
				t.Fatalf("%s: fields %d and %d overlap: %s", what, j, i, told(x))
			}
		}
		home := l[f.Of]
		if home.Num != f.Num || home.Of != f.Of || (f.Of == i) != (f.Kind == api.FieldPlain || f.Kind == api.FieldChoice) {
			t.Fatalf("%s: field %d has no home: %s", what, i, told(x))
		}
		if shown := string(s[f.From:f.To]); f.Of != i && shown != string(expand.Tell(f, s[home.From:home.To])) {
			t.Fatalf("%s: field %d is not told of its home: %q, %s", what, i, shown, told(x))
		}
	}
}

// leads reports whether Parents lead from field i to field j.
func leads(l []api.Field, i, j int) bool {
	for i != -1 && i != j {
		i = l[i].Parent
	}
	return i == j
}

// both is a session with its text, and its page.
type both struct {
	x    *session.Session
	s    []rune
	page *page
}

func newBoth(t *testing.T, s string, at, cut int, body string) both {
	t.Helper()
	x, text := open(t, s, at, cut, body)
	return both{x, text, newPage(x, text)}
}

// must is that the session is as its page is.
func (b *both) must(t *testing.T, what string) {
	t.Helper()
	if got, want := told(b.x), b.page.told(); got != want || string(b.s) != b.page.text() {
		t.Fatalf("%s: %s, %q, want %s, %q", what, got, string(b.s), want, b.page.text())
	}
	mustHold(t, what, b.x, b.s)
}

// edit performs a change in the active field, moves and settles the session, and does what Settle tells. It reports whether there was room for all of that.
func (b *both) edit(t *testing.T, what string, c api.Change) bool {
	t.Helper()
	if !b.x.Holds(c) || !b.x.Move(c) {
		t.Fatalf("%s: the session does not move by %v: %s", what, c, told(b.x))
	}
	b.s = applied(t, b.s, c)
	l, lesser, code := b.x.Settle(b.s)
	if code == api.ErrFull {
		return false
	}
	if code != api.OK || len(l) != len(lesser) {
		t.Fatalf("%s: Settle of %q: %d", what, string(b.s), code)
	}
	after, code := change.Row(b.s, l)
	if code != api.OK {
		t.Fatalf("%s: Settle of %q returns changes that do not fit: %s", what, string(b.s), written(l, lesser))
	}
	b.s = after
	b.page.edit(c.At, len(c.Cut), string(c.Put))
	b.must(t, what)
	if l, _, code := b.x.Settle(b.s); code != api.OK || len(l) > 0 {
		t.Fatalf("%s: what is settled is settled again: %v, %d", what, l, code)
	}
	return true
}

// next goes to the next home, of the session and of the page.
func (b *both) next() bool {
	if !b.x.Next() {
		return false
	}
	b.page.active = fieldsIn(b.page.parts)[b.x.Active()]
	return true
}

// everyEdit runs do for each home that may become active, and each change there which cuts some elements and puts one of some texts.
func everyEdit(t *testing.T, b both, puts []string, do func(home int, c api.Change)) {
	for {
		f := b.x.Fields()[b.x.Active()]
		for at := f.From; at <= f.To; at++ {
			for n := range f.To - at + 1 {
				for _, put := range puts {
					do(b.x.Active(), cutting(b.s, at, n, put))
				}
			}
		}
		if !b.x.Next() {
			return
		}
	}
}

// TestP195AllShort holds all edits of all snippets of a few pieces to their pages.
func TestP195AllShort(t *testing.T) {
	for _, w := range []struct {
		pieces string
		n      int
	}{
		{"$1 $2 ${1: ${2: } a", 5}, {"$1 ${2: ${3: } $3 ${1/a/bb/g}", 4}, {"${1:a} $1 ${1/$/a/} ${2:$1} ${3:$2$1} $3 -", 4}, {"$0 ${0: ${1|a,bb|} $1 } x", 4}, {"${1:a${2:b}} $2 $1 ${3:$2} ${4:$3} $4", 4},
	} {
		edits := 0
		everyBody(strings.Split(w.pieces, " "), w.n, "", func(body string) {
			first := newBoth(t, "<>", 1, 0, body)
			first.must(t, body)
			everyEdit(t, both{x: first.x.Copy(), s: first.s}, []string{"", "a", "ab"}, func(home int, c api.Change) {
				edits++
				b := both{first.x.Copy(), first.s, newPage(first.x, first.s)}
				for b.x.Active() != home {
					b.next()
				}
				b.edit(t, fmt.Sprintf("%q, %d cut at %d, put %q", body, len(c.Cut), c.At, string(c.Put)), c)
			})
		})
		if edits < 10000 {
			t.Errorf("only %d edits of %s", edits, w.pieces)
		}
	}
}

// everyBody runs do on all snippets of at most n pieces.
func everyBody(pieces []string, n int, head string, do func(body string)) {
	do(head)
	if n == 0 {
		return
	}
	for _, p := range pieces {
		everyBody(pieces, n-1, head+p, do)
	}
}

// TestP195AnyEdits holds rows of edits in all sorts of snippets to their pages, with steps on and back between them.
func TestP195AnyEdits(t *testing.T) {
	rnd := rand.New(rand.NewSource(195))
	edits, full := 0, 0
	for i, body := range someBodies(2500, 25) {
		s := []rune([]string{"", "x", "  (x)\n", "\t\nabc", strings.Repeat("y", 970)}[i%5])
		at := rnd.Intn(len(s) + 1)
		x, c, code := session.Open(s, at, rnd.Intn(len(s)-at+1), body, ordinary(), 0)
		if code != api.OK {
			continue
		}
		b := both{x: x, s: applied(t, s, c)}
		b.page = newPage(x, b.s)
		for range 12 {
			switch rnd.Intn(3) {
			case 0:
				b.next()
			case 1:
				if x.Prev() {
					b.page.active = fieldsIn(b.page.parts)[x.Active()]
				}
			}
			f := x.Fields()[x.Active()]
			at := f.From + rnd.Intn(f.To-f.From+1)
			n := rnd.Intn(min(f.To-at, 3) + 1)
			put := []string{"", "a", "A", "b\n", "ab", strings.Repeat("xa", rnd.Intn(30))}[rnd.Intn(6)]
			edits++
			if !b.edit(t, fmt.Sprintf("%q, edit %d", string(body), edits), cutting(b.s, at, n, put)) {
				full++
				break
			}
		}
	}
	if edits < 20000 || full < 50 || full > 2000 {
		t.Errorf("%d edits, %d of them without room", edits, full)
	}
}

// TestP195Opened is P19.5 after Open, for all sorts of snippets.
func TestP195Opened(t *testing.T) {
	opened := 0
	for i, body := range someBodies(8000, 30) {
		s := []rune("  ab\nc")
		at := i % (len(s) + 1)
		x, c, code := session.Open(s, at, (len(s)-at)/2, body, ordinary(), 0)
		if code != api.OK {
			continue
		}
		opened++
		after := applied(t, s, c)
		mustHold(t, string(body), x, after)
		if l, _, code := x.Settle(after); code != api.OK || len(l) > 0 {
			t.Errorf("%q is settled: %v, %d", string(body), l, code)
		}
	}
	if opened < 6000 {
		t.Errorf("only %d were opened", opened)
	}
}
