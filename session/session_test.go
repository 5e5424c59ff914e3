package session_test

import (
	"fmt"
	"math"
	"slices"
	"strings"
	"testing"

	"standish/api"
	"standish/format"
	"standish/session"
	"standish/tabs"
)

func ExampleOpen() {
	x, c, code := session.Open(nil, 0, 0, []rune("${1:a}$1"), ordinary(), 0)
	l, _, _ := x.Settle([]rune("aa"))
	fmt.Println(string(c.Put), len(l), code == api.OK)
	// Output: aa 0 true
}

func ExampleSession_Settle() {
	x, _, _ := session.Open([]rune("--"), 1, 0, []rune("${1:a}$1"), ordinary(), 0)
	x.Move(of(2, "", "b"))
	l, lesser, _ := x.Settle([]rune("-aba-"))
	fmt.Println(written(l, lesser), told(x))
	// Output: 3:a>ab:false P1:1-3=0* M1:3-5=0 P0:5-5=2 (1-5)
}

// ordinary is an environment in which most variables have a value of their own, but CLIPBOARD an empty one.
func ordinary() api.Env {
	return api.Env{Selected: []rune("s\nl"), Line: []rune("the line"), Word: []rune("w"), File: []rune("a.b"), Dir: []rune("/d"), Index: 6, Clock: [7]int{2026, 3, 9, 4, 5, 6, 1}, Draws: []int{7, 8, 9}}
}

func of(at int, cut, put string) api.Change {
	return api.Change{At: at, Cut: []rune(cut), Put: []rune(put)}
}

// told writes all of a session: its fields, the active one with a star, its span, and the used draws if there are any.
func told(x *session.Session) string {
	var out []string
	for i, f := range x.Fields() {
		s := toldField(f)
		if i == x.Active() {
			s += "*"
		}
		out = append(out, s)
	}
	s := strings.Join(out, " ") + fmt.Sprintf(" (%d-%d)", x.Span().From, x.Span().To)
	if x.Used() != 0 {
		s += fmt.Sprintf(" used %d", x.Used())
	}
	return s
}

// toldField writes the kind of a field, its number, its span, its Of, its Parent if it has one, and what else it has.
func toldField(f api.Field) string {
	s := fmt.Sprintf("%c%d:%d-%d=%d", "PCMF????"[f.Kind&7], f.Num, f.From, f.To, f.Of)
	if f.Parent != -1 {
		s += fmt.Sprintf("^%d", f.Parent)
	}
	for _, item := range f.Items {
		s += "|" + string(item)
	}
	if len(f.Pattern)+len(f.Forms) > 0 || f.All || f.Fold {
		parts, ok := format.Print(f.Forms)
		s += fmt.Sprintf("/%s/%s/%v%v%v", string(f.Pattern), string(parts), f.All, f.Fold, ok)
	}
	return s
}

// written writes the changes of a Settle.
func written(l []api.Change, lesser []bool) string {
	var out []string
	for i, c := range l {
		out = append(out, fmt.Sprintf("%d:%s>%s:%v", c.At, string(c.Cut), string(c.Put), lesser[i]))
	}
	return strings.Join(out, " ")
}

// open opens a snippet in a text in place of what is cut there. It returns the text then.
func open(t *testing.T, s string, at, cut int, body string) (*session.Session, []rune) {
	t.Helper()
	x, c, code := session.Open([]rune(s), at, cut, []rune(body), ordinary(), 0)
	if code != api.OK {
		t.Fatalf("Open of %q: %d", body, code)
	}
	return x, applied(t, []rune(s), c)
}

// applied is a text after a change, which must cut what stands there.
func applied(t *testing.T, s []rune, c api.Change) []rune {
	t.Helper()
	if c.At < 0 || c.At > len(s) || len(c.Cut) > len(s)-c.At || !slices.Equal(s[c.At:c.At+len(c.Cut)], c.Cut) {
		t.Fatalf("%q is not cut at %d of %q", string(c.Cut), c.At, string(s))
	}
	return slices.Concat(s[:c.At], c.Put, s[c.At+len(c.Cut):])
}

// cutting is a change that cuts n elements of s, from an index on, and puts others.
func cutting(s []rune, at, n int, put string) api.Change {
	return api.Change{At: at, Cut: slices.Clone(s[at : at+n]), Put: []rune(put)}
}

// mustBe is that a session is what told writes.
func mustBe(t *testing.T, what string, x *session.Session, want string) {
	t.Helper()
	if got := told(x); got != want {
		t.Errorf("%s: %s, want %s", what, got, want)
	}
}

// road writes the active field before each of n steps, and what the step returns.
func road(x *session.Session, step func() bool, n int) string {
	out := ""
	for range n {
		out += fmt.Sprint(x.Active(), " ", step(), " ")
	}
	return out + fmt.Sprint(x.Active())
}

func TestP194Steps(t *testing.T) {
	for _, w := range []struct{ body, next, prev string }{
		{"", "0 false 0 false 0 false 0", "0 false 0 false 0 false 0"},
		{"a$0b", "0 false 0 false 0 false 0", "0 false 0 false 0 false 0"},
		{"$1", "0 true 1 false 1 false 1", "1 true 0 false 0 false 0"},
		{"$0$1", "1 true 0 false 0 false 0", "0 true 1 false 1 false 1"},
		{"$2${1|a,b|}$1", "1 true 0 true 3 false 3", "3 true 0 true 1 false 1"},
		{"${1/a/b/}$1${2:c}$2", "1 true 2 true 4 false 4", "4 true 2 true 1 false 1"},
		{"${2:a${1:b}}", "1 true 0 true 2 false 2", "2 true 0 true 1 false 1"},
		{"${1:a${0:b}}$9", "0 true 2 true 1 false 1", "1 true 2 true 0 false 0"},
		{"$10$9", "1 true 0 true 2 false 2", "2 true 0 true 1 false 1"},
	} {
		x, _ := open(t, "", 0, 0, w.body)
		before := x.Fields()
		if got := road(x, x.Next, 3); got != w.next {
			t.Errorf("Next in %q: %s, want %s", w.body, got, w.next)
		}
		if got := road(x, x.Prev, 3); got != w.prev {
			t.Errorf("Prev in %q: %s, want %s", w.body, got, w.prev)
		}
		if fmt.Sprint(x.Fields()) != fmt.Sprint(before) {
			t.Errorf("%q: a step changed the fields", w.body)
		}
	}
}

// TestP194StepsAfterMove is that the steps follow the fields that are left.
func TestP194StepsAfterMove(t *testing.T) {
	for _, w := range []struct{ body, next, prev string }{
		{"${1:a${2:b}}$3", "0 true 1 true 2 false 2", "2 true 1 true 0 false 0"},
		{"${1:a$0}", "0 false 0 false 0 false 0", "0 false 0 false 0 false 0"},
		{"$2${1:a${3:b}c$4}", "1 true 0 true 2 false 2", "2 true 0 true 1 false 1"},
		{"$3$2$3${1:${2:a}$4$5$6}$7", "2 true 0 true 3 true 4", "4 true 3 true 0 true 2"},
	} {
		x, _ := open(t, "", 0, 0, w.body)
		f := x.Fields()[x.Active()]
		if !x.Move(of(f.To, "", "q")) {
			t.Fatalf("Move in %q", w.body)
		}
		if got := road(x, x.Next, 3); got != w.next {
			t.Errorf("Next in %q: %s, want %s", w.body, got, w.next)
		}
		if got := road(x, x.Prev, 3); got != w.prev {
			t.Errorf("Prev in %q: %s, want %s", w.body, got, w.prev)
		}
	}
}

// TestP194LikeTabs holds the steps to package tabs, in many snippets.
func TestP194LikeTabs(t *testing.T) {
	for _, body := range someBodies(2000, 14) {
		x, _ := open(t, "", 0, 0, string(body))
		for range 20 {
			for _, way := range []struct {
				step   func() bool
				beside func([]api.Field, int) (int, bool)
			}{{x.Next, tabs.Next}, {x.Next, tabs.Next}, {x.Prev, tabs.Prev}} {
				at := x.Active()
				want, ok := way.beside(x.Fields(), at)
				if !ok {
					want = at
				}
				if got := way.step(); got != ok || x.Active() != want {
					t.Fatalf("%q: from %d to %d, %v; want %d, %v", string(body), at, x.Active(), got, want, ok)
				}
			}
		}
	}
}

// TestP194Copy is that a session and its copy go their own ways.
func TestP194Copy(t *testing.T) {
	const body = "${1:a${2:b}}-$2-${1/a/b/}$1-${3|c,d|}"
	const opened = "P1:0-2=0* P2:1-2=1^0 M2:3-4=1 F1:5-7=0/a/b/falsefalsetrue M1:7-9=0 C3:10-11=5|c|d P0:11-11=6 (0-11)"
	changes := []struct {
		name string
		do   func(x *session.Session)
		then string
	}{
		{"Next", func(x *session.Session) { x.Next() }, "P1:0-2=0 P2:1-2=1^0* M2:3-4=1 F1:5-7=0/a/b/falsefalsetrue M1:7-9=0 C3:10-11=5|c|d P0:11-11=6 (0-11)"},
		{"Move", func(x *session.Session) { x.Move(of(0, "", "q")) }, "P1:0-3=0* F1:6-8=0/a/b/falsefalsetrue M1:8-10=0 C3:11-12=3|c|d P0:12-12=4 (0-12)"},
		{"Shift", func(x *session.Session) { x.Shift(of(0, "", "q"), true) }, "P1:1-3=0* P2:2-3=1^0 M2:4-5=1 F1:6-8=0/a/b/falsefalsetrue M1:8-10=0 C3:11-12=5|c|d P0:12-12=6 (1-12)"},
		{"Settle", func(x *session.Session) { x.Settle([]rune("xx-y-zz--ww")) }, "P1:0-2=0* P2:1-2=1^0 M2:3-4=1 F1:5-7=0/a/b/falsefalsetrue M1:7-9=0 C3:10-11=5|c|d P0:11-11=6 (0-11)"},
		{"Settle to other lengths", func(x *session.Session) {
			x.Shift(of(1, "", "a"), false)
			x.Settle([]rune("aaab-y-xxzz-ww"))
		}, "P1:0-3=0* P2:1-3=1^0 M2:4-6=1 F1:7-10=0/a/b/falsefalsetrue M1:10-13=0 C3:14-15=5|c|d P0:15-15=6 (0-15)"},
	}
	for _, c := range changes {
		x, _ := open(t, "", 0, 0, body)
		y := x.Copy()
		c.do(x)
		mustBe(t, c.name, x, c.then)
		mustBe(t, c.name+" beside a copy", y, opened)
		c.do(y)
		mustBe(t, c.name+" of a copy", y, c.then)
		x, _ = open(t, "", 0, 0, body)
		y = x.Copy()
		c.do(y)
		mustBe(t, "the original, after "+c.name+" of a copy", x, opened)
		z := y.Copy()
		mustBe(t, "a copy after "+c.name, z, c.then)
	}
}

// TestP194CopyOfUsed is that a copy has all that a session has.
func TestP194CopyOfUsed(t *testing.T) {
	x, _, code := session.Open([]rune("ab"), 1, 0, []rune("${1:$RANDOM}$2"), ordinary(), 40)
	if code != api.OK {
		t.Fatal(code)
	}
	x.Next()
	mustBe(t, "the session", x, "P1:1-7=0 P2:7-7=1* P0:7-7=2 (1-7) used 41")
	mustBe(t, "its copy", x.Copy(), told(x))
}

// TestP194Nil is R7.
func TestP194Nil(t *testing.T) {
	var none *session.Session
	for _, s := range [][]rune{nil, []rune("ab"), {-1}, make([]rune, 2000)} {
		if l, lesser, code := none.Settle(s); code != api.ErrNil || len(l)+len(lesser) > 0 {
			t.Errorf("Settle of nil: %v, %v, %d", l, lesser, code)
		}
	}
	for _, c := range []api.Change{{}, of(0, "a", "b"), of(-1, "", ""), of(math.MaxInt, "a", "")} {
		none.Shift(c, true)
		none.Shift(c, false)
		if none.Holds(c) || none.Move(c) {
			t.Errorf("a nil session holds %v", c)
		}
	}
	if len(none.Fields()) > 0 || none.Active() != 0 || none.Span() != (api.Span{}) || none.Used() != 0 || none.Next() || none.Prev() || none.Copy() != nil {
		t.Error("a nil session has something")
	}
}

// TestP194OwnMemory is R4 for what a session returns: whatever is done to it does not show in the session, nor in other results.
func TestP194OwnMemory(t *testing.T) {
	const body = "${1|ab,cd|}${1/a/x${1:?yy:zz}/}${1/a/x/}$1"
	x, _ := open(t, "", 0, 0, body)
	before := told(x)
	kept, copied := x.Fields(), x.Copy()
	spoil(x.Fields())
	mustBe(t, "the session", x, before)
	mustBe(t, "its copy", copied, before)
	spoil(copied.Fields())
	if fmt.Sprint(kept) != fmt.Sprint(x.Fields()) {
		t.Error("two results share memory")
	}
	var slots [][]rune
	for _, f := range kept {
		slots = append(slots, f.Pattern)
		slots = append(slots, f.Items...)
		for _, part := range f.Forms {
			slots = append(slots, part.Text, part.Else)
		}
	}
	mustNotShare(t, slots)
	mustBe(t, "the session", x, before)
	x.Move(of(2, "", "c"))
	if l, lesser, code := x.Settle([]rune("abcxzzbxbab")); code != api.OK || written(l, lesser) != "3:xzzb>xzzbc:false 8:xb>xbc:false 11:ab>abc:false" {
		t.Errorf("Settle: %s, %d", written(l, lesser), code)
	}
}

// mustNotShare is that whatever is changed in one of some slices, also behind its end, does not show in the others. It changes them all.
func mustNotShare(t *testing.T, slots [][]rune) {
	t.Helper()
	for i, s := range slots {
		for k := range s[:cap(s)] {
			s[:cap(s)][k] = rune(0x1000 + i)
		}
	}
	for i, s := range slots {
		for _, c := range s {
			if c != rune(0x1000+i) {
				t.Errorf("slice %d was changed as slice %d", i, c-0x1000)
			}
		}
	}
}

// spoil changes all memory of fields, also behind the ends of their slices.
func spoil(l []api.Field) {
	for i := range l {
		f := &l[i]
		spoilTexts(f.Pattern)
		spoilTexts(f.Items...)
		clear(f.Items)
		for _, part := range f.Forms {
			spoilTexts(part.Text, part.Else)
		}
		clear(f.Forms)
		*f = api.Field{Kind: -1}
	}
}

func spoilTexts(l ...[]rune) {
	for _, s := range l {
		for i := range s[:cap(s)] {
			s[:cap(s)][i] = '?'
		}
	}
}
