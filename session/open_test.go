package session_test

import (
	"fmt"
	"math"
	"slices"
	"strings"
	"testing"

	"standish/api"
	"standish/expand"
	"standish/lines"
	"standish/session"
	"standish/tabs"
	"standish/tree"
)

// mustRefuse is that Open returns an error and nothing else.
func mustRefuse(t *testing.T, what string, want api.Errno, s []rune, at, cut int, body []rune, e api.Env, used int) {
	t.Helper()
	x, c, code := session.Open(s, at, cut, body, e, used)
	if code != want || x != nil || c.At != 0 || len(c.Cut)+len(c.Put) > 0 {
		t.Errorf("%s: %v, %v, %d, want %d", what, x, c, code, want)
	}
}

func TestP191Limits(t *testing.T) {
	if got := [...]int{api.MaxText, api.MaxSnip, api.MaxField, api.MaxIndent}; got != [...]int{1000, 600, 64, 40} {
		t.Fatalf("the limits are %v", got)
	}
}

func TestP191WrittenOut(t *testing.T) {
	for _, w := range []struct {
		s       string
		at, cut int
		body    string
		text    string
		want    string
	}{
		{"", 0, 0, "", "", "P0:0-0=0* (0-0)"},
		{"", 0, 0, "${1:a}$1", "aa", "P1:0-1=0* M1:1-2=0 P0:2-2=2 (0-2)"},
		{"", 0, 0, "$2$1", "", "P2:0-0=0 P1:0-0=1* P0:0-0=2 (0-0)"},
		{"ab", 0, 2, "", "", "P0:0-0=0* (0-0)"},
		{"ab", 1, 0, "xy", "axyb", "P0:3-3=0* (1-3)"},
		{"ab", 2, 0, "$0x", "abx", "P0:2-2=0* (2-3)"},
		{"abc", 1, 1, "${2:x${1:y}}", "axyc", "P2:1-3=0 P1:2-3=1^0* P0:3-3=2 (1-3)"},
		{"abc", 0, 3, "${1/^/x/}-$1${1/x/y/g}", "x-", "F1:0-1=1/^/x/falsefalsetrue P1:2-2=1* F1:2-2=1/x/y/truefalsetrue P0:2-2=3 (0-2)"},
		{"a b", 2, 1, "${3|one,two|}$3", "a oneone", "C3:2-5=0|one|two* M3:5-8=0 P0:8-8=2 (2-8)"},
		{"  a", 2, 1, "{\n$1\n}", "  {\n  \n  }", "P1:6-6=0* P0:10-10=1 (2-10)"},
		{"\ta\n b", 4, 0, "x\n", "\ta\n x\n b", "P0:7-7=0* (4-7)"},
		{"ab", 1, 0, "$TM_CURRENT_WORD${2:$NONE}", "awNONEb", "P2:2-6=0* P0:6-6=1 (1-6)"},
		{"é文", 1, 1, "${1:é}", "éé", "P1:1-2=0* P0:2-2=1 (1-2)"},
		{"a\x00b", 1, 1, "\x00\x00", "a\x00\x00b", "P0:3-3=0* (1-3)"},
	} {
		x, text := open(t, w.s, w.at, w.cut, w.body)
		if string(text) != w.text {
			t.Errorf("%q in %q: %q, want %q", w.body, w.s, string(text), w.text)
		}
		mustBe(t, w.body, x, w.want)
	}
}

// TestP191Range is ErrArg for what is not within the text, and the change for what is.
func TestP191Range(t *testing.T) {
	far := []int{math.MinInt, math.MinInt + 1, -1 << 32, 1 << 32, math.MaxInt - 1, math.MaxInt}
	for n := range 6 {
		s := []rune("abcdef")[:n]
		numbers := slices.Clone(far)
		for k := -3; k <= n+3; k++ {
			numbers = append(numbers, k)
		}
		for _, at := range numbers {
			for _, cut := range numbers {
				if at < 0 || at > n || cut < 0 || cut > n-at {
					mustRefuse(t, fmt.Sprint(at, cut, n), api.ErrArg, s, at, cut, []rune("x"), ordinary(), 0)
					continue
				}
				x, c, code := session.Open(s, at, cut, []rune("x$1y"), ordinary(), 0)
				if code != api.OK || c.At != at || string(c.Cut) != string(s[at:at+cut]) || string(c.Put) != "xy" || x.Span() != (api.Span{From: at, To: at + 2}) {
					t.Errorf("at %d, cut %d of %d: %v, %d", at, cut, n, c, code)
				}
			}
		}
	}
}

// TestP191BadBody is the fault of tree.Parse.
func TestP191BadBody(t *testing.T) {
	long := slices.Repeat([]rune{'{'}, api.MaxSnip+1)
	mustRefuse(t, "601 elements", api.ErrFull, []rune("ab"), 1, 0, long, ordinary(), 0)
	mustRefuse(t, "601 elements and no character", api.ErrFull, []rune("ab"), 1, 0, append(slices.Clip(long), -1), ordinary(), 0)
	for _, bad := range []rune{-1, 0xd800, 0xdfff, 0x110000, math.MinInt32, math.MaxInt32} {
		mustRefuse(t, "no character", api.ErrForm, []rune("ab"), 1, 0, []rune{'a', bad}, ordinary(), 0)
	}
	if _, c, code := session.Open(nil, 0, 0, long[:600], ordinary(), 0); code != api.OK || len(c.Put) != 600 {
		t.Errorf("600 elements: %d, %d", len(c.Put), code)
	}
}

// TestP191BadExpand is the error of expand.Expand.
func TestP191BadExpand(t *testing.T) {
	spoils := []func(e *api.Env){
		func(e *api.Env) { *e = api.Env{} },
		func(e *api.Env) { e.Word = []rune{-1} },
		func(e *api.Env) { e.Dir = slices.Repeat([]rune{'a'}, 101) },
		func(e *api.Env) { e.Index = 10000 },
		func(e *api.Env) { e.Draws = []int{1 << 24} },
	}
	for i, spoil := range spoils {
		e := ordinary()
		spoil(&e)
		mustRefuse(t, fmt.Sprint("environment ", i), api.ErrForm, []rune("ab"), 1, 0, []rune("a"), e, 0)
	}
	for _, used := range []int{-1, 1001, math.MinInt, math.MaxInt} {
		mustRefuse(t, fmt.Sprint("used ", used), api.ErrForm, []rune("ab"), 1, 0, []rune("a"), ordinary(), used)
	}
	tooMuch := []string{strings.Repeat("$1", 64), "${1:" + strings.Repeat("a", 501) + "}$1", "${1:" + strings.Repeat("a", 200) + "}$1$1$1$1$1", strings.Repeat("\n", 30) + "$1"}
	for i, body := range tooMuch {
		s := []rune(strings.Repeat(" ", 40))
		mustRefuse(t, body, api.ErrFull, s, 0, 0, []rune(body), ordinary(), 0)
		if i < 3 {
			mustRefuse(t, body, api.ErrFull, nil, 0, 0, []rune(body), ordinary(), 0)
		}
	}
	if x, _, code := session.Open(nil, 0, 0, []rune(strings.Repeat("$1", 63)), ordinary(), 0); code != api.OK || len(x.Fields()) != 64 {
		t.Errorf("64 fields: %d", code)
	}
}

// TestP191BadText is ErrForm for any element of s that is no character, also one that is cut.
func TestP191BadText(t *testing.T) {
	for _, bad := range []rune{-1, 0xd800, 0xdfff, 0x110000, math.MinInt32, math.MaxInt32} {
		for i := range 4 {
			s := []rune("abcd")
			s[i] = bad
			for at := range 5 {
				for cut := range 5 - at {
					mustRefuse(t, fmt.Sprint(s, at, cut), api.ErrForm, s, at, cut, []rune("x"), ordinary(), 0)
				}
			}
		}
	}
	for _, c := range []rune{0, 0xd7ff, 0xe000, 0x10ffff} {
		if _, _, code := session.Open([]rune{c}, 0, 1, []rune{c}, ordinary(), 0); code != api.OK {
			t.Errorf("%x: %d", c, code)
		}
	}
}

// TestP191MaxText is ErrFull for s and for the text after the change, on both sides of MaxText.
func TestP191MaxText(t *testing.T) {
	for n := 990; n <= 1005; n++ {
		s := slices.Repeat([]rune{'a'}, n)
		for cut := range 12 {
			for put := range 12 {
				body := slices.Repeat([]rune{'b'}, put)
				if n > 1000 || n-cut+put > 1000 {
					mustRefuse(t, fmt.Sprint(n, cut, put), api.ErrFull, s, 500, cut, body, ordinary(), 0)
				} else if x, c, code := session.Open(s, 500, cut, body, ordinary(), 0); code != api.OK || len(c.Put) != put || x.Span().To != 500+put {
					t.Errorf("%d, %d, %d: %d", n, cut, put, code)
				}
			}
		}
	}
	s := slices.Repeat([]rune{'a'}, 1001)
	mustRefuse(t, "1001, all cut", api.ErrFull, s, 0, 1001, nil, ordinary(), 0)
	mustRefuse(t, "very many", api.ErrFull, slices.Repeat([]rune{'\n'}, 3000000), 0, 0, nil, ordinary(), 0)
	if _, c, code := session.Open(s[:1000], 0, 1000, []rune("${1:"+strings.Repeat("b", 500)+"}$1"), ordinary(), 0); code != api.OK || len(c.Cut) != 1000 || len(c.Put) != 1000 {
		t.Errorf("1000 for 1000: %d", code)
	}
}

// TestP191ErrorOrder is R6: of all sets of errors, the one that the chapter names first.
func TestP191ErrorOrder(t *testing.T) {
	type args struct {
		s       []rune
		at, cut int
		body    []rune
		e       api.Env
		used    int
	}
	errs := []struct {
		name string
		code api.Errno
		make func(a *args)
	}{
		{"the range", api.ErrArg, func(a *args) { a.cut = len(a.s) + 1 }},
		{"a long snippet", api.ErrFull, func(a *args) { a.body = append(a.body, slices.Repeat([]rune{'x'}, 601)...) }},
		{"a snippet with no character", api.ErrForm, func(a *args) { a.body = append(a.body, -1) }},
		{"the environment", api.ErrForm, func(a *args) { a.e.Index = -1 }},
		{"used", api.ErrForm, func(a *args) { a.used = 1001 }},
		{"many fields", api.ErrFull, func(a *args) { a.body = append(a.body, []rune(strings.Repeat("$1", 64))...) }},
		{"a long expansion", api.ErrFull, func(a *args) { a.body = append(a.body, []rune("${2:"+strings.Repeat("y", 300)+"}$2$2$2")...) }},
		{"no character", api.ErrForm, func(a *args) { a.s[1] = 0xd800 }},
		{"a long text", api.ErrFull, func(a *args) { a.s = append(a.s, slices.Repeat([]rune{'z'}, 1000)...) }},
		{"a long text afterwards", api.ErrFull, func(a *args) {
			a.s = append(a.s, slices.Repeat([]rune{'z'}, 990)...)
			a.body = append([]rune("0123456789"), a.body...)
		}},
	}
	for set := 1; set < 1<<len(errs); set++ {
		a := args{s: []rune("abc"), at: 1, body: []rune("ab"), e: ordinary()}
		want := api.OK
		names := ""
		for i, err := range slices.Backward(errs) { // the last one first, so that the range is that of the text
			if set&(1<<i) != 0 {
				err.make(&a)
				want, names = err.code, err.name+", "+names
			}
		}
		mustRefuse(t, names, want, a.s, a.at, a.cut, a.body, a.e, a.used)
	}
}

// TestP191Indent is that the indent is that of the line of the index, whatever is cut.
func TestP191Indent(t *testing.T) {
	for _, s := range []string{"", "a", " a", "\ta\n  b\n\n \tc", "   ", " \n  \n", "\n ", " a\r \vb", "a  \n\t" + strings.Repeat(" ", 45) + "b\nc", strings.Repeat("\t", 39) + " \n" + strings.Repeat("\t", 39) + "a"} {
		text := []rune(s)
		for at := range len(text) + 1 {
			rows := strings.Split(string(text[:at]), "\n")
			row := strings.Split(s, "\n")[len(rows)-1]
			blanks := row[:len(row)-len(strings.TrimLeft(row, " \t"))]
			blanks = blanks[:min(len(blanks), 40)]
			for _, cut := range []int{0, (len(text) - at) / 2, len(text) - at} {
				x, c, code := session.Open(text, at, cut, []rune("x\n$1\ny"), ordinary(), 0)
				if want := "x\n" + blanks + "\n" + blanks + "y"; code != api.OK || string(c.Put) != want {
					t.Errorf("at %d of %q: %q, %d, want %q", at, s, string(c.Put), code, want)
				} else if f := x.Fields()[0]; f.From != at+2+len(blanks) || f.To != f.From {
					t.Errorf("at %d of %q: %s", at, s, told(x))
				}
			}
		}
	}
}

func TestP191Used(t *testing.T) {
	for _, w := range []struct {
		body, text string
		draws      int
	}{{"a$1", "a", 0}, {"$RANDOM", "000007", 1}, {"$RANDOM_HEX$RANDOM", "000007000008", 2}, {"$UUID", "00000700-0008-4000-8009-000000000000", 5}, {"${1:$RANDOM}$1", "000007000007", 1}} {
		for _, used := range []int{0, 1, 2, 100, 995, 999} {
			if used+w.draws > 1001 { // some variable of this snippet has no value then
				continue
			}
			x, c, code := session.Open([]rune("ab"), 1, 0, []rune(w.body), ordinary(), used)
			if code != api.OK || x.Used() != used+w.draws || used == 0 && string(c.Put) != w.text {
				t.Errorf("%q with used %d: %q, %d, %d", w.body, used, string(c.Put), x.Used(), code)
			}
		}
	}
}

// TestP191LikeExpand holds the change, the fields, the active one, the span and the used draws to packages tree, expand and tabs, for many snippets in many places.
func TestP191LikeExpand(t *testing.T) {
	texts := []string{"", "a", "  abc", "a\n\tb\n", strings.Repeat("x", 990)}
	fails := 0
	for i, body := range someBodies(6000, 40) {
		s := []rune(texts[i%len(texts)])
		at := i % (len(s) + 1)
		cut := (i / 7) % (len(s) - at + 1)
		line, _, _ := lines.Place(s, at)
		indent, _ := lines.Indent(s, line)
		nodes, _ := tree.Parse(body)
		shape, code := expand.Expand(nodes, ordinary(), indent, i%4)
		if code == api.OK && len(s)-cut+len(shape.Text) > 1000 {
			code = api.ErrFull
		}
		if code != api.OK {
			fails++
			mustRefuse(t, string(body), code, s, at, cut, body, ordinary(), i%4)
			continue
		}
		x, c, code := session.Open(s, at, cut, body, ordinary(), i%4)
		if code != api.OK || c.At != at || string(c.Cut) != string(s[at:at+cut]) || string(c.Put) != string(shape.Text) {
			t.Fatalf("%q at %d of %q: %v, %d", string(body), at, string(s), c, code)
		}
		var want []string
		for k, f := range shape.Fields {
			f.From, f.To = f.From+at, f.To+at
			want = append(want, toldField(f))
			if k == tabs.Order(shape.Fields)[0] {
				want[k] += "*"
			}
		}
		all := fmt.Sprintf("%s (%d-%d)", strings.Join(want, " "), at, at+len(shape.Text))
		if shape.Used > 0 {
			all += fmt.Sprintf(" used %d", shape.Used)
		}
		mustBe(t, string(body), x, all)
	}
	if fails < 100 || fails > 3000 {
		t.Errorf("%d of 6000 were refused", fails)
	}
}

// TestP191OwnMemory is R4 and R10: Open changes none of its arguments, does not read what stands behind them, and keeps none of them; and the change is not the session's.
func TestP191OwnMemory(t *testing.T) {
	spare := func(s string) []rune { return append([]rune(s), -1, -1)[:len([]rune(s))] }
	const want = "C1:3-5=0|ab|cd* F1:5-9=0/a/x${1:?yy:zz}/falsefalsetrue P0:13-13=2 (3-13)"
	s, body, e := spare("a\n f"), spare("${1|ab,cd|}${1/a/x${1:?yy:zz}/}$TM_SELECTED_TEXT\n"), ordinary()
	e.Selected = spare("se")
	whole := func() string { return fmt.Sprint(s[:len(s)+2], body[:len(body)+2], e, e.Selected[:4]) }
	before := whole()
	x, c, code := session.Open(s, 3, 1, body, e, 0)
	y, d, _ := session.Open(s, 3, 1, body, e, 0)
	if code != api.OK || whole() != before {
		t.Errorf("%d; %s, before: %s", code, whole(), before)
	}
	spoilTexts(s, body, e.Selected, c.Cut, c.Put)
	mustBe(t, "the session", x, want)
	if string(d.Cut) != "f" || string(d.Put) != "abxzzbse\n " {
		t.Errorf("%q, %q", string(d.Cut), string(d.Put))
	}
	x.Move(of(3, "", "q"))
	spoil(x.Fields())
	mustBe(t, "another session", y, want)
	s = []rune("abc")
	_, c, _ = session.Open(s, 1, 1, []rune("x"), ordinary(), 0)
	if _ = append(c.Cut, '!'); string(s) != "abc" {
		t.Errorf("what is cut is still a part of the text: %q", string(s))
	}
}
