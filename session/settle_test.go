package session_test

import (
	"fmt"
	"math"
	"slices"
	"strings"
	"testing"

	"standish/api"
	"standish/session"
)

// mustSettle is what Settle of a text returns, and what the session is then.
func mustSettle(t *testing.T, x *session.Session, s, changes, want string) {
	t.Helper()
	l, lesser, code := x.Settle([]rune(s))
	if code != api.OK || len(l) != len(lesser) || written(l, lesser) != changes {
		t.Errorf("Settle of %q: %s, %d, want %s", s, written(l, lesser), code, changes)
	}
	mustBe(t, fmt.Sprintf("Settle of %q", s), x, want)
}

// mustFail is that Settle of a text returns an error and nothing else, and that nothing has changed.
func mustFail(t *testing.T, x *session.Session, s []rune, want api.Errno) {
	t.Helper()
	before := told(x)
	l, lesser, code := x.Settle(s)
	if code != want || len(l)+len(lesser) > 0 || told(x) != before {
		t.Errorf("Settle of %.50q: %d changes, %d, want %d; %s, before: %s", string(s), len(l), code, want, told(x), before)
	}
}

// TestP193Settled is Settle of texts as they are, written out.
func TestP193Settled(t *testing.T) {
	for _, w := range []struct{ body, s, changes, want string }{
		{"${1:a}$1", "aa", "", "P1:0-1=0* M1:1-2=0 P0:2-2=2 (0-2)"},
		{"${1:a}$1", "ab", "1:b>a:false", "P1:0-1=0* M1:1-2=0 P0:2-2=2 (0-2)"},
		{"${1:a}$1", "abc", "1:b>a:false", "P1:0-1=0* M1:1-2=0 P0:2-2=2 (0-2)"},
		{"$1${1:a}$1", "bcd", "0:b>c:true 2:d>c:false", "M1:0-1=1 P1:1-2=1* M1:2-3=1 P0:3-3=3 (0-3)"},
		{"${1:ab}${1/b/xy/}", "abaxy", "", "P1:0-2=0* F1:2-5=0/b/xy/falsefalsetrue P0:5-5=2 (0-5)"},
		{"${1:ab}${1/b/xy/}", "aaaxy", "2:axy>aa:false", "P1:0-2=0* F1:2-4=0/b/xy/falsefalsetrue P0:4-4=2 (0-4)"},
		{"${1:ab}${1/b/xy/}-", "bbaxy-", "2:axy>xyb:false", "P1:0-2=0* F1:2-5=0/b/xy/falsefalsetrue P0:6-6=2 (0-6)"},
		{"${1:ab}${1/.//g}${1/$/c/}", "axabc", "2:abc>axc:false", "P1:0-2=0* F1:2-2=0/.//truefalsetrue F1:2-5=0/$/c/falsefalsetrue P0:5-5=3 (0-5)"},
		{"${0:c}${1:a}$1$0", "bcde", "2:d>c:false 3:e>b:false", "P0:0-1=0 P1:1-2=1* M1:2-3=1 M0:3-4=0 (0-4)"},
		{"$2${2:a}${1:b}", "cde", "0:c>d:true", "M2:0-1=1 P2:1-2=1 P1:2-3=2* P0:3-3=3 (0-3)"},
		// what is nested comes first, so that the others show it at once
		{"${2:-$1-}${1:k}$2", "-k-m-k-", "1:k>m:true 4:-k->-m-:false", "P2:0-3=0 M1:1-2=2^0 P1:3-4=2* M2:4-7=0 P0:7-7=4 (0-7)"},
		{"$2${2:-$1-}${1:k}", "-k--k-m", "4:k>m:true 0:-k->-m-:true", "M2:0-3=1 P2:3-6=1 M1:4-5=3^1 P1:6-7=3* P0:7-7=4 (0-7)"},
		{"$3${3:${2:$1}}$2${1:k}$1", "abcde", "1:b>d:true 0:a>d:true 2:c>d:true 4:e>d:false", "M3:0-1=1 P3:1-2=1 P2:1-2=2^1 M1:1-2=5^2 M2:2-3=2 P1:3-4=5* M1:4-5=5 P0:5-5=7 (0-5)"},
	} {
		x, _ := open(t, "", 0, 0, w.body)
		mustSettle(t, x, w.s, w.changes, w.want)
	}
}

// TestP193Moved is Settle after a Move, where a text becomes longer or shorter, and mirrors stand side by side without anything between them.
func TestP193Moved(t *testing.T) {
	for _, w := range []struct {
		body          string
		active        int
		c             api.Change
		s             string
		changes, want string
	}{
		{"$1$1$1", 0, of(0, "", "ab"), "ab", "2:>ab:false 4:>ab:false", "P1:0-2=0* M1:2-4=0 M1:4-6=0 P0:6-6=3 (0-6)"},
		{"$1${1:a}$1", 1, of(1, "a", ""), "aa", "0:a>:true 0:a>:false", "M1:0-0=1 P1:0-0=1* M1:0-0=1 P0:0-0=3 (0-0)"},
		{"$1${1:}$1", 1, of(0, "", "a"), "a", "0:>a:true 2:>a:false", "M1:0-1=1 P1:1-2=1* M1:2-3=1 P0:3-3=3 (0-3)"},
		{"$2$1${2:}$1$2", 1, of(0, "", "a"), "a", "1:>a:false", "M2:0-0=2 P1:0-1=1* P2:1-1=2 M1:1-2=1 M2:2-2=2 P0:2-2=5 (0-2)"},
		{"$2$1${2:}$1$2", 2, of(0, "", "a"), "a", "0:>a:true 2:>a:false", "M2:0-1=2 P1:1-1=1 P2:1-2=2* M1:2-2=1 M2:2-3=2 P0:3-3=5 (0-3)"},
		{"${2:$1}${1:}${3:$1}$2$3", 2, of(0, "", "a"), "a", "0:>a:true 2:>a:false 3:>a:false 4:>a:false", "P2:0-1=0 M1:0-1=2^0 P1:1-2=2* P3:2-3=3 M1:2-3=2^3 M2:3-4=0 M3:4-5=3 P0:5-5=7 (0-5)"},
		{"${2:a$1b}${1:cd}$2${2/c/-/}", 2, of(4, "c", ""), "acdbdacdba-db", "1:cd>d:true 4:acdb>adb:false 7:a-db>adb:false", "P2:0-3=0 M1:1-2=2^0 P1:3-4=2* M2:4-7=0 F2:7-10=0/c/-/falsefalsetrue P0:10-10=5 (0-10)"},
		{"$0${1:a}$0$1", 0, of(0, "", "xy"), "xyaa", "3:>xy:false", "P0:0-2=0* P1:2-3=1 M0:3-5=0 M1:5-6=1 (0-6)"},
	} {
		x, _ := open(t, "", 0, 0, w.body)
		activate(t, x, w.active)
		if !x.Move(w.c) {
			t.Errorf("%q does not move", w.body)
		}
		mustSettle(t, x, w.s, w.changes, w.want)
	}
}

// TestP193BadText is ErrArg for a text with an element that is no character, wherever it stands, and for one in which the session does not lie.
func TestP193BadText(t *testing.T) {
	x, s := open(t, "abc", 1, 0, "${1:xy}$1")
	if len(s) != 7 || x.Span().To != 5 {
		t.Fatal(told(x))
	}
	for _, bad := range []rune{-1, 0xd800, 0xdfff, 0x110000, math.MinInt32, math.MaxInt32} {
		for i := range s {
			spoiled := slices.Clone(s)
			spoiled[i] = bad
			mustFail(t, x, spoiled, api.ErrArg)
		}
		mustFail(t, x, append(slices.Repeat([]rune{'a'}, 1000), bad), api.ErrArg)
		mustFail(t, x, append(slices.Repeat([]rune{'a'}, 5000), bad), api.ErrArg)
	}
	for n := range 5 {
		mustFail(t, x, s[:n], api.ErrArg)
	}
	for n := 5; n <= 7; n++ {
		mustSettle(t, x, string(s[:n]), "", told(x))
	}
	for _, c := range []rune{0, 0xd7ff, 0xe000, 0x10ffff} {
		if l, _, code := x.Settle([]rune{'a', c, 'b', c, c}); code != api.OK || len(l) != 1 || !slices.Equal(l[0].Put, []rune{c, 'b'}) {
			t.Errorf("%x: %v, %d", c, l, code)
		}
	}
}

// TestP193FarAway is ErrArg also for a long text, if the session lies behind its end.
func TestP193FarAway(t *testing.T) {
	x, _ := open(t, "", 0, 0, "${1:a}$1")
	x.Shift(api.Change{Put: slices.Repeat([]rune{'a'}, 3000)}, true)
	mustFail(t, x, slices.Repeat([]rune{'a'}, 1000), api.ErrArg)
	mustFail(t, x, slices.Repeat([]rune{'a'}, 3001), api.ErrArg)
	mustFail(t, x, slices.Repeat([]rune{'a'}, 3002), api.ErrFull)
}

// TestP193MaxText is ErrFull for a text that is too long, also if the mirrors would make it shorter, or nothing is to be done.
func TestP193MaxText(t *testing.T) {
	for n := 995; n <= 1005; n++ {
		for _, body := range []string{"a", "${1:aa}$1", "${1:aa}${1/a//}"} {
			x, _ := open(t, "", 0, 0, body)
			s := slices.Repeat([]rune{'a'}, n)
			if n > 1000 {
				mustFail(t, x, s, api.ErrFull)
			} else if _, _, code := x.Settle(s); code != api.OK {
				t.Errorf("%d elements: %d", n, code)
			}
		}
	}
	x, _ := open(t, "", 0, 0, "$1")
	mustFail(t, x, make([]rune, 3000000), api.ErrFull)
}

// TestP193Full is ErrFull for a text that is too long after one of the changes, on both sides of MaxText.
func TestP193Full(t *testing.T) {
	for n := 980; n <= 1000; n++ {
		for put := range 12 {
			x, s := open(t, "-"+strings.Repeat("x", n-3), 1, 0, "${1:a}$1")
			c := of(2, "", strings.Repeat("b", put))
			x.Move(c)
			s = applied(t, s, c)
			switch {
			case len(s) > 1000 || len(s)+put > 1000:
				mustFail(t, x, s, api.ErrFull)
			case put > 0:
				mustSettle(t, x, string(s), fmt.Sprintf("%d:a>a%s:false", put+2, strings.Repeat("b", put)), fmt.Sprintf("P1:1-%d=0* M1:%d-%d=0 P0:%d-%d=2 (1-%d)", put+2, put+2, 2*put+3, 2*put+3, 2*put+3, 2*put+3))
			}
		}
	}
}

// TestP193FullInBetween is ErrFull for a text that is too long after a change, though a later one would make it shorter; the order of the mirrors decides.
func TestP193FullInBetween(t *testing.T) {
	const longer, shorter = "${1/b/bbbbb/g}", "${1/[^b]/ccccc/g}" // by 8 each, if the home becomes "bb"
	for rest := 970; rest <= 986; rest++ {
		for _, body := range []string{"${1:aa}" + longer + shorter, "${1:aa}" + shorter + longer} {
			x, s := open(t, strings.Repeat("x", rest), 0, 0, body)
			c := of(0, "aa", "bb")
			x.Move(c)
			s = applied(t, s, c)
			if len(s) != rest+14 {
				t.Fatalf("%q: %q", body, string(s))
			}
			if strings.HasPrefix(body, "${1:aa}"+longer) && rest+22 > 1000 {
				mustFail(t, x, s, api.ErrFull)
			} else if l, lesser, code := x.Settle(s); code != api.OK || len(l) != 2 {
				t.Errorf("%q and %d others: %s, %d", body, rest, written(l, lesser), code)
			}
		}
	}
}

// TestP193AfterError is that a Settle which fails after some changes has made none of them, and one that follows makes them all.
func TestP193AfterError(t *testing.T) {
	x, s := open(t, strings.Repeat("x", 980), 980, 0, "${1:a}$1$1$1")
	c := of(981, "", "bcdef")
	x.Move(c)
	s = applied(t, s, c)
	mustFail(t, x, s, api.ErrFull)
	mustFail(t, x, s, api.ErrFull)
	mustFail(t, x, s[:980], api.ErrArg)
	c = of(982, "cdef", "")
	if !x.Move(c) {
		t.Fatal(told(x))
	}
	s = applied(t, s, c)
	mustSettle(t, x, string(s), "982:a>ab:false 984:a>ab:false 986:a>ab:false", "P1:980-982=0* M1:982-984=0 M1:984-986=0 M1:986-988=0 P0:988-988=4 (980-988)")
}

// TestP193LongTell is that what a mirror cannot tell is nothing, as P17.3 says, and no error.
func TestP193LongTell(t *testing.T) {
	x, s := open(t, "", 0, 0, "${1:a}${1/a/"+strings.Repeat("b", 300)+"/g}")
	c := of(1, "", "aaa")
	x.Move(c)
	s = applied(t, s, c)
	mustSettle(t, x, string(s), "4:"+strings.Repeat("b", 300)+">:false", "P1:0-4=0* F1:4-4=0/a/"+strings.Repeat("b", 300)+"/truefalsetrue P0:4-4=2 (0-4)")
}

// TestP193OwnMemory is R4 and R10: Settle does not change or keep its text, and its changes are neither the session's nor each other's.
func TestP193OwnMemory(t *testing.T) {
	x, _ := open(t, "", 0, 0, "${1:ab}$1${1/a/xyz/}$1")
	whole := []rune("cabbcacabb!!")
	l, lesser, code := x.Settle(whole[:10])
	if code != api.OK || written(l, lesser) != "2:bb>ca:false 4:caca>cxyz:false 8:bb>ca:false" {
		t.Fatalf("%s, %d", written(l, lesser), code)
	}
	before := told(x)
	var slots [][]rune
	for _, c := range l {
		slots = append(slots, c.Cut, c.Put)
	}
	mustNotShare(t, slots)
	if string(whole) != "cabbcacabb!!" {
		t.Errorf("a change shares memory with the text: %q", string(whole))
	}
	spoilTexts(whole)
	mustBe(t, "a session", x, before)
}
