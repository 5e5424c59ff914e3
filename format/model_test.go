package format_test

import (
	"fmt"
	"math/rand"
	"regexp"
	"strconv"
	"strings"
	"testing"

	"standish/api"
	"standish/format"
)

// The model reads a format by regular expressions: a part, a backslash with what it stands for, a number without braces.
var (
	modelBraced = regexp.MustCompile(`(?s)^\$\{([0-9]{1,2})(?:()\}|:/(upcase|downcase|capitalize|pascalcase|camelcase)\}|:\+((?:[^}\\]|\\.)*)\}|:\?((?:[^:\\]|\\.)*):((?:[^}\\]|\\.)*)\}|:-((?:[^}\\]|\\.)*)\}|:((?:(?:[^}\\/+?-]|\\.)(?:[^}\\]|\\.)*)?)\})`)
	modelBare   = regexp.MustCompile(`^\$([0-9]+)`)
	modelChar   = regexp.MustCompile(`(?s)^(?:\\([\\$}/])|([^/]))`)
)

var modelPlain = strings.NewReplacer(`\\`, `\`, `\}`, `}`, `\:`, `:`, `\$`, `$`, `\/`, `/`)

// modelScan returns the parts of s, and the bytes of s before its /, or -1.
func modelScan(s string) ([]api.Form, int) {
	var l []api.Form
	at := 0
	for at < len(s) && s[at] != '/' {
		rest := s[at:]
		if f, n := modelPart(rest); n > 0 {
			l = append(l, f)
			at += n
			continue
		}
		found := modelChar.FindStringSubmatch(rest)
		if len(l) == 0 || l[len(l)-1].Kind != api.FormText {
			l = append(l, api.Form{})
		}
		last := &l[len(l)-1]
		last.Text = append(last.Text, []rune(found[1]+found[2])...)
		at += len(found[0])
	}
	if at == len(s) {
		return nil, -1
	}
	return l, at
}

// modelPart returns the part with which s begins, and its bytes, or none.
func modelPart(s string) (api.Form, int) {
	if found := modelBare.FindStringSubmatch(s); found != nil && len(found[1]) < 3 {
		n, _ := strconv.Atoi(found[1])
		return group(n, 0), len(found[0])
	}
	at := modelBraced.FindStringSubmatchIndex(s)
	if at == nil {
		return api.Form{}, 0
	}
	has := func(k int) bool { return at[2*k] >= 0 }
	plain := func(k int) string { return modelPlain.Replace(s[at[2*k]:at[2*k+1]]) }
	n, _ := strconv.Atoi(plain(1))
	switch {
	case has(2):
		return group(n, 0), at[1]
	case has(3):
		return group(n, map[string]int{"upcase": 1, "downcase": 2, "capitalize": 3, "pascalcase": 4, "camelcase": 5}[plain(3)]), at[1]
	case has(4):
		return ifPart(n, plain(4)), at[1]
	case has(5):
		return both(n, plain(5), plain(6)), at[1]
	case has(7):
		return elsePart(n, plain(7)), at[1]
	}
	return elsePart(n, plain(8)), at[1]
}

// holdToModel holds what Scan returns to the model, what May reports of it to P11.2, and what Print makes of it to P11.3.
func holdToModel(t *testing.T, s string) {
	t.Helper()
	want, stop := modelScan(s)
	got, end, ok := format.Scan([]rune(s), 0)
	if stop < 0 {
		if ok || len(got) > 0 || end != 0 {
			t.Fatalf("Scan(%q): %v, %d, %v, want none", s, got, end, ok)
		}
		return
	}
	if !ok || end != len([]rune(s[:stop])) || fmt.Sprint(got) != fmt.Sprint(want) {
		t.Fatalf("Scan(%q): %v, %d, %v, want %v, %d", s, got, end, ok, want, stop)
	}
	p, printed := format.Print(got)
	again, end, ok := format.Scan(append(p, '/'), 0)
	if !format.May(got) || !printed || !ok || end != len(p) || fmt.Sprint(again) != fmt.Sprint(want) {
		t.Fatalf("Scan(%q): %v, printed as %q, read as %v", s, got, string(p), again)
	}
}

// everyText runs do on all texts of up to n elements of an alphabet, behind a head.
func everyText(head, alphabet string, n int, do func(s string)) {
	do(head)
	if n == 0 {
		return
	}
	for _, c := range alphabet {
		everyText(head+string(c), alphabet, n-1, do)
	}
}

// TestP111AllShortTexts holds every short text of some alphabets, alone and with a / behind it, to the model.
func TestP111AllShortTexts(t *testing.T) {
	cases := []struct {
		head, alphabet string
		n              int
	}{
		{"", "${1}:/\\", 5},
		{"$", "${0}9a", 5},
		{"${1", "}:+-?/\\$a", 4},
		{"${1:", "}:+-?/\\a", 5},
		{"${1:?", "}:/\\$é", 5},
		{"${1:+", "}:/\\$1", 5},
		{"a$2${3:?:", "}:/\\$1{", 4},
	}
	for _, c := range cases {
		everyText(c.head, c.alphabet, c.n, func(s string) {
			holdToModel(t, s)
			holdToModel(t, s+"/")
		})
	}
}

// TestP111AnyText holds texts of what parts consist of, and of whole parts, to the model.
func TestP111AnyText(t *testing.T) {
	rnd := rand.New(rand.NewSource(11))
	pieces := []string{"$", "{", "}", "1", "12", "123", ":", "/", "+", "?", "-", "\\", "a", "é", "\n", "upcase", "camelcase", "${1:", "${2:+", "${3:-", "${4:?", "${5:/", "${6}", "$7", "${8:/downcase}", "${9:+a}", "${0:?b:c}", "${1:d}", "\\}", "\\:", "\\/", "\\$", "\\\\"}
	for range 80000 {
		s := ""
		for range rnd.Intn(14) {
			s += pieces[rnd.Intn(len(pieces))]
		}
		holdToModel(t, s+"/")
	}
}

// TestP113AnyParts prints lists of parts with all sorts of texts.
func TestP113AnyParts(t *testing.T) {
	rnd := rand.New(rand.NewSource(113))
	alphabet := []rune("\\\\\\}}:$$/{1a+-?é\n")
	some := func(least int) string {
		s := make([]rune, least+rnd.Intn(4))
		for i := range s {
			s[i] = alphabet[rnd.Intn(len(alphabet))]
		}
		return string(s)
	}
	for range 20000 {
		var l []api.Form
		for range rnd.Intn(8) {
			n := rnd.Intn(100)
			switch rnd.Intn(5) {
			case 0:
				if len(l) == 0 || l[len(l)-1].Kind != api.FormText {
					l = append(l, text(some(1)))
				}
			case 1:
				l = append(l, group(n, rnd.Intn(6)))
			case 2:
				l = append(l, ifPart(n, some(0)))
			case 3:
				l = append(l, elsePart(n, some(0)))
			case 4:
				l = append(l, both(n, some(0), some(0)))
			}
		}
		mustMay(t, true, l...)
		mustReturn(t, l)
	}
}
