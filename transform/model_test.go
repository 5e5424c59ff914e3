package transform_test

import (
	"math/rand"
	"regexp"
	"strings"
	"testing"

	"standish/api"
	"standish/rematch"
	"standish/signs"
	"standish/transform"
)

// modelFill is what P12.1 says of parts that may be, on strings.
func modelFill(l []api.Form, groups []string) string {
	var out strings.Builder
	for _, f := range l {
		group := ""
		for k, s := range groups {
			if k == f.Group {
				group = s
			}
		}
		out.WriteString(map[bool]map[int]string{
			true: {
				api.FormText:  string(f.Text),
				api.FormGroup: string(signs.Case([]rune(group), f.Case)),
				api.FormIf:    string(f.Text),
				api.FormElse:  group,
				api.FormBoth:  string(f.Text),
			},
			false: {
				api.FormText: string(f.Text),
				api.FormElse: string(f.Else),
				api.FormBoth: string(f.Else),
			},
		}[group != ""][f.Kind])
	}
	return out.String()
}

// everyList is called for every list of at most n parts behind a head; texts do not come to stand side by side.
func everyList(head, choices []api.Form, n int, do func(l []api.Form)) {
	do(head)
	if n == 0 {
		return
	}
	for _, f := range choices {
		if len(head) > 0 && f.Kind == api.FormText && head[len(head)-1].Kind == api.FormText {
			continue
		}
		everyList(append(head[:len(head):len(head)], f), choices, n-1, do)
	}
}

// TestP121AllShortLists holds Fill of every short list of some parts, with groups that are there, empty and missing, to the model.
func TestP121AllShortLists(t *testing.T) {
	choices := []api.Form{text("t"), text("$0")}
	for number := range 4 {
		choices = append(choices, group(number, api.CaseNone), group(number, api.CaseUp), group(number, api.CasePascal), ifPart(number, "i"), elsePart(number, "e"), both(number, "b", "B"))
	}
	for _, texts := range [][]string{nil, {"a-b"}, {"a-b", ""}, {"a-b", "", "é"}, {"", "x"}, {"a", "b", "c", "d", "e"}} {
		everyList(nil, choices, 3, func(l []api.Form) {
			if got, want := string(transform.Fill(l, groupsOf(texts...))), modelFill(l, texts); got != want {
				t.Fatalf("Fill of %v with %q: %q, want %q", l, texts, got, want)
			}
		})
	}
}

// modelRun is what P12.2 says where there is no fault: it replaces the matches one by one, the last one first, so that the indices of the others still hold.
func modelRun(s []rune, found [][]int, l []api.Form) string {
	out := string(s)
	for i := len(found) - 1; i >= 0; i-- {
		match := found[i]
		var groups []string
		for k := 0; k < len(match); k += 2 {
			if match[k] == -1 {
				groups = append(groups, "")
			} else {
				groups = append(groups, string(s[match[k]:match[k+1]]))
			}
		}
		runes := []rune(out)
		out = string(runes[:match[0]]) + modelFill(l, groups) + string(runes[match[1]:])
	}
	return out
}

// holdToModel holds Run to the model with the matches of rematch.
func holdToModel(t *testing.T, s []rune, pattern string, l []api.Form, fold bool) {
	t.Helper()
	m, f := rematch.New([]rune(pattern), fold)
	if f.Code != api.OK {
		t.Fatalf("New(%q): %v", pattern, f)
	}
	found := m.All(s)
	for _, all := range []bool{true, false} {
		if !all && len(found) > 1 {
			found = found[:1]
		}
		want := modelRun(s, found, l)
		got, f := transform.Run(s, []rune(pattern), l, all, fold)
		if string(got) != want || f != (api.Fault{}) {
			t.Fatalf("Run(%q, %q, %v, %v, %v): %q, %v, want %q", string(s), pattern, l, all, fold, string(got), f, want)
		}
	}
}

// everyText is called for every text of at most n elements behind a head.
func everyText(head, alphabet string, n int, do func(text []rune)) {
	do([]rune(head))
	if n == 0 {
		return
	}
	for _, c := range alphabet {
		everyText(head+string(c), alphabet, n-1, do)
	}
}

// TestP122AllShortTexts holds some patterns and formats, in every short text, to the model.
func TestP122AllShortTexts(t *testing.T) {
	patterns := []string{"", "a", "b|", "a*", "a+?", "(a)|(b)", "(a)?b", "(b)*a", "^a|b$", "$", "((.).)", "[^a](.*)", "(a*)(b*)", "\n", "(?:(a)b?)*", "q(a)?"}
	for _, written := range []string{"", "-", "$0$0", "<$1>", "${2:/upcase}${1:/capitalize}", "${1:+y}", "${1:-$0}", "${1:?$1:n}$2", "$9a", "${0:?b:}"} {
		l := parts(t, written)
		for i, p := range patterns {
			everyText("", "ab\n", 4, func(s []rune) { holdToModel(t, s, p, l, false) })
			if i%2 == 1 {
				everyText("", "aBA", 3, func(s []rune) { holdToModel(t, s, p, l, true) })
			}
		}
	}
}

// TestP122AnyTexts holds longer texts and formats to a search with the library's expressions, which reads these patterns in the same way.
func TestP122AnyTexts(t *testing.T) {
	rnd := rand.New(rand.NewSource(12))
	patterns := []string{"a", "ab|b", "(a)(b)?", "a*", "[bé]+", "(?:a|(é))-", "(\\w)_(\\w)", "(.)-(.)", "(a?)(b?)(-?)", "\\s|(_)"}
	pieces := []string{"a", "b", "é", "-", "_", " ", "\n", "A", "É"}
	written := []string{"t", "$0", "$1", "$2", "${1:/upcase}", "${0:/camelcase}", "${2:/pascalcase}", "${1:+i}", "${1:-e}", "${2:?b:c}", "${3}"}
	some := func(from []string, most int) string {
		s := ""
		for range rnd.Intn(most + 1) {
			s += from[rnd.Intn(len(from))]
		}
		return s
	}
	for range 20000 {
		s, p, l := some(pieces, 14), patterns[rnd.Intn(len(patterns))], parts(t, some(written, 4))
		for _, fold := range []bool{false, true} {
			want := libraryRun(s, p, l, fold)
			got, f := transform.Run([]rune(s), []rune(p), l, true, fold)
			if string(got) != want || f != (api.Fault{}) {
				t.Fatalf("Run(%q, %q, %v, fold %v): %q, %v, want %q", s, p, l, fold, string(got), f, want)
			}
		}
	}
}

// libraryRun is Run for all matches of a pattern that looks neither for the beginning nor for the end of the text.
func libraryRun(s, pattern string, l []api.Form, fold bool) string {
	if fold {
		pattern = "(?i)" + pattern
	}
	r := regexp.MustCompile(pattern)
	out := ""
	for {
		at := r.FindStringSubmatchIndex(s)
		if at == nil {
			return out + s
		}
		out += s[:at[0]] + modelFill(l, r.FindStringSubmatch(s))
		rest := s[at[1]:]
		if at[0] == at[1] { // the next search begins one element further
			if rest == "" {
				return out
			}
			first := string([]rune(rest)[:1])
			out += first
			rest = rest[len(first):]
		}
		s = rest
	}
}
