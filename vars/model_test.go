package vars_test

import (
	"fmt"
	"math/rand"
	"regexp"
	"slices"
	"strconv"
	"testing"
	"time"

	"standish/api"
	"standish/vars"
)

// A telling is what P16.2 says of a variable: its text, for which draw takes the next draw.
type telling func(e api.Env, draw func() int) string

// modelBase finds what stands ahead of the last period that is not the first character.
var modelBase = regexp.MustCompile(`(?s)^(.+)\.[^.]*$`)

// model is the chapter's table, told with the library's means.
var model = map[string]telling{
	"TM_SELECTED_TEXT": func(e api.Env, _ func() int) string { return string(e.Selected) },
	"TM_CURRENT_LINE":  func(e api.Env, _ func() int) string { return string(e.Line) },
	"TM_CURRENT_WORD":  func(e api.Env, _ func() int) string { return string(e.Word) },
	"TM_LINE_INDEX":    func(e api.Env, _ func() int) string { return fmt.Sprint(e.Index) },
	"TM_LINE_NUMBER":   func(e api.Env, _ func() int) string { return fmt.Sprint(e.Index + 1) },
	"TM_FILENAME":      func(e api.Env, _ func() int) string { return string(e.File) },
	"TM_FILENAME_BASE": func(e api.Env, _ func() int) string {
		return modelBase.ReplaceAllString(string(e.File), "$1")
	},
	"TM_DIRECTORY":             func(e api.Env, _ func() int) string { return string(e.Dir) },
	"TM_FILEPATH":              func(e api.Env, _ func() int) string { return fmt.Sprintf("%s/%s", string(e.Dir), string(e.File)) },
	"CLIPBOARD":                func(e api.Env, _ func() int) string { return string(e.Clip) },
	"CURRENT_YEAR":             func(e api.Env, _ func() int) string { return fmt.Sprintf("%04d", e.Clock[0]) },
	"CURRENT_YEAR_SHORT":       func(e api.Env, _ func() int) string { return fmt.Sprintf("%04d", e.Clock[0])[2:] },
	"CURRENT_MONTH":            func(e api.Env, _ func() int) string { return fmt.Sprintf("%02d", e.Clock[1]) },
	"CURRENT_DATE":             func(e api.Env, _ func() int) string { return fmt.Sprintf("%02d", e.Clock[2]) },
	"CURRENT_HOUR":             func(e api.Env, _ func() int) string { return fmt.Sprintf("%02d", e.Clock[3]) },
	"CURRENT_MINUTE":           func(e api.Env, _ func() int) string { return fmt.Sprintf("%02d", e.Clock[4]) },
	"CURRENT_SECOND":           func(e api.Env, _ func() int) string { return fmt.Sprintf("%02d", e.Clock[5]) },
	"CURRENT_MONTH_NAME":       func(e api.Env, _ func() int) string { return time.Month(e.Clock[1]).String() },
	"CURRENT_DAY_NAME":         func(e api.Env, _ func() int) string { return time.Weekday(e.Clock[6]).String() },
	"CURRENT_MONTH_NAME_SHORT": func(e api.Env, _ func() int) string { return time.Month(e.Clock[1]).String()[:3] },
	"CURRENT_DAY_NAME_SHORT":   func(e api.Env, _ func() int) string { return time.Weekday(e.Clock[6]).String()[:3] },
	"RANDOM": func(_ api.Env, draw func() int) string {
		s := fmt.Sprintf("%08d", draw())
		return s[len(s)-6:]
	},
	"RANDOM_HEX": func(_ api.Env, draw func() int) string { return fmt.Sprintf("%06x", draw()) },
	"UUID": func(_ api.Env, draw func() int) string {
		s := fmt.Sprintf("%06x%06x%06x%06x%06x", draw(), draw(), draw(), draw(), draw())
		return fmt.Sprintf("%s-%s-4%s-8%s-%s", s[:8], s[8:12], s[12:15], s[15:18], s[18:])
	},
}

// names are those of the table, in order.
func names() []string {
	var l []string
	for name := range model {
		l = append(l, name)
	}
	slices.Sort(l)
	return l
}

// modelValue is what P16.2 says of a name that is in the table, for arguments that may be.
func modelValue(e api.Env, name string, used int) (string, int) {
	ample := append(slices.Clone(e.Draws), make([]int, 1100)...)
	s := model[name](e, func() int { used++; return ample[used-1] })
	return s, used
}

// mustTell is that the variable of this name has the text that the model says.
func mustTell(t *testing.T, e api.Env, name string, used int) {
	t.Helper()
	want, then := modelValue(e, name, used)
	mustBe(t, e, name, used, want, then)
}

// mustTellAll is that for all names.
func mustTellAll(t *testing.T, e api.Env, used int) {
	t.Helper()
	for name := range model {
		mustTell(t, e, name, used)
	}
}

// anyRunes returns at most MaxEnv characters.
func anyRunes(rnd *rand.Rand) []rune {
	some := []rune{'a', 'b', '.', '/', '$', '}', '\\', '\n', ' ', 'é', 0, 0xd7ff, 0xe000, 0xfffd, 0x10ffff}
	s := make([]rune, rnd.Intn(8))
	if rnd.Intn(5) == 0 {
		s = make([]rune, rnd.Intn(api.MaxEnv+1))
	}
	for i := range s {
		s[i] = some[rnd.Intn(len(some))]
	}
	return s
}

// anyEnv returns an environment that is valid.
func anyEnv(rnd *rand.Rand) api.Env {
	e := api.Env{Selected: anyRunes(rnd), Line: anyRunes(rnd), Word: anyRunes(rnd), File: anyRunes(rnd), Dir: anyRunes(rnd), Clip: anyRunes(rnd), Index: rnd.Intn(10000)}
	for i := range e.Clock {
		e.Clock[i] = least[i] + rnd.Intn(most[i]-least[i]+1)
	}
	for range rnd.Intn(api.MaxDraws + 1) {
		e.Draws = append(e.Draws, rnd.Intn(0x1000000)>>rnd.Intn(25))
	}
	return e
}

// TestP162AnyEnv holds all variables in random environments to the model.
func TestP162AnyEnv(t *testing.T) {
	rnd := rand.New(rand.NewSource(16))
	for range 20000 {
		e := anyEnv(rnd)
		if !vars.May(e) {
			t.Fatalf("May(%s) is false", told(e))
		}
		used := rnd.Intn(50)
		if rnd.Intn(4) == 0 {
			used = rnd.Intn(1001)
		}
		mustTellAll(t, e, used)
	}
}

// TestP163Repeated is P16.3: whatever was asked before, and of which environment, the text is the same.
func TestP163Repeated(t *testing.T) {
	rnd := rand.New(rand.NewSource(163))
	envs := []api.Env{{}, ordinary()}
	for range 8 {
		envs = append(envs, anyEnv(rnd))
	}
	all := names()
	first := map[string]string{}
	for range 200000 {
		i, name, used := rnd.Intn(len(envs)), all[rnd.Intn(len(all))], rnd.Intn(12)
		s, ok, then := vars.Value(envs[i], []rune(name), used)
		got := fmt.Sprintf("%q, %v, %d", string(s), ok, then)
		key := strconv.Itoa(i) + " " + name + " " + strconv.Itoa(used)
		if before, asked := first[key]; asked && got != before {
			t.Fatalf("Value(%s, %s, %d): %s, and before that %s", told(envs[i]), name, used, got, before)
		}
		first[key] = got
		if ok != (i > 0) {
			t.Fatalf("Value(%s, %s, %d): %s", told(envs[i]), name, used, got)
		}
	}
}

// TestP163Environment is that a variable that is told of one part of the environment depends on no other part.
func TestP163Environment(t *testing.T) {
	parts := map[string]func(to *api.Env, from api.Env){
		"Selected": func(to *api.Env, from api.Env) { to.Selected = from.Selected },
		"Line":     func(to *api.Env, from api.Env) { to.Line = from.Line },
		"Word":     func(to *api.Env, from api.Env) { to.Word = from.Word },
		"File":     func(to *api.Env, from api.Env) { to.File = from.File },
		"Dir":      func(to *api.Env, from api.Env) { to.Dir = from.Dir },
		"Clip":     func(to *api.Env, from api.Env) { to.Clip = from.Clip },
		"Index":    func(to *api.Env, from api.Env) { to.Index = from.Index },
		"Draws":    func(to *api.Env, from api.Env) { to.Draws = from.Draws },
	}
	for i := range 7 {
		parts["Clock"+strconv.Itoa(i)] = func(to *api.Env, from api.Env) { to.Clock[i] = from.Clock[i] }
	}
	tells := map[string][]string{
		"TM_SELECTED_TEXT": {"Selected"}, "TM_CURRENT_LINE": {"Line"}, "TM_CURRENT_WORD": {"Word"}, "TM_LINE_INDEX": {"Index"}, "TM_LINE_NUMBER": {"Index"},
		"TM_FILENAME": {"File"}, "TM_FILENAME_BASE": {"File"}, "TM_DIRECTORY": {"Dir"}, "TM_FILEPATH": {"Dir", "File"}, "CLIPBOARD": {"Clip"},
		"CURRENT_YEAR": {"Clock0"}, "CURRENT_YEAR_SHORT": {"Clock0"}, "CURRENT_MONTH": {"Clock1"}, "CURRENT_DATE": {"Clock2"}, "CURRENT_HOUR": {"Clock3"}, "CURRENT_MINUTE": {"Clock4"}, "CURRENT_SECOND": {"Clock5"},
		"CURRENT_MONTH_NAME": {"Clock1"}, "CURRENT_MONTH_NAME_SHORT": {"Clock1"}, "CURRENT_DAY_NAME": {"Clock6"}, "CURRENT_DAY_NAME_SHORT": {"Clock6"},
		"RANDOM": {"Draws"}, "RANDOM_HEX": {"Draws"}, "UUID": {"Draws"},
	}
	if len(tells) != len(model) {
		t.Fatalf("%d names, want %d", len(tells), len(model))
	}
	rnd := rand.New(rand.NewSource(1632))
	for range 500 {
		e, other, used := anyEnv(rnd), anyEnv(rnd), rnd.Intn(45)
		for name, of := range tells {
			mixed := other
			for _, part := range of {
				parts[part](&mixed, e)
			}
			want, then := modelValue(e, name, used)
			mustBe(t, mixed, name, used, want, then)
		}
	}
}
