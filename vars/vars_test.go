package vars_test

import (
	"fmt"
	"math"
	"slices"
	"strings"
	"testing"

	"standish/api"
	"standish/signs"
	"standish/vars"
)

func ExampleValue() {
	e := api.Env{File: []rune("a.b.c"), Clock: [7]int{2026, 3, 9, 4, 5, 6, 1}, Draws: []int{0xabcdef}}
	used := 0
	for _, name := range []string{"TM_FILENAME_BASE", "CURRENT_DAY_NAME", "RANDOM_HEX", "RANDOM_HEX", "PATH"} {
		var text []rune
		var ok bool
		text, ok, used = vars.Value(e, []rune(name), used)
		fmt.Printf("%q %v %d\n", string(text), ok, used)
	}
	// Output:
	// "a.b" true 0
	// "Monday" true 0
	// "abcdef" true 1
	// "000000" true 2
	// "" false 2
}

// ordinary is a valid environment.
func ordinary() api.Env {
	return api.Env{Selected: []rune("sel"), Line: []rune("the line"), Word: []rune("line"), File: []rune("a.b.c"), Dir: []rune("/d/e"), Clip: []rune("x\ny"), Index: 41, Clock: [7]int{2026, 11, 9, 4, 5, 6, 1}, Draws: []int{1234567, 0xabcdef, 0, 0xffffff, 0x123456, 7}}
}

// told writes an environment, for the messages.
func told(e api.Env) string {
	return fmt.Sprintf("{%.20q %.20q %.20q %.20q %.20q %.20q %d %v %.60v}", string(e.Selected), string(e.Line), string(e.Word), string(e.File), string(e.Dir), string(e.Clip), e.Index, e.Clock, fmt.Sprint(e.Draws))
}

// The bounds of each part of the clock, by P16.1.
var (
	least = [7]int{0, 1, 1, 0, 0, 0, 0}
	most  = [7]int{9999, 12, 31, 23, 59, 59, 6}
)

// texts are the texts of an environment.
func texts(e *api.Env) []*[]rune {
	return []*[]rune{&e.Selected, &e.Line, &e.Word, &e.File, &e.Dir, &e.Clip}
}

// mustAllow is that May(e) is want, and that there is a variable if it is, and none if not.
func mustAllow(t *testing.T, e api.Env, want bool) {
	t.Helper()
	if vars.May(e) != want {
		t.Fatalf("May(%s) is %v", told(e), !want)
	}
	s, ok, then := vars.Value(e, []rune("CURRENT_MONTH_NAME_SHORT"), 3)
	if ok != want || (len(s) == 3) != want || then != 3 {
		t.Fatalf("Value(%s): %q, %v, %d, but May is %v", told(e), string(s), ok, then, want)
	}
}

// mustBe is that the variable of this name has this text, and that so many draws have been used then.
func mustBe(t *testing.T, e api.Env, name string, used int, want string, then int) {
	t.Helper()
	if got, ok, after := vars.Value(e, []rune(name), used); !slices.Equal(got, []rune(want)) || !ok || after != then {
		t.Fatalf("Value(%s, %s, %d): %q, %v, %d, want %q, %d", told(e), name, used, string(got), ok, after, want, then)
	}
}

// mustRefuse is that there is no such variable, for these arguments.
func mustRefuse(t *testing.T, e api.Env, name []rune, used int) {
	t.Helper()
	if got, ok, after := vars.Value(e, name, used); len(got) != 0 || ok || after != used {
		t.Fatalf("Value(%s, %.60q, %d): %q, %v, %d", told(e), string(name), used, string(got), ok, after)
	}
}

// noCharacters are elements that are no characters.
var noCharacters = []rune{math.MinInt32, -'a', -1, 0xd800, 0xdbff, 0xdc00, 0xdfff, 0x110000, 'a' + math.MinInt32, math.MaxInt32}

func TestP161Environments(t *testing.T) {
	mustAllow(t, ordinary(), true)
	mustAllow(t, api.Env{Clock: [7]int{0, 1, 1, 0, 0, 0, 0}}, true)
	mustAllow(t, api.Env{}, false) // there is no month 0, and no day 0
	e := api.Env{Index: 9999, Clock: most, Draws: slices.Repeat([]int{0xffffff}, api.MaxDraws)}
	for _, s := range texts(&e) {
		*s = slices.Repeat([]rune{0x10ffff}, api.MaxEnv)
	}
	mustAllow(t, e, true)
}

// TestP161TextLengths is each text alone with each length.
func TestP161TextLengths(t *testing.T) {
	if api.MaxEnv != 100 {
		t.Fatalf("MaxEnv is %d", api.MaxEnv)
	}
	for i := range 6 {
		for _, c := range []rune{'a', '\n', 0, 'é', 0x10ffff} {
			for n := range 110 {
				e := ordinary()
				*texts(&e)[i] = slices.Repeat([]rune{c}, n)
				mustAllow(t, e, n <= 100)
			}
			e := ordinary()
			*texts(&e)[i] = slices.Repeat([]rune{c}, 100000)
			mustAllow(t, e, false)
		}
	}
}

// TestP161EveryElement is each text with each character, and with what is near.
func TestP161EveryElement(t *testing.T) {
	e := ordinary()
	all := texts(&e)
	for c := rune(-1000); c <= 0x110000+1000; c++ {
		for _, s := range all {
			before := *s
			*s = []rune{c}
			if vars.May(e) != (signs.Class(c) != api.ClassNone) {
				t.Fatalf("May(%s) with %x is %v", told(e), c, vars.May(e))
			}
			*s = before
		}
	}
}

// TestP161NoCharacters is an element that is no character, at each index of each text.
func TestP161NoCharacters(t *testing.T) {
	for i := range 6 {
		for _, bad := range noCharacters {
			for _, n := range []int{1, 2, 5, 99, 100} {
				for at := range n {
					e := ordinary()
					s := slices.Repeat([]rune{'a'}, n)
					*texts(&e)[i] = s
					mustAllow(t, e, true)
					s[at] = bad
					mustAllow(t, e, false)
				}
			}
		}
	}
}

var extremes = []int{math.MinInt, math.MinInt32, -1 << 16, math.MaxInt32, math.MaxInt, 1 << 32, 1<<32 + 1, 1 << 24, -256}

func TestP161Index(t *testing.T) {
	e := ordinary()
	for e.Index = -300; e.Index <= 10300; e.Index++ {
		mustAllow(t, e, 0 <= e.Index && e.Index <= 9999)
	}
	for _, e.Index = range extremes {
		mustAllow(t, e, false)
	}
}

func TestP161Clock(t *testing.T) {
	for part := range 7 {
		for _, others := range [][7]int{ordinary().Clock, least, most} {
			e := ordinary()
			e.Clock = others
			mustAllow(t, e, true)
			for n := -20; n <= 10020; n++ {
				e.Clock[part] = n
				mustAllow(t, e, least[part] <= n && n <= most[part])
			}
			for _, n := range extremes {
				e.Clock[part] = n
				mustAllow(t, e, false)
			}
		}
	}
}

// TestP161AnyDate is that the parts of the clock are not held against each other.
func TestP161AnyDate(t *testing.T) {
	for month := 1; month <= 12; month++ {
		for day := 1; day <= 31; day++ {
			for weekday := range 7 {
				for _, year := range []int{0, 1900, 2023, 2024, 9999} {
					e := ordinary()
					e.Clock = [7]int{year, month, day, 0, 0, 0, weekday}
					mustAllow(t, e, true)
				}
			}
		}
	}
}

func TestP161Draws(t *testing.T) {
	if api.MaxDraws != 40 {
		t.Fatalf("MaxDraws is %d", api.MaxDraws)
	}
	for _, draw := range []int{0, 1, 0xffffff} {
		for _, n := range []int{0, 1, 2, 39, 40, 41, 42, 64, 1000} {
			e := ordinary()
			e.Draws = slices.Repeat([]int{draw}, n)
			mustAllow(t, e, n <= 40)
		}
	}
	for _, n := range []int{1, 2, 5, 39, 40} {
		for at := range n {
			for _, bad := range append([]int{-1, -2, -0xffffff, 0x1000000, 0x1000001, 0x1ffffff}, extremes...) {
				e := ordinary()
				e.Draws = make([]int, n)
				e.Draws[at] = bad
				mustAllow(t, e, false)
				e.Draws[at] = 0xffffff
				mustAllow(t, e, true)
			}
		}
	}
}

func TestP162Ordinary(t *testing.T) {
	want := map[string]string{
		"TM_SELECTED_TEXT": "sel", "TM_CURRENT_LINE": "the line", "TM_CURRENT_WORD": "line", "TM_LINE_INDEX": "41", "TM_LINE_NUMBER": "42",
		"TM_FILENAME": "a.b.c", "TM_FILENAME_BASE": "a.b", "TM_DIRECTORY": "/d/e", "TM_FILEPATH": "/d/e/a.b.c", "CLIPBOARD": "x\ny",
		"CURRENT_YEAR": "2026", "CURRENT_YEAR_SHORT": "26", "CURRENT_MONTH": "11", "CURRENT_DATE": "09", "CURRENT_HOUR": "04", "CURRENT_MINUTE": "05", "CURRENT_SECOND": "06",
		"CURRENT_MONTH_NAME": "November", "CURRENT_MONTH_NAME_SHORT": "Nov", "CURRENT_DAY_NAME": "Monday", "CURRENT_DAY_NAME_SHORT": "Mon",
	}
	for name, s := range want {
		for _, used := range []int{0, 1, 5, 6, 1000} {
			mustBe(t, ordinary(), name, used, s, used)
		}
	}
	mustBe(t, ordinary(), "RANDOM", 0, "234567", 1)
	mustBe(t, ordinary(), "RANDOM_HEX", 0, "12d687", 1)
	mustBe(t, ordinary(), "UUID", 0, "12d687ab-cdef-4000-8000-ffffff123456", 5)
	if len(want)+3 != len(model) || len(model) != 24 {
		t.Errorf("%d names here, %d in the model", len(want)+3, len(model))
	}
}

// TestP162EveryCharacter is that texts are told as they are.
func TestP162EveryCharacter(t *testing.T) {
	var s []rune
	for c := rune(0); c <= 0x10ffff; c++ {
		if signs.Class(c) != api.ClassNone {
			s = append(s, c)
		}
		if len(s) < api.MaxEnv && c != 0x10ffff {
			continue
		}
		e := ordinary()
		for i, name := range []string{"TM_SELECTED_TEXT", "TM_CURRENT_LINE", "TM_CURRENT_WORD", "TM_FILENAME", "TM_DIRECTORY", "CLIPBOARD"} {
			*texts(&e)[i] = s
			mustBe(t, e, name, 0, string(s), 0)
		}
		mustBe(t, e, "TM_FILEPATH", 0, string(s)+"/"+string(s), 0)
		s = nil
	}
}

// TestP162EmptyTexts is of texts without elements (R3).
func TestP162EmptyTexts(t *testing.T) {
	for _, empty := range [][]rune{nil, {}, []rune("abc")[:0], []rune("abc")[3:]} {
		e := ordinary()
		e.Draws = nil
		for _, s := range texts(&e) {
			*s = empty
		}
		for _, name := range []string{"TM_SELECTED_TEXT", "TM_CURRENT_LINE", "TM_CURRENT_WORD", "TM_FILENAME", "TM_FILENAME_BASE", "TM_DIRECTORY", "CLIPBOARD"} {
			mustBe(t, e, name, 7, "", 7)
		}
		mustBe(t, e, "TM_FILEPATH", 7, "/", 7)
		mustTellAll(t, e, 7)
		mustRefuse(t, e, empty, 7)
	}
}

func TestP162Numbers(t *testing.T) {
	e := ordinary()
	for e.Index = 0; e.Index <= 9999; e.Index++ {
		mustTell(t, e, "TM_LINE_INDEX", 0)
		mustTell(t, e, "TM_LINE_NUMBER", 0)
	}
	for index, want := range map[int][2]string{0: {"0", "1"}, 9: {"9", "10"}, 999: {"999", "1000"}, 9999: {"9999", "10000"}} {
		e.Index = index
		mustBe(t, e, "TM_LINE_INDEX", 0, want[0], 0)
		mustBe(t, e, "TM_LINE_NUMBER", 0, want[1], 0)
	}
}

// TestP162FilenameBase is every short name of some characters, and some others.
func TestP162FilenameBase(t *testing.T) {
	want := map[string]string{
		"": "", "a": "a", ".": ".", ".a": ".a", "a.": "a", "a.b": "a", "a.b.c": "a.b", "..": ".", "...": "..", ".a.b": ".a", "..a": ".", ".a.": ".a",
		"a..b": "a.", "a.b/c": "a", "/.a": "/", ".a/b": ".a/b", "é.文": "é", "文.é.": "文.é", "a\n.b\n": "a\n", "\n.": "\n", " .a": " ", "a．b": "a．b",
		strings.Repeat(".", 100): strings.Repeat(".", 99), strings.Repeat("a", 99) + ".": strings.Repeat("a", 99), "." + strings.Repeat("a", 99): "." + strings.Repeat("a", 99),
	}
	e := ordinary()
	for name, base := range want {
		e.File = []rune(name)
		mustBe(t, e, "TM_FILENAME_BASE", 4, base, 4)
		mustBe(t, e, "TM_FILENAME", 4, name, 4)
	}
	everyName("", ".aé/\n", 6, func(s string) {
		e.File = []rune(s)
		mustTell(t, e, "TM_FILENAME_BASE", 0)
	})
}

// everyName runs do on all texts of up to n elements of an alphabet, behind a head.
func everyName(head, alphabet string, n int, do func(s string)) {
	do(head)
	if n == 0 {
		return
	}
	for _, c := range alphabet {
		everyName(head+string(c), alphabet, n-1, do)
	}
}

// TestP162Filepath is that the / stands there whatever stands beside it.
func TestP162Filepath(t *testing.T) {
	e := ordinary()
	for _, dir := range []string{"", "/", "d", "/d", "d/", "//", "é", strings.Repeat("d", 100)} {
		for _, file := range []string{"", "/", "f", "/f", ".f", "f/", "文", strings.Repeat("f", 100)} {
			e.Dir, e.File = []rune(dir), []rune(file)
			mustBe(t, e, "TM_FILEPATH", 0, dir+"/"+file, 0)
		}
	}
}

// TestP162Clock is every number of each part of the clock, for all variables.
func TestP162Clock(t *testing.T) {
	for part := range 7 {
		e := ordinary()
		for n := least[part]; n <= most[part]; n++ {
			e.Clock[part] = n
			mustTellAll(t, e, 2)
		}
	}
	e := ordinary()
	for year, want := range map[int][2]string{0: {"0000", "00"}, 7: {"0007", "07"}, 99: {"0099", "99"}, 100: {"0100", "00"}, 905: {"0905", "05"}, 2000: {"2000", "00"}, 9999: {"9999", "99"}} {
		e.Clock[0] = year
		mustBe(t, e, "CURRENT_YEAR", 0, want[0], 0)
		mustBe(t, e, "CURRENT_YEAR_SHORT", 0, want[1], 0)
	}
	for i, want := range strings.Fields("January February March April May June July August September October November December") {
		e.Clock[1] = i + 1
		mustBe(t, e, "CURRENT_MONTH_NAME", 0, want, 0)
		mustBe(t, e, "CURRENT_MONTH_NAME_SHORT", 0, want[:3], 0)
	}
	e.Clock[1] = 3
	mustBe(t, e, "CURRENT_MONTH", 0, "03", 0)
	for i, want := range strings.Fields("Sunday Monday Tuesday Wednesday Thursday Friday Saturday") {
		e.Clock[6] = i
		mustBe(t, e, "CURRENT_DAY_NAME", 0, want, 0)
		mustBe(t, e, "CURRENT_DAY_NAME_SHORT", 0, want[:3], 0)
	}
}

// TestP162Draws is of single draws: the edges, every one below 20000, and some of the others.
func TestP162Draws(t *testing.T) {
	want := map[int][2]string{
		0: {"000000", "000000"}, 1: {"000001", "000001"}, 15: {"000015", "00000f"}, 16: {"000016", "000010"}, 99999: {"099999", "01869f"}, 100000: {"100000", "0186a0"},
		999999: {"999999", "0f423f"}, 1000000: {"000000", "0f4240"}, 1000001: {"000001", "0f4241"}, 0xffffff: {"777215", "ffffff"}, 0xabcdef: {"259375", "abcdef"}, 0xf00000: {"728640", "f00000"},
	}
	for draw, texts := range want {
		e := ordinary()
		e.Draws = []int{draw}
		mustBe(t, e, "RANDOM", 0, texts[0], 1)
		mustBe(t, e, "RANDOM_HEX", 0, texts[1], 1)
	}
	e := ordinary()
	for draw := 0; draw <= 0xffffff; draw++ {
		e.Draws = []int{0xffffff - draw, draw}
		mustTell(t, e, "RANDOM", 1)
		mustTell(t, e, "RANDOM_HEX", 1)
		if draw > 20000 {
			draw += 996
		}
	}
}

// TestP162Used is every number of draws and every used: which draws are taken, and how many, whether they exist or not.
func TestP162Used(t *testing.T) {
	e := ordinary()
	e.Draws = nil
	for n := 0; n <= api.MaxDraws; n++ {
		for used := 0; used <= 1000; used++ {
			for _, name := range []string{"RANDOM", "RANDOM_HEX", "UUID", "CLIPBOARD"} {
				mustTell(t, e, name, used)
			}
			if used > 50 && n != 40 {
				used += 100
			}
		}
		e.Draws = append(e.Draws, 0x123456+0x10a0b*n)
	}
	e = ordinary()
	mustBe(t, e, "RANDOM", 1, "259375", 2)
	mustBe(t, e, "RANDOM_HEX", 5, "000007", 6)
	mustBe(t, e, "RANDOM_HEX", 6, "000000", 7)
	mustBe(t, e, "RANDOM", 1000, "000000", 1001)
	mustBe(t, e, "UUID", 1, "abcdef00-0000-4fff-8fff-123456000007", 6)
	mustBe(t, e, "UUID", 3, "ffffff12-3456-4000-8007-000000000000", 8)
	mustBe(t, e, "UUID", 1000, "00000000-0000-4000-8000-000000000000", 1005)
	mustRefuse(t, e, []rune("RANDOM"), 1005)
}

// TestP162UuidDigits is where each of the thirty digits goes.
func TestP162UuidDigits(t *testing.T) {
	for at := range 30 {
		digits := []byte(strings.Repeat("0", 30))
		digits[at] = 'e'
		e := ordinary()
		e.Draws = make([]int, 5)
		e.Draws[at/6] = 0xe << (4 * (5 - at%6))
		s := string(digits)
		mustBe(t, e, "UUID", 0, s[:8]+"-"+s[8:12]+"-4"+s[12:15]+"-8"+s[15:18]+"-"+s[18:], 5)
	}
	e := ordinary()
	e.Draws = []int{0x012345, 0x6789ab, 0xcdef01, 0x234567, 0x89abcd}
	mustBe(t, e, "UUID", 0, "01234567-89ab-4cde-8f01-23456789abcd", 5)
}

func TestP162UsedOutOfBounds(t *testing.T) {
	for name := range model {
		for used := -300; used <= 1300; used++ {
			if used < 0 || used > 1000 {
				mustRefuse(t, ordinary(), []rune(name), used)
			}
		}
		for _, used := range extremes {
			mustRefuse(t, ordinary(), []rune(name), used)
		}
		mustTell(t, ordinary(), name, 0)
		mustTell(t, ordinary(), name, 1000)
	}
}

// TestP162NoEnvironment is that no variable has a value in an environment that is not valid, also if it tells of another part of it.
func TestP162NoEnvironment(t *testing.T) {
	var l []api.Env
	add := func(spoil func(e *api.Env)) {
		e := ordinary()
		spoil(&e)
		l = append(l, e)
	}
	for i := range 6 {
		add(func(e *api.Env) { *texts(e)[i] = slices.Repeat([]rune{'a'}, 101) })
		add(func(e *api.Env) { *texts(e)[i] = []rune{'a', -1} })
	}
	for i := range 7 {
		add(func(e *api.Env) { e.Clock[i] = least[i] - 1 })
		add(func(e *api.Env) { e.Clock[i] = most[i] + 1 })
	}
	add(func(e *api.Env) { e.Index = -1 })
	add(func(e *api.Env) { e.Index = 10000 })
	add(func(e *api.Env) { e.Draws = make([]int, 41) })
	add(func(e *api.Env) { e.Draws[5] = -1 })
	add(func(e *api.Env) { e.Draws[5] = 0x1000000 })
	add(func(e *api.Env) { *e = api.Env{} })
	for _, e := range l {
		for name := range model {
			for _, used := range []int{0, 5, 1000, -1, 1001} {
				mustRefuse(t, e, []rune(name), used)
			}
		}
	}
}

// mustKnow is that there is a variable of this name if and only if it is in the table.
func mustKnow(t *testing.T, name []rune) {
	t.Helper()
	for known := range model {
		if slices.Equal(name, []rune(known)) {
			mustTell(t, ordinary(), known, 1)
			return
		}
	}
	mustRefuse(t, ordinary(), name, 1)
}

// TestP162Slips is each name with one slip.
func TestP162Slips(t *testing.T) {
	others := append([]rune{'A', 'S', '_', 'a', '-', ' ', '1', 0, 0xfffd, 'é'}, noCharacters...)
	for known := range model {
		name := []rune(known)
		mustKnow(t, []rune(strings.ToLower(known)))
		mustKnow(t, slices.Repeat(name, 2))
		for at := range name {
			mustKnow(t, name[:at])
			mustKnow(t, name[at:])
			mustKnow(t, slices.Delete(slices.Clone(name), at, at+1))
			for _, c := range append(others, name[at]+0x100, name[at]+0x10000, name[at]-0x100, name[at]|math.MinInt32, name[at]+32) {
				slip := slices.Clone(name)
				slip[at] = c
				mustKnow(t, slip)
				mustKnow(t, slices.Insert(slices.Clone(name), at, c))
			}
		}
		for _, c := range others {
			mustKnow(t, append(slices.Clone(name), c))
		}
	}
}

// TestP162OtherNames is every short row of the parts that names have, and names that other editors know.
func TestP162OtherNames(t *testing.T) {
	parts := []string{"TM_", "CURRENT_", "FILENAME", "FILEPATH", "LINE", "MONTH", "DAY", "YEAR", "DATE", "NAME", "_SHORT", "_NAME", "_BASE", "_", "RANDOM", "_HEX", "UUID"}
	var rows func(head string, n int)
	rows = func(head string, n int) {
		mustKnow(t, []rune(head))
		for _, part := range parts {
			if n > 0 {
				rows(head+part, n-1)
			}
		}
	}
	rows("", 4)
	for _, name := range []string{"", "TM", "CURRENT", "PATH", "name", "1", "$TM_FILENAME", "{UUID}", "CURRENT_SECONDS_UNIX", "CURRENT_TIMEZONE_OFFSET", "WORKSPACE_NAME", "RELATIVE_FILEPATH", "CURSOR_INDEX", "BLOCK_COMMENT_START", "LINE_COMMENT", "CURRENT_DAY", "CURRENT_DATE_SHORT", "TM_FILENAME_BASE_BASE", "UUID4", "ＵＵＩＤ"} {
		mustRefuse(t, ordinary(), []rune(name), 5)
	}
	for _, c := range append([]rune{'A', 'U', 0}, noCharacters...) {
		for _, n := range []int{1, 2, 4, 6, 32, 33, 1000000} {
			mustRefuse(t, ordinary(), slices.Repeat([]rune{c}, n), 5)
		}
	}
}

// TestP162OwnMemory is R4, R5 and R10: no call changes its arguments, reads what stands behind them, or keeps them, and results share no memory.
func TestP162OwnMemory(t *testing.T) {
	spare := func(s string) []rune { return append([]rune(s), -1, -1)[:len([]rune(s))] }
	env := func() api.Env {
		e := ordinary()
		for _, s := range texts(&e) {
			*s = spare(string(*s))
		}
		e.Draws = append(e.Draws, -1, -1)[:6]
		return e
	}
	behind := func(e api.Env) string {
		out := fmt.Sprint(e.Draws[:8])
		for _, s := range texts(&e) {
			out += fmt.Sprint((*s)[:len(*s)+2])
		}
		return out
	}
	for known := range model {
		e := env()
		name := spare(known)
		before := told(e) + behind(e)
		if !vars.May(e) {
			t.Fatalf("May(%s) is false", told(e))
		}
		first, _, _ := vars.Value(e, name, 4)
		second, _, _ := vars.Value(e, name, 4)
		for i := range first[:cap(first)] {
			first[:cap(first)][i] = '?'
		}
		want, then := modelValue(ordinary(), known, 4)
		if after := told(e) + behind(e); string(second) != want || after != before || string(name) != known || name[:len(name)+1][len(name)] != -1 {
			t.Errorf("%s: %q, want %q; %s, before: %s", known, string(second), want, after, before)
		}
		mustBe(t, e, known, 4, want, then)
		for _, s := range append(texts(&e), &name) {
			for i := range *s {
				(*s)[i] = '?'
			}
		}
		e.Draws[4] = 0
		if string(second) != want {
			t.Errorf("%s: the result shares memory with an argument: %q, want %q", known, string(second), want)
		}
	}
}
