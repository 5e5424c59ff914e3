package reprog_test

import (
	"fmt"
	"math"
	"slices"
	"strings"
	"testing"

	"standish/api"
	"standish/reprog"
	"standish/resyn"
)

func ExampleCompile() {
	program, fault := reprog.Compile([]rune("a*"))
	for _, inst := range program {
		fmt.Printf("%d %d %d %q\n", inst.Op, inst.X, inst.Y, string(inst.Set))
	}
	fmt.Println(fault.Code == api.OK)
	// Output:
	// 3 0 0 ""
	// 4 2 4 ""
	// 0 0 0 "aa"
	// 5 1 0 ""
	// 3 1 0 ""
	// 6 0 0 ""
	// true
}

// The instructions that must be returned.

func set(ranges string) api.Inst { return api.Inst{Op: api.InSet, Set: []rune(ranges)} }

func not(ranges string) api.Inst { return api.Inst{Op: api.InSet, Not: true, Set: []rune(ranges)} }

func save(x int) api.Inst { return api.Inst{Op: api.InSave, X: x} }

func split(x, y int) api.Inst { return api.Inst{Op: api.InSplit, X: x, Y: y} }

func jump(x int) api.Inst { return api.Inst{Op: api.InJump, X: x} }

// same reports whether two programs are equal.
func same(a, b []api.Inst) bool {
	return slices.EqualFunc(a, b, func(x, y api.Inst) bool {
		return x.Op == y.Op && x.X == y.X && x.Y == y.Y && x.Not == y.Not && slices.Equal(x.Set, y.Set)
	})
}

// mustCompile is that a pattern has these instructions, between the ones that every pattern has.
func mustCompile(t *testing.T, pattern string, inner ...api.Inst) {
	t.Helper()
	want := append([]api.Inst{save(0)}, inner...)
	want = append(want, save(1), api.Inst{Op: api.InMatch})
	got, f := reprog.Compile([]rune(pattern))
	if f != (api.Fault{}) || !same(got, want) {
		t.Errorf("Compile(%q): %v, %v, want %v", pattern, got, f, want)
	}
	mustStayInside(t, pattern, got)
}

// mustStayInside is P9.2.
func mustStayInside(t *testing.T, pattern string, program []api.Inst) {
	t.Helper()
	for i, inst := range program {
		x := inst.Op != api.InSplit && inst.Op != api.InJump || 0 <= inst.X && inst.X < len(program)
		y := inst.Op != api.InSplit || 0 <= inst.Y && inst.Y < len(program)
		if !x || !y {
			t.Errorf("Compile(%q): instruction %d of %d is %v", pattern, i, len(program), inst)
		}
	}
}

// mustCount is that a pattern has so many instructions, all in all.
func mustCount(t *testing.T, pattern string, n int) {
	t.Helper()
	got, f := reprog.Compile([]rune(pattern))
	if f != (api.Fault{}) || len(got) != n {
		t.Errorf("Compile(%q): %d instructions, %v, want %d", pattern, len(got), f, n)
	}
	mustStayInside(t, pattern, got)
}

// mustFail is that a text has this fault, and no program.
func mustFail(t *testing.T, pattern string, code api.Errno, at int) {
	t.Helper()
	if got, f := reprog.Compile([]rune(pattern)); f != (api.Fault{Code: code, At: at}) || len(got) != 0 {
		t.Errorf("Compile(%q): %d instructions, %v, want %d at %d", pattern, len(got), f, code, at)
	}
}

func TestP91Faults(t *testing.T) {
	mustFail(t, "(", api.ErrSyntax, 1)
	mustFail(t, "a**", api.ErrSyntax, 2)
	mustFail(t, "a{3,2}", api.ErrSyntax, 1)
	mustFail(t, "b[d-b]", api.ErrSyntax, 2)
	mustFail(t, strings.Repeat("a", 61), api.ErrFull, 60)
	mustFail(t, strings.Repeat("(?:", 13)+"a"+strings.Repeat(")", 13), api.ErrDeep, 36)
	mustFail(t, strings.Repeat("()", 10), api.ErrFull, 18)
	for _, bad := range []rune{math.MinInt32, -1, 0xd800, 0xdfff, 0x110000, math.MaxInt32} {
		for at := range 3 {
			p := []rune("abc")
			p[at] = bad
			if got, f := reprog.Compile(p); f != (api.Fault{Code: api.ErrForm, At: at}) || len(got) != 0 {
				t.Errorf("Compile with %x at %d: %v, %v", bad, at, got, f)
			}
		}
	}
}

// TestP91ParseComesFirst holds what is no pattern, and asks for too many instructions as well, to the fault of its text.
func TestP91ParseComesFirst(t *testing.T) {
	const many = "(?:(?:a{9}){9}){9}"
	mustFail(t, many, api.ErrFull, len(many))
	for tail, at := range map[string]int{"*": 18, ")": 18, "(": 19, "[b-a]": 19, "b{2,1}": 19, "\\": 19, "\\a": 19} {
		mustFail(t, many+tail, api.ErrSyntax, at)
	}
	mustFail(t, many+strings.Repeat("a", 43), api.ErrFull, 60)
	mustFail(t, many+strings.Repeat("()", 10), api.ErrFull, 36)
	mustFail(t, many+"\uffff"+strings.Repeat("a", 40), api.ErrFull, 59)
	if _, f := reprog.Compile([]rune{'a', '*', '*', -1}); f != (api.Fault{Code: api.ErrForm, At: 3}) {
		t.Errorf("no character behind what is no pattern: %v", f)
	}
}

func TestP91Rows(t *testing.T) {
	mustCompile(t, "")
	mustCompile(t, "ab", set("aa"), set("bb"))
	mustCompile(t, "^.$", api.Inst{Op: api.InStart}, not("\n\n"), api.Inst{Op: api.InEnd})
	mustCompile(t, "$^", api.Inst{Op: api.InEnd}, api.Inst{Op: api.InStart})
	mustCompile(t, "\\d\\D\\w\\S", set("09"), not("09"), set("azAZ09__"), not("  \t\t\n\n"))
	mustCompile(t, "[b-dx][^-]\\n", set("bdxx"), not("--"), set("\n\n"))
	mustCompile(t, strings.Repeat("é", 60), slices.Repeat([]api.Inst{set("éé")}, 60)...)
}

func TestP91Groups(t *testing.T) {
	mustCompile(t, "()", save(2), save(3))
	mustCompile(t, "(?:)")
	mustCompile(t, "(?:ab)", set("aa"), set("bb"))
	mustCompile(t, "(a)(?:b)(c)", save(2), set("aa"), save(3), set("bb"), save(4), set("cc"), save(5))
	mustCompile(t, "((a)b)", save(2), save(4), set("aa"), save(5), set("bb"), save(3))
	mustCompile(t, "(?:(^))$", save(2), api.Inst{Op: api.InStart}, save(3), api.Inst{Op: api.InEnd})
	var nine []api.Inst
	for k := 1; k <= 9; k++ {
		nine = append(nine, save(2*k), save(2*k+1))
	}
	mustCompile(t, strings.Repeat("()", 9), nine...)
	mustCompile(t, "(a){2}", save(2), set("aa"), save(3), save(2), set("aa"), save(3))
}

func TestP91Alternatives(t *testing.T) {
	mustCompile(t, "a|b", split(2, 4), set("aa"), jump(5), set("bb"))
	mustCompile(t, "|", split(2, 3), jump(3))
	mustCompile(t, "a|", split(2, 4), set("aa"), jump(4))
	mustCompile(t, "|a", split(2, 3), jump(4), set("aa"))
	mustCompile(t, "||", split(2, 3), jump(5), split(4, 5), jump(5))
	mustCompile(t, "a|bc|d", split(2, 4), set("aa"), jump(9), split(5, 8), set("bb"), set("cc"), jump(9), set("dd"))
	mustCompile(t, "(a|b)c", save(2), split(3, 5), set("aa"), jump(6), set("bb"), save(3), set("cc"))
	mustCompile(t, "(?:a|b)|c", split(2, 7), split(3, 5), set("aa"), jump(6), set("bb"), jump(8), set("cc"))
	mustCompile(t, "a|(?:b|c)", split(2, 4), set("aa"), jump(8), split(5, 7), set("bb"), jump(8), set("cc"))
}

func TestP91RepeatsWithoutEnd(t *testing.T) {
	mustCompile(t, "a*", split(2, 4), set("aa"), jump(1))
	mustCompile(t, "a*?", split(4, 2), set("aa"), jump(1))
	mustCompile(t, "a+", set("aa"), split(3, 5), set("aa"), jump(2))
	mustCompile(t, "a+?", set("aa"), split(5, 3), set("aa"), jump(2))
	mustCompile(t, "a{0,}", split(2, 4), set("aa"), jump(1))
	mustCompile(t, "a{3,}?b", set("aa"), set("aa"), set("aa"), split(7, 5), set("aa"), jump(4), set("bb"))
	mustCompile(t, "(?:)*", split(2, 3), jump(1))
	mustCompile(t, "(?:)*?", split(3, 2), jump(1))
	mustCompile(t, "(?:){9,}", split(2, 3), jump(1))
	mustCompile(t, "(?:a*)*", split(2, 6), split(3, 5), set("aa"), jump(2), jump(1))
	mustCompile(t, "(?:a*?)*", split(2, 6), split(5, 3), set("aa"), jump(2), jump(1))
	mustCompile(t, "(a|b)+", save(2), split(3, 5), set("aa"), jump(6), set("bb"), save(3), split(8, 15), save(2), split(10, 12), set("aa"), jump(13), set("bb"), save(3), jump(7))
}

func TestP91RepeatsWithAnEnd(t *testing.T) {
	mustCompile(t, "a?", split(2, 3), set("aa"))
	mustCompile(t, "a??", split(3, 2), set("aa"))
	mustCompile(t, "a{0}")
	mustCompile(t, "a{0}?b", set("bb"))
	mustCompile(t, "a{0,0}")
	mustCompile(t, "a{2}", set("aa"), set("aa"))
	mustCompile(t, "a{2}?", set("aa"), set("aa"))
	mustCompile(t, "a{2,2}?", set("aa"), set("aa"))
	mustCompile(t, "a{2,4}b", set("aa"), set("aa"), split(4, 7), set("aa"), split(6, 7), set("aa"), set("bb"))
	mustCompile(t, "a{2,4}?b", set("aa"), set("aa"), split(7, 4), set("aa"), split(7, 6), set("aa"), set("bb"))
	mustCompile(t, "(?:)?", split(2, 2))
	mustCompile(t, "(?:)??", split(2, 2))
	mustCompile(t, "(?:){1,3}", split(2, 3), split(3, 3))
	mustCompile(t, "(?:){9}a", set("aa"))
	mustCompile(t, "(?:a|b?){1,2}?", split(2, 4), set("aa"), jump(6), split(5, 6), set("bb"), split(12, 7), split(8, 10), set("aa"), jump(12), split(11, 12), set("bb"))
	mustCompile(t, "(?:a{2}){2}", slices.Repeat([]api.Inst{set("aa")}, 4)...)
	mustCompile(t, "(?:^$){1,2}", api.Inst{Op: api.InStart}, api.Inst{Op: api.InEnd}, split(4, 6), api.Inst{Op: api.InStart}, api.Inst{Op: api.InEnd})
}

// filled is a pattern of n elements, at most 297, all of which have an instruction.
func filled(n int) string {
	n -= 243
	return fmt.Sprintf("(?:(?:a{9}){9}){3}(?:a{9}){%d}a{%d}", n/9, n%9)
}

// TestP91MaxInst puts each kind of instruction at the limit.
func TestP91MaxInst(t *testing.T) {
	if api.MaxInst != 300 {
		t.Fatalf("MaxInst is %d", api.MaxInst)
	}
	mustCount(t, filled(297), 300)
	mustCount(t, filled(297)+"(?:){9}b{0}", 300)
	counts := map[string]int{
		"b": 1, "^": 1, "$": 1, ".": 1, "[^b-d]": 1, "(?:)?": 1, "b{1}": 1, "(?:){8,9}?": 1,
		"^$": 2, "()": 2, "b?": 2, "|": 2, "(?:|)": 2, "(?:)*": 2, "(?:)*?": 2, "(?:){1,3}": 2, "b{2}": 2, "b{0,1}": 2,
		"(b)": 3, "b*": 3, "b|": 3, "|b": 3, "(?:b|)": 3, "b{1,2}?": 3,
		"b+": 4, "(|)": 4, "||": 4, "(){2}": 4, "()*": 4, "b{1,}?": 4, "(?:b?)*": 4,
		"(b)*": 5, "(?:|){2}?": 4, "(?:b|c)?": 5, "()+": 6, "(?:|)+": 6, "b{0,9}": 18, "(b|c){2}": 12, "((b)){3}": 15,
	}
	for piece, n := range counts {
		mustCount(t, filled(297-n)+piece, 300)
		mustCount(t, piece+filled(297-n), 300)
		mustFail(t, filled(298-n)+piece, api.ErrFull, 33+len(piece))
		mustFail(t, piece+filled(298-n), api.ErrFull, 33+len(piece))
	}
}

// nested is inner with the repeat, that with the repeat, and so on, up to so many elements in all.
func nested(elements int, inner, repeat string) string {
	n := (elements - len(inner)) / (4 + len(repeat))
	return strings.Repeat("(?:", n) + inner + strings.Repeat(")"+repeat, n)
}

// TestP91RepeatsInRepeats asks for far more instructions than there may be, and for millions of copies of nothing.
func TestP91RepeatsInRepeats(t *testing.T) {
	for _, repeat := range []string{"{9}", "{9}?", "{9,}", "{8,9}", "{0,9}", "{0,9}?", "{5,9}"} {
		huge := nested(60, "a", repeat)
		mustFail(t, huge, api.ErrFull, len(huge))
		mustCount(t, "(?:"+nested(53, "a", repeat)+"){0}", 3)
		mustCount(t, "(?:"+nested(53, "a", repeat)+"){0}?", 3)
	}
	for _, inner := range []string{"", "a{0}", "(?:){9}", "(?:(?:)(?:)){9}"} {
		mustCount(t, nested(60, inner, "{9}"), 3)
		mustCount(t, nested(60, inner, "{9}?"), 3)
		mustCount(t, "(?:"+nested(51, inner, "{9}")+"b){2,}", 8)
	}
	for inner, repeat := range map[string]string{"": "{9,}", "a{0}": "{8,9}", "|": "{9}", "()": "{7}?", "^": "{0,8}"} {
		huge := nested(60, inner, repeat)
		mustFail(t, huge, api.ErrFull, len(huge))
	}
	mustCount(t, nested(60, "a", "*"), 26) // 11 stars
	mustCount(t, nested(60, "a", "?"), 15)
	mustCount(t, nested(31, "a", "+"), 193) // each + makes n instructions to 2 n + 2
	mustFail(t, nested(36, "a", "+"), api.ErrFull, 36)
}

// TestP92Targets holds what ends a pattern, where a target lies behind all of its instructions, and programs up to the longest.
func TestP92Targets(t *testing.T) {
	ends := []string{"", "a", "(a)", "a*", "a*?", "a+", "a+?", "a?", "a??", "a{2,4}", "a{2,4}?", "a{2,}", "|", "a|b", "(?:)*", "(?:)*?", "(?:)?", "(?:|)?", "((a|)*?|b??)*?"}
	for _, end := range ends {
		for _, n := range []int{243, 250, 260, 270, 280, 297} {
			for _, pattern := range []string{end, end + end, "b" + end, end + "|" + end, "(?:" + end + ")*", "(" + end + ")??", "(?:" + end + "){1,3}?", filled(n) + end, "(?:" + end + "|" + filled(n) + ")"} {
				program, f := reprog.Compile([]rune(pattern))
				if f.Code != api.OK && f.Code != api.ErrFull {
					t.Errorf("Compile(%q): %v", pattern, f)
				}
				mustStayInside(t, pattern, program)
			}
		}
	}
}

// TestP91NilIsEmpty is R3.
func TestP91NilIsEmpty(t *testing.T) {
	want := fmt.Sprint([]api.Inst{save(0), save(1), {Op: api.InMatch}})
	for _, p := range [][]rune{nil, {}} {
		if got, f := reprog.Compile(p); f != (api.Fault{}) || fmt.Sprint(got) != want {
			t.Errorf("Compile of an empty pattern: %v, %v", got, f)
		}
	}
}

// TestP91OwnMemory is R4 and R10: what stands behind a pattern plays no part, no call changes the pattern, and nothing shares memory.
func TestP91OwnMemory(t *testing.T) {
	const text = "(a.[b-d\\w]){2,3}|\\D+?x{2}(?:[^y])*"
	whole := []rune(text)
	for n := range len(whole) + 1 {
		cut, f := reprog.Compile(whole[:n])
		alone, g := reprog.Compile([]rune(text[:n]))
		if f != g || fmt.Sprint(cut) != fmt.Sprint(alone) || string(whole) != text {
			t.Errorf("Compile(%q) with more behind it: %v, %v, alone: %v, %v; the pattern is %q", text[:n], cut, f, alone, g, string(whole))
		}
	}
	first, _ := reprog.Compile(whole)
	second, _ := reprog.Compile(whole)
	before := fmt.Sprint(first)
	for i := range second {
		spoiled := second[i].Set[:cap(second[i].Set)]
		want := fmt.Sprint(second[:i], second[i+1:])
		for k := range spoiled {
			spoiled[k] = '!'
		}
		if fmt.Sprint(second[:i], second[i+1:]) != want {
			t.Errorf("instruction %d shares memory with another one", i)
		}
	}
	if third, _ := reprog.Compile(whole); string(whole) != text || fmt.Sprint(first) != before || fmt.Sprint(third) != before {
		t.Errorf("results share memory: %v, %v, want %v; the pattern is %q", first, third, before, string(whole))
	}
}

// TestP91FaultsOfParse holds the fault of every short text to the one of resyn.
func TestP91FaultsOfParse(t *testing.T) {
	everyText("", "a2(){}[]?:|,*^-\\", 4, func(text []rune) {
		_, want := resyn.Parse(text)
		if got, f := reprog.Compile(text); f != want || len(got) > 0 != (want.Code == api.OK) {
			t.Errorf("Compile(%q): %v, %v, want %v", string(text), got, f, want)
		}
	})
}
