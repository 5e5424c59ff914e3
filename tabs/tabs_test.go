package tabs_test

import (
	"fmt"
	"math"
	"math/rand"
	"slices"
	"testing"

	"standish/api"
	"standish/expand"
	"standish/tabs"
	"standish/tree"
)

func ExampleOrder() {
	l := []api.Field{{Num: 0}, {Num: 2}, {Num: 1}}
	fmt.Println(tabs.Order(l))
	// Output: [2 1 0]
}

func ExampleNext() {
	l := []api.Field{{Num: 0}, {Num: 2}, {Num: 1}}
	fmt.Println(tabs.Next(l, 2))
	fmt.Println(tabs.Next(l, 0))
	// Output:
	// 1 true
	// 0 false
}

func ExamplePrev() {
	l := []api.Field{{Num: 0}, {Num: 2}, {Num: 1}}
	fmt.Println(tabs.Prev(l, 0))
	fmt.Println(tabs.Prev(l, 2))
	// Output:
	// 1 true
	// 0 false
}

// kinds are the kinds of fields, and some numbers that are none; some of them would be one if an int had fewer bits.
var kinds = []int{api.FieldPlain, api.FieldChoice, api.FieldMirror, api.FieldForm, 4, -1, 256, 1 << 32, math.MaxInt, math.MinInt}

// nums are numbers of fields around all that can make a difference.
var nums = []int{0, 1, 2, 3, 9, 10, 999, 1000, math.MaxInt32, 1 << 32, math.MaxInt - 1, math.MaxInt, -1, -2, -999, math.MinInt32, math.MinInt + 1, math.MinInt}

// nowhere are indices that no list of these tests has.
var nowhere = []int{-1, -2, math.MinInt, math.MinInt + 1, 1 << 32, math.MaxInt - 1, math.MaxInt}

func plain(nums ...int) []api.Field {
	var l []api.Field
	for _, n := range nums {
		l = append(l, api.Field{Kind: api.FieldPlain, Num: n})
	}
	return l
}

// told writes the kinds and numbers of fields.
func told(l []api.Field) string {
	s := ""
	for _, f := range l {
		s += fmt.Sprintf("(%d: %d)", f.Kind, f.Num)
	}
	return s
}

// follows tells whether, of two fields of the order, the one at i comes ahead of the one at j, by the words of P18.1.
func follows(l []api.Field, i, j int) bool {
	a, b := l[i].Num, l[j].Num
	switch {
	case a == b:
		return i < j
	case a == 0:
		return false
	case b == 0:
		return true
	}
	return a < b
}

// modelOrder takes, again and again, the one that is ahead of all that are left.
func modelOrder(l []api.Field) []int {
	var left, order []int
	for i, f := range l {
		if (f.Kind == api.FieldPlain || f.Kind == api.FieldChoice) && f.Num >= 0 {
			left = append(left, i)
		}
	}
	for len(left) > 0 {
		first := 0
		for k := range left {
			if follows(l, left[k], left[first]) {
				first = k
			}
		}
		order = append(order, left[first])
		left = slices.Delete(left, first, first+1)
	}
	return order
}

// mustStep holds Next or Prev to an index, or to none if it is less than 0.
func mustStep(t *testing.T, name string, step func([]api.Field, int) (int, bool), l []api.Field, at, want int) {
	t.Helper()
	got, ok := step(l, at)
	if ok != (want >= 0) || got != max(want, 0) {
		t.Fatalf("%s of %s at %d: %d, %v; want %d", name, told(l), at, got, ok, want)
	}
}

// mustAll holds all functions to an order, for each index in it, beside it, and outside of the list.
func mustAll(t *testing.T, l []api.Field, want []int) {
	t.Helper()
	if got := tabs.Order(l); !slices.Equal(got, want) {
		t.Fatalf("Order of %s: %v, want %v", told(l), got, want)
	}
	for at := -2; at <= len(l)+2; at++ {
		next, prev := -1, -1
		if k := slices.Index(want, at); k >= 0 {
			if k+1 < len(want) {
				next = want[k+1]
			}
			if k > 0 {
				prev = want[k-1]
			}
		}
		mustStep(t, "Next", tabs.Next, l, at, next)
		mustStep(t, "Prev", tabs.Prev, l, at, prev)
	}
	for _, at := range nowhere {
		mustStep(t, "Next", tabs.Next, l, at, -1)
		mustStep(t, "Prev", tabs.Prev, l, at, -1)
	}
}

func TestP181OrderWrittenOut(t *testing.T) {
	cases := []struct {
		l    []api.Field
		want []int
	}{
		{nil, nil},
		{plain(0), []int{0}},
		{plain(7), []int{0}},
		{plain(-1), nil},
		{plain(0, 2, 1), []int{2, 1, 0}}, // 0 comes last
		{plain(1, 2, 0), []int{0, 1, 2}},
		{plain(10, 9, 2), []int{2, 1, 0}}, // by the numbers, not by their digits
		{plain(0, 0, 0), []int{0, 1, 2}},  // equal numbers
		{plain(5, 0, 5, 1, 0, 5), []int{3, 0, 2, 5, 1, 4}},
		{plain(-1, 1, -2, 0, math.MinInt), []int{1, 3}}, // negative numbers
		{plain(0, math.MaxInt, math.MaxInt-1), []int{2, 1, 0}},
		{[]api.Field{{Kind: api.FieldChoice, Num: 1}, {Kind: api.FieldPlain, Num: 1}}, []int{0, 1}}, // both kinds alike
		{[]api.Field{{Kind: api.FieldPlain, Num: 2}, {Kind: api.FieldChoice, Num: 1}}, []int{1, 0}},
		{[]api.Field{{Kind: api.FieldMirror, Num: 1}, {Kind: api.FieldForm, Num: 1}, {Kind: api.FieldPlain, Num: 1}}, []int{2}},
		{[]api.Field{{Kind: api.FieldMirror}, {Kind: api.FieldForm}}, nil},
		{[]api.Field{{Kind: 4}, {Kind: -1}, {Kind: math.MaxInt}, {Kind: math.MinInt}}, nil},
	}
	for _, c := range cases {
		mustAll(t, c.l, c.want)
	}
}

func TestP181EveryKindAndNum(t *testing.T) {
	for _, kind := range kinds {
		for _, num := range nums {
			var want []int
			if (kind == api.FieldPlain || kind == api.FieldChoice) && num >= 0 {
				want = []int{0}
			}
			mustAll(t, []api.Field{{Kind: kind, Num: num}}, want)
		}
	}
}

func TestP181EveryTwoFields(t *testing.T) {
	for _, kind := range kinds {
		for _, a := range nums {
			for _, b := range nums {
				l := []api.Field{{Kind: api.FieldPlain, Num: a}, {Kind: kind, Num: b}}
				mustAll(t, l, modelOrder(l))
				slices.Reverse(l)
				mustAll(t, l, modelOrder(l))
			}
		}
	}
}

func TestP181AllShortLists(t *testing.T) {
	var all func(l []api.Field, left int)
	all = func(l []api.Field, left int) {
		mustAll(t, l, modelOrder(l))
		if left == 0 {
			return
		}
		for num := -1; num <= 3; num++ {
			for _, kind := range []int{api.FieldPlain, api.FieldChoice, api.FieldMirror} {
				all(append(slices.Clone(l), api.Field{Kind: kind, Num: num}), left-1)
			}
		}
	}
	all(nil, 4)
}

func TestP181LongLists(t *testing.T) {
	r := rand.New(rand.NewSource(18))
	for range 400 {
		l := make([]api.Field, r.Intn(120))
		few := 1 + r.Intn(40)
		for i := range l {
			l[i] = api.Field{Kind: kinds[r.Intn(3)], Num: r.Intn(few) - r.Intn(2)}
			if r.Intn(9) == 0 {
				l[i].Num = nums[r.Intn(len(nums))]
			}
		}
		mustAll(t, l, modelOrder(l))
	}
}

// TestP181OnlyKindAndNum: where a field stands, and what else it has, makes no difference.
func TestP181OnlyKindAndNum(t *testing.T) {
	l := []api.Field{
		{Kind: api.FieldChoice, Num: 3, From: 9, To: 1, Parent: 2, Of: 7, Items: [][]rune{{'a'}, nil}},
		{Kind: api.FieldPlain, Num: 0, From: -5, To: math.MaxInt, Parent: -7, Of: -1, All: true, Fold: true},
		{Kind: api.FieldPlain, Num: 3, From: 0, Of: 2, Pattern: []rune{'*', -1}, Forms: []api.Form{{Kind: 9}}},
		{Kind: api.FieldPlain, Num: 1, From: 100, Parent: math.MinInt},
	}
	mustAll(t, l, []int{3, 0, 2, 1})
}

func TestP181VeryLongList(t *testing.T) {
	const length = 200000
	l := make([]api.Field, length)
	for i := range l {
		l[i].Num = (length - i) / 2 // in descending order, two of each but of the greatest and of 0
	}
	order := tabs.Order(l)
	if len(order) != length || order[length-1] != length-1 {
		t.Fatalf("%d of %d, the last one %d", len(order), length, order[len(order)-1])
	}
	for k := 1; k < length; k++ {
		if !follows(l, order[k-1], order[k]) {
			t.Fatalf("%d ahead of %d", order[k-1], order[k])
		}
	}
	if at, ok := tabs.Next(l, order[length/2]); !ok || at != order[length/2+1] {
		t.Errorf("Next in the middle: %d, %v", at, ok)
	}
	if at, ok := tabs.Prev(l, order[length/2]); !ok || at != order[length/2-1] {
		t.Errorf("Prev in the middle: %d, %v", at, ok)
	}
}

func TestP182StepsWrittenOut(t *testing.T) {
	l := []api.Field{{Num: 0}, {Num: 4}, {Kind: api.FieldMirror, Num: 4}, {Kind: api.FieldChoice, Num: 2}, {Num: -3}, {Num: 4}}
	steps := []struct{ at, next, prev int }{
		{3, 1, -1}, // the first one
		{1, 5, 3},
		{5, 0, 1},
		{0, -1, 5},  // the last one
		{2, -1, -1}, // a mirror
		{4, -1, -1}, // a negative number
		{6, -1, -1},
		{-1, -1, -1},
	}
	for _, s := range steps {
		mustStep(t, "Next", tabs.Next, l, s.at, s.next)
		mustStep(t, "Prev", tabs.Prev, l, s.at, s.prev)
	}
	mustStep(t, "Next", tabs.Next, nil, 0, -1)
	mustStep(t, "Prev", tabs.Prev, nil, 0, -1)
	mustStep(t, "Next", tabs.Next, plain(1), 0, -1)
	mustStep(t, "Prev", tabs.Prev, plain(1), 0, -1)
}

// TestP183ThereAndBack: a step on and one back, and a step back and one on, lead to the same index.
func TestP183ThereAndBack(t *testing.T) {
	r := rand.New(rand.NewSource(183))
	steps := 0
	for range 8000 {
		l := make([]api.Field, r.Intn(12))
		for i := range l {
			l[i] = api.Field{Kind: r.Intn(4), Num: nums[r.Intn(len(nums))]}
		}
		for at := -1; at <= len(l); at++ {
			if next, ok := tabs.Next(l, at); ok {
				mustStep(t, "Prev", tabs.Prev, l, next, at)
				steps++
			}
			if prev, ok := tabs.Prev(l, at); ok {
				mustStep(t, "Next", tabs.Next, l, prev, at)
				steps++
			}
		}
	}
	if steps < 10000 {
		t.Errorf("only %d steps", steps)
	}
}

// TestP181FieldsOfSnippets: the fields as expand gives them.
func TestP181FieldsOfSnippets(t *testing.T) {
	e := api.Env{Clock: [7]int{2026, 1, 1, 0, 0, 0, 0}}
	for body, want := range map[string][]int{
		"":                          {0},
		"$2$1":                      {1, 0, 2},
		"$0$1":                      {1, 0},
		"${3:a${1:b}}$3${2|c,d|}$0": {1, 3, 0, 4},
		"${1/a/b/}$2$2":             {0, 1, 3},
	} {
		l, _ := tree.Parse([]rune(body))
		shape, code := expand.Expand(l, e, nil, 0)
		if code != api.OK {
			t.Fatalf("%q: %d", body, code)
		}
		mustAll(t, shape.Fields, want)
	}
}

func TestR3NoFields(t *testing.T) {
	mustAll(t, nil, nil)
	mustAll(t, []api.Field{}, nil)
	mustAll(t, make([]api.Field, 0, 9), nil)
}

func TestR4OwnMemory(t *testing.T) {
	whole := plain(0, 3, 2, 1, 9, 9)
	l, kept := whole[:4], slices.Clone(whole)
	first := tabs.Order(l)
	tabs.Next(l, 2)
	tabs.Prev(l, 2)
	for i, f := range whole {
		if f.Kind != kept[i].Kind || f.Num != kept[i].Num {
			t.Errorf("field %d is %v now", i, f)
		}
	}
	for i := range first[:cap(first)] {
		first[:cap(first)][i] = 77
	}
	l[0].Num = 5
	if got := tabs.Order(l); !slices.Equal(got, []int{3, 2, 1, 0}) {
		t.Errorf("Order after its result and its argument were overwritten: %v", got)
	}
}
