package treap_test

import (
	"cmp"
	"fmt"
	"math"
	"math/rand"
	"slices"
	"testing"

	"standish/api"
	"standish/treap"
)

func ExampleSet() {
	set := treap.New()
	set.Add(api.Mark{ID: 1, From: 2, To: 5, Prio: 7})
	set.Add(api.Mark{ID: 2, From: 2, To: 9, Prio: 3})
	fmt.Println(set.All(), set.Stab(5), set.Stab(6), set.Within(0, 5))
	fmt.Println(set.Depth(1), set.Depth(2), set.Add(api.Mark{ID: 2}) == api.ErrForm)
	// Output:
	// [{2 2 9 3} {1 2 5 7}] [2 1] [2] [1]
	// 1 2 true
}

// farthest is the greatest index at which a mark may end, as the chapter says.
const farthest = 1 << 40

// noSpans are spans that no mark may have.
var noSpans = []api.Span{
	{From: -1, To: 0}, {From: -1, To: -1}, {From: -2, To: -1}, {From: 1, To: 0}, {From: 5, To: 4}, {From: 0, To: -1},
	{From: 0, To: farthest + 1}, {From: farthest, To: farthest + 1}, {From: farthest + 1, To: farthest + 1}, {From: farthest, To: farthest - 1},
	{From: math.MinInt, To: 0}, {From: math.MinInt, To: math.MaxInt}, {From: math.MinInt, To: math.MinInt},
	{From: 0, To: math.MaxInt}, {From: math.MaxInt, To: math.MaxInt}, {From: math.MaxInt, To: math.MinInt}, {From: 0, To: math.MinInt},
}

func mark(id, from, to, prio int) api.Mark { return api.Mark{ID: id, From: from, To: to, Prio: prio} }

func mustAdd(t *testing.T, set *treap.Set, m api.Mark, want api.Errno) {
	t.Helper()
	if got := set.Add(m); got != want {
		t.Errorf("Add(%v): %d, want %d", m, got, want)
	}
}

func mustRemove(t *testing.T, set *treap.Set, id int, want api.Errno) {
	t.Helper()
	if got := set.Remove(id); got != want {
		t.Errorf("Remove(%d): %d, want %d", id, got, want)
	}
}

func mustMove(t *testing.T, set *treap.Set, id, from, to int, want api.Errno) {
	t.Helper()
	if got := set.Move(id, from, to); got != want {
		t.Errorf("Move(%d, %d, %d): %d, want %d", id, from, to, got, want)
	}
}

func setOf(t *testing.T, marks ...api.Mark) *treap.Set {
	t.Helper()
	set := treap.New()
	for _, m := range marks {
		mustAdd(t, set, m, api.OK)
	}
	return set
}

// sorted returns the marks in the order that the chapter defines.
func sorted(marks []api.Mark) []api.Mark {
	return slices.SortedFunc(slices.Values(marks), func(a, b api.Mark) int {
		return cmp.Or(cmp.Compare(a.From, b.From), cmp.Compare(b.To, a.To), cmp.Compare(a.ID, b.ID))
	})
}

// chosen returns the IDs of those marks that are kept.
func chosen(marks []api.Mark, keep func(api.Mark) bool) []int {
	var ids []int
	for _, m := range marks {
		if keep(m) {
			ids = append(ids, m.ID)
		}
	}
	return ids
}

// modelDepth counts, without a tree, the marks of an ordered list that stand above the one at this place or are it: each of them comes first by Prio and ID among all marks from it to that one.
func modelDepth(marks []api.Mark, place int) int {
	depth := 0
	for other := range marks {
		between := marks[min(place, other) : max(place, other)+1]
		top := slices.MinFunc(between, func(a, b api.Mark) int {
			return cmp.Or(cmp.Compare(b.Prio, a.Prio), cmp.Compare(a.ID, b.ID))
		})
		if top == marks[other] {
			depth++
		}
	}
	return depth
}

// mustHold holds a set against the marks that must be in it: their order, and each mark and its depth.
func mustHold(t *testing.T, when string, set *treap.Set, marks []api.Mark) {
	t.Helper()
	marks = sorted(marks)
	if got := set.All(); !slices.Equal(got, marks) || set.Len() != len(marks) {
		t.Fatalf("%s: All: %v, Len %d, want %v", when, got, set.Len(), marks)
	}
	for place, m := range marks {
		if got, ok := set.Get(m.ID); got != m || !ok {
			t.Fatalf("%s: Get(%d): %v, %v, want %v", when, m.ID, got, ok, m)
		}
		if got, want := set.Depth(m.ID), modelDepth(marks, place); got != want {
			t.Fatalf("%s: Depth of %v among %v: %d, want %d", when, m, marks, got, want)
		}
	}
}

func mustStab(t *testing.T, set *treap.Set, at int, want ...int) {
	t.Helper()
	if got := set.Stab(at); !slices.Equal(got, want) {
		t.Errorf("Stab(%d) among %v: %v, want %v", at, set.All(), got, want)
	}
}

func mustLieWithin(t *testing.T, set *treap.Set, from, to int, want ...int) {
	t.Helper()
	if got := set.Within(from, to); !slices.Equal(got, want) {
		t.Errorf("Within(%d, %d) among %v: %v, want %v", from, to, set.All(), got, want)
	}
}

// mustLack is that a set tells nothing of an ID that it does not have.
func mustLack(t *testing.T, set *treap.Set, id int) {
	t.Helper()
	if got, ok := set.Get(id); got != (api.Mark{}) || ok {
		t.Errorf("Get(%d): %v, %v", id, got, ok)
	}
	if got := set.Depth(id); got != 0 {
		t.Errorf("Depth(%d): %d", id, got)
	}
	mustRemove(t, set, id, api.ErrNone)
	mustMove(t, set, id, 1, 2, api.ErrNone)
}

// TestP71Order lists marks that differ in a single point of the order from one to the next, the greatest and least numbers among them.
func TestP71Order(t *testing.T) {
	ordered := []api.Mark{
		mark(3, 0, farthest, 0),
		mark(math.MinInt, 0, 7, 0), // equal spans: the lesser ID
		mark(-1, 0, 7, 5),
		mark(0, 0, 7, -5),
		mark(math.MaxInt, 0, 7, 0),
		mark(9, 0, 6, math.MinInt), // equal From: the greater To
		mark(8, 0, 0, math.MaxInt),
		mark(7, 1, 9, 0), // the lesser From
		mark(6, 1, 1, 0),
		mark(5, farthest, farthest, 0),
	}
	for turn := range ordered {
		rest := slices.Concat(ordered[turn:], ordered[:turn])
		mustHold(t, "forwards", setOf(t, rest...), ordered)
		slices.Reverse(rest)
		set := setOf(t, rest...)
		mustHold(t, "backwards", set, ordered)
		if got := set.All(); !slices.Equal(got, ordered) {
			t.Errorf("All: %v, want %v", got, ordered)
		}
	}
}

func TestP71AddRefused(t *testing.T) {
	set := setOf(t, mark(1, 2, 3, 4), mark(0, 0, 5, 4))
	want := set.All()
	for _, span := range noSpans {
		mustAdd(t, set, mark(7, span.From, span.To, 9), api.ErrArg)
		mustAdd(t, set, mark(1, span.From, span.To, 9), api.ErrArg) // ErrForm applies, too, but comes second
	}
	mustAdd(t, set, mark(1, 2, 3, 4), api.ErrForm)
	mustAdd(t, set, mark(1, 0, 9, 9), api.ErrForm)
	mustAdd(t, set, api.Mark{}, api.ErrForm)
	mustHold(t, "after what was refused", set, want)
}

func TestP71AddAtTheBounds(t *testing.T) {
	mustHold(t, "the least span", setOf(t, mark(0, 0, 0, 0)), []api.Mark{mark(0, 0, 0, 0)})
	mustHold(t, "the greatest", setOf(t, mark(0, 0, farthest, 0)), []api.Mark{mark(0, 0, farthest, 0)})
	mustHold(t, "the last", setOf(t, mark(0, farthest, farthest, 0)), []api.Mark{mark(0, farthest, farthest, 0)})
}

// full returns marks of which a set can have all and no more.
func full() []api.Mark {
	var marks []api.Mark
	for id := range api.MaxMarks {
		marks = append(marks, mark(id, id%37, id%37+id%5, id%11))
	}
	return marks
}

func TestP71Full(t *testing.T) {
	marks := full()
	set := setOf(t, marks[1:]...)
	mustAdd(t, set, marks[0], api.OK)
	mustAdd(t, set, mark(-1, 0, 0, 0), api.ErrFull)
	mustAdd(t, set, mark(3, 0, 0, 0), api.ErrForm) // ErrFull applies, too, but comes last
	mustAdd(t, set, mark(-1, 1, 0, 0), api.ErrArg)
	mustAdd(t, set, mark(3, 1, 0, 0), api.ErrArg)
	mustHold(t, "full", set, marks)
	mustLack(t, set, -1)
	marks[3] = mark(3, 50, 60, marks[3].Prio)
	mustMove(t, set, 3, 50, 60, api.OK)
	mustHold(t, "moved in a full set", set, marks)
	mustRemove(t, set, 5, api.OK)
	mustAdd(t, set, mark(-1, 0, 0, 0), api.OK)
	mustAdd(t, set, mark(5, 0, 0, 0), api.ErrFull)
	mustHold(t, "full again", set, append(slices.Delete(marks, 5, 6), mark(-1, 0, 0, 0)))
}

func TestP71Remove(t *testing.T) {
	marks := []api.Mark{mark(1, 0, 9, 3), mark(2, 1, 4, 5), mark(3, 1, 4, 5), mark(4, 2, 2, 1), mark(5, 7, 8, 4)}
	for _, gone := range marks {
		set := setOf(t, marks...)
		mustRemove(t, set, gone.ID, api.OK)
		rest := slices.DeleteFunc(slices.Clone(marks), func(m api.Mark) bool { return m == gone })
		mustHold(t, "removed", set, rest)
		mustLack(t, set, gone.ID)
		mustHold(t, "removed twice", set, rest)
		mustAdd(t, set, mark(gone.ID, 3, 3, 9), api.OK)
		mustHold(t, "added anew", set, append(rest, mark(gone.ID, 3, 3, 9)))
	}
	set := setOf(t, marks...)
	for _, m := range marks {
		mustRemove(t, set, m.ID, api.OK)
	}
	mustHold(t, "all removed", set, nil)
}

func TestP71Move(t *testing.T) {
	marks := []api.Mark{mark(1, 0, 9, 3), mark(2, 1, 4, 5), mark(3, 1, 4, 5), mark(4, 2, 2, 1), mark(5, 7, 8, 4)}
	for i, m := range marks {
		for _, span := range []api.Span{{From: 0, To: 0}, {From: 1, To: 4}, {From: 3, To: 9}, {From: 0, To: farthest}, {From: farthest, To: farthest}, {From: m.From, To: m.To}} {
			set := setOf(t, marks...)
			mustMove(t, set, m.ID, span.From, span.To, api.OK)
			moved := slices.Clone(marks)
			moved[i] = mark(m.ID, span.From, span.To, m.Prio)
			mustHold(t, "moved", set, moved)
			mustMove(t, set, m.ID, m.From, m.To, api.OK)
			mustHold(t, "moved back", set, marks)
		}
	}
}

func TestP71MoveRefused(t *testing.T) {
	set := setOf(t, mark(1, 2, 3, 4), mark(0, 0, 5, 4))
	want := set.All()
	for _, span := range noSpans {
		mustMove(t, set, 7, span.From, span.To, api.ErrNone) // ErrArg applies, too, but comes second
		mustMove(t, set, 1, span.From, span.To, api.ErrArg)
		mustMove(t, treap.New(), 0, span.From, span.To, api.ErrNone)
	}
	mustMove(t, set, 7, 0, 1, api.ErrNone)
	mustHold(t, "after what was refused", set, want)
}

// TestP71Lacking is also the chapter's example 1: an empty set tells nothing.
func TestP71Lacking(t *testing.T) {
	empty, set := treap.New(), setOf(t, mark(1, 2, 3, 4), mark(5, 2, 3, 4))
	for _, id := range []int{0, -1, 2, 4, 6, 255, 256, 257, 1<<32 + 1, math.MinInt, math.MaxInt} {
		mustLack(t, empty, id)
		mustLack(t, set, id)
		mustStab(t, empty, id)
		mustLieWithin(t, empty, -id, id)
	}
	mustHold(t, "empty", empty, nil)
	mustHold(t, "not asked for what it has", set, []api.Mark{mark(1, 2, 3, 4), mark(5, 2, 3, 4)})
}

// TestP71TwoSets is that a set knows nothing of another one.
func TestP71TwoSets(t *testing.T) {
	first, second := setOf(t, mark(1, 2, 3, 4)), setOf(t, mark(1, 5, 6, 7), mark(2, 0, 0, 0))
	mustRemove(t, second, 1, api.OK)
	mustHold(t, "the first", first, []api.Mark{mark(1, 2, 3, 4)})
	mustHold(t, "the second", second, []api.Mark{mark(2, 0, 0, 0)})
}

func TestP72WrittenOut(t *testing.T) {
	set := setOf(t, mark(1, 2, 5, 1), mark(2, 2, 9, 2), mark(3, 5, 5, 3), mark(4, 0, 2, 4), mark(5, 2, 5, 5), mark(6, 6, 7, 6))
	mustStab(t, set, -1)
	mustStab(t, set, 0, 4)
	mustStab(t, set, 1, 4)
	mustStab(t, set, 2, 4, 2, 1, 5) // both an end and a beginning
	mustStab(t, set, 3, 2, 1, 5)
	mustStab(t, set, 5, 2, 1, 5, 3) // an empty span, and the ends of others
	mustStab(t, set, 6, 2, 6)
	mustStab(t, set, 9, 2)
	mustStab(t, set, 10)
	mustLieWithin(t, set, 0, 9, 4, 2, 1, 5, 3, 6)
	mustLieWithin(t, set, 2, 5, 1, 5, 3) // just their span
	mustLieWithin(t, set, 3, 5, 3)
	mustLieWithin(t, set, 2, 4)
	mustLieWithin(t, set, 1, 9, 2, 1, 5, 3, 6)
	mustLieWithin(t, set, 0, 2, 4)
	mustLieWithin(t, set, 5, 5, 3) // an empty range
	mustLieWithin(t, set, 4, 4)
	mustLieWithin(t, set, 5, 2) // the wrong way round
	mustLieWithin(t, set, 9, 0)
}

// TestP72FarNumbers is that Stab and Within refuse no numbers.
func TestP72FarNumbers(t *testing.T) {
	set := setOf(t, mark(1, 0, 0, 1), mark(2, 0, farthest, 3), mark(3, farthest, farthest, 2))
	mustStab(t, set, 0, 2, 1)
	mustStab(t, set, farthest, 2, 3)
	for _, at := range []int{math.MinInt, math.MinInt + 1, -farthest, -1, farthest + 1, math.MaxInt - 1, math.MaxInt} {
		mustStab(t, set, at)
		mustLieWithin(t, set, at, at)
	}
	mustLieWithin(t, set, math.MinInt, math.MaxInt, 2, 1, 3)
	mustLieWithin(t, set, 0, farthest, 2, 1, 3)
	mustLieWithin(t, set, math.MinInt, farthest-1, 1)
	mustLieWithin(t, set, 1, math.MaxInt, 3)
	mustLieWithin(t, set, math.MaxInt, math.MinInt)
	mustLieWithin(t, set, farthest, 0)
}

// mustTell holds every Stab and Within about the indices from 0 to length against a plain list.
func mustTell(t *testing.T, set *treap.Set, marks []api.Mark, length int) {
	t.Helper()
	marks = sorted(marks)
	for at := -1; at <= length+1; at++ {
		mustStab(t, set, at, chosen(marks, func(m api.Mark) bool { return m.From <= at && at <= m.To })...)
		for to := -1; to <= length+1; to++ {
			mustLieWithin(t, set, at, to, chosen(marks, func(m api.Mark) bool { return at <= m.From && m.To <= to })...)
		}
	}
}

// TestP72AllShortSpans has each short span several times, above and below each other one in some of the sets.
func TestP72AllShortSpans(t *testing.T) {
	const length = 5
	source := rand.New(rand.NewSource(72))
	for range 20 {
		var marks []api.Mark
		for from := range length + 1 {
			for to := from; to <= length; to++ {
				for range source.Intn(3) {
					marks = append(marks, mark(len(marks), from, to, source.Intn(40)))
				}
			}
		}
		mustTell(t, setOf(t, marks...), marks, length)
	}
}

func TestP73WrittenOut(t *testing.T) {
	depths := func(want []int, marks ...api.Mark) {
		t.Helper()
		set := setOf(t, marks...)
		for i, m := range marks {
			if got := set.Depth(m.ID); got != want[i] {
				t.Errorf("Depth(%d) among %v: %d, want %d", m.ID, marks, got, want[i])
			}
		}
	}
	depths([]int{1}, mark(7, 3, 4, -9))                                                               // the chapter's run
	depths([]int{2, 1, 2}, mark(1, 0, 0, 1), mark(2, 1, 1, 3), mark(3, 2, 2, 2))                      // the greatest Prio amid
	depths([]int{1, 3, 2}, mark(1, 0, 0, 3), mark(2, 1, 1, 1), mark(3, 2, 2, 2))                      // to the right, then to the left
	depths([]int{2, 3, 1}, mark(1, 0, 0, 2), mark(2, 1, 1, 1), mark(3, 2, 2, 3))                      // to the left, then to the right
	depths([]int{3, 2, 1}, mark(3, 0, 0, 5), mark(2, 1, 1, 5), mark(1, 2, 2, 5))                      // equal Prio: the lesser ID above
	depths([]int{2, 1, 2}, mark(-1, 0, 0, 5), mark(math.MinInt, 1, 1, 5), mark(0, 2, 2, 5))           // the least ID
	depths([]int{2, 1, 2}, mark(1, 0, 0, 0), mark(2, 1, 1, math.MaxInt), mark(3, 3, 3, -1))           // each on its side, whatever its Prio
	depths([]int{3, 1, 2}, mark(1, 0, 0, math.MinInt), mark(2, 2, 2, math.MaxInt), mark(3, 1, 1, -1)) // the extreme Prios
}

// TestP73Chains is a tree of the greatest depth: the order of Prio goes along with the order of marks, or against it.
func TestP73Chains(t *testing.T) {
	down, up := treap.New(), treap.New()
	for i := range api.MaxMarks {
		mustAdd(t, down, mark(i, i, i, -i), api.OK)
		mustAdd(t, up, mark(i, i, i, i), api.OK)
	}
	for i := range api.MaxMarks {
		if got := down.Depth(i); got != i+1 {
			t.Errorf("Depth(%d) of a chain to the right: %d", i, got)
		}
		if got := up.Depth(i); got != api.MaxMarks-i {
			t.Errorf("Depth(%d) of a chain to the left: %d", i, got)
		}
	}
	mustStab(t, down, api.MaxMarks-1, api.MaxMarks-1)
	mustLieWithin(t, up, 0, 1, 0, 1)
}

// inEachOrder calls do with all orders of a list.
func inEachOrder(marks []api.Mark, do func([]api.Mark)) {
	var place func(done, left []api.Mark)
	place = func(done, left []api.Mark) {
		if len(left) == 0 {
			do(done)
		}
		for i, m := range left {
			place(append(slices.Clone(done), m), slices.Concat(left[:i], left[i+1:]))
		}
	}
	place(nil, marks)
}

// TestP74AllOrders adds, and removes, marks in all orders; mustHold's depths do not depend on the order.
func TestP74AllOrders(t *testing.T) {
	source := rand.New(rand.NewSource(74))
	for range 12 {
		var marks []api.Mark
		for id := range 5 {
			from := source.Intn(4)
			marks = append(marks, mark(id-2, from, from+source.Intn(3), source.Intn(4)))
		}
		inEachOrder(marks, func(row []api.Mark) {
			set := treap.New()
			for i, m := range row {
				mustAdd(t, set, m, api.OK)
				mustHold(t, "while marks are added", set, row[:i+1])
			}
			whole := setOf(t, marks...)
			for i, m := range row {
				mustHold(t, "while marks are removed", whole, row[i:])
				mustRemove(t, whole, m.ID, api.OK)
			}
		})
	}
}

// TestP74ByMoves makes the same set by moves of marks from elsewhere, beside marks that go again.
func TestP74ByMoves(t *testing.T) {
	source := rand.New(rand.NewSource(741))
	for range 60 {
		set := treap.New()
		var marks []api.Mark
		for id := range 12 {
			from := source.Intn(8)
			marks = append(marks, mark(id, from, from+source.Intn(8), source.Intn(5)))
			mustAdd(t, set, mark(id, source.Intn(8), 8, marks[id].Prio), api.OK)
			mustAdd(t, set, mark(100+id, source.Intn(8), 8, source.Intn(5)), api.OK)
		}
		for _, id := range source.Perm(12) {
			mustMove(t, set, id, marks[id].From, marks[id].To, api.OK)
		}
		for _, id := range source.Perm(12) {
			mustRemove(t, set, 100+id, api.OK)
		}
		mustHold(t, "made by moves", set, marks)
	}
}

// TestP74LongRows makes long rows of calls of one set each, with an unchanging seed, and holds the set against a map.
func TestP74LongRows(t *testing.T) {
	source := rand.New(rand.NewSource(742))
	for range 10 {
		set, model := treap.New(), map[int]api.Mark{}
		for range 300 {
			from := source.Intn(20)
			m := mark(source.Intn(30), from, from+source.Intn(6), source.Intn(9))
			old, there := model[m.ID]
			switch {
			case source.Intn(3) == 0 && there:
				mustRemove(t, set, m.ID, api.OK)
				delete(model, m.ID)
			case there:
				mustAdd(t, set, m, api.ErrForm)
				mustMove(t, set, m.ID, m.From, m.To, api.OK)
				model[m.ID] = mark(m.ID, m.From, m.To, old.Prio)
			default:
				mustLack(t, set, m.ID)
				mustAdd(t, set, m, api.OK)
				model[m.ID] = m
			}
			var marks []api.Mark
			for _, m := range model {
				marks = append(marks, m)
			}
			mustHold(t, "in a long row", set, marks)
		}
	}
}

// scribble writes over all that a slice reaches.
func scribble[E any](s []E, with E) {
	s = s[:cap(s)]
	for i := range s {
		s[i] = with
	}
}

// TestP72OwnMemory is R4: the results of a set can be changed, and the set and its other results stay.
func TestP72OwnMemory(t *testing.T) {
	marks := []api.Mark{mark(1, 0, 9, 3), mark(2, 1, 4, 5), mark(3, 1, 4, 5)}
	set := setOf(t, marks...)
	all, stab, within := set.All(), set.Stab(2), set.Within(0, 9)
	scribble(set.All(), mark(9, 9, 9, 9))
	scribble(set.Stab(2), 9)
	scribble(set.Within(0, 9), 9)
	mustHold(t, "results changed", set, marks)
	ids := []int{1, 2, 3}
	if !slices.Equal(all, marks) || !slices.Equal(stab, ids) || !slices.Equal(within, ids) {
		t.Errorf("results share memory: %v, %v, %v", all, stab, within)
	}
	mustMove(t, set, 2, 7, 8, api.OK)
	mustRemove(t, set, 1, api.OK)
	if !slices.Equal(all, marks) || !slices.Equal(stab, ids) || !slices.Equal(within, ids) {
		t.Errorf("results changed with the set: %v, %v, %v", all, stab, within)
	}
}

// TestP71NilSet is R7.
func TestP71NilSet(t *testing.T) {
	var none *treap.Set
	for _, span := range append([]api.Span{{From: 0, To: 1}}, noSpans...) {
		mustAdd(t, none, mark(1, span.From, span.To, 0), api.ErrNil)
		mustMove(t, none, 1, span.From, span.To, api.ErrNil)
		mustRemove(t, none, span.From, api.ErrNil)
		mustStab(t, none, span.From)
		mustLieWithin(t, none, span.From, span.To)
		if got := none.Depth(span.From); got != 0 {
			t.Errorf("Depth of a nil set: %d", got)
		}
		if got, ok := none.Get(span.From); got != (api.Mark{}) || ok {
			t.Errorf("Get of a nil set: %v, %v", got, ok)
		}
	}
	if all, n := none.All(), none.Len(); len(all) != 0 || n != 0 {
		t.Errorf("a nil set: %v, %d", all, n)
	}
}
