package rematch

import (
	"slices"

	"standish/api"
	"standish/signs"
)

// none stands for an index that was not recorded.
const none = -1

// search is a single Find. All its tries share what was reached: what has failed from there fails again.
type search struct {
	matcher  *Matcher
	text     []rune
	recorded []int
	undo     []record
	left     []path
	reached  bitmap
}

// record is what recorded[slot] was before it was overwritten.
type record struct{ slot, before int }

// path is one that is left to be followed, from an instruction and an index on, once all but the first records are undone.
type path struct{ inst, at, records int }

// newSearch returns a search in which nothing is recorded or reached.
func newSearch(m *Matcher, text []rune) *search {
	return &search{
		matcher:  m,
		text:     text,
		recorded: slices.Repeat([]int{none}, 2*m.groups+2),
		reached:  newBitmap(len(m.program) * (len(text) + 1)),
	}
}

// try reports whether a path from the index at on reaches the end.
func (s *search) try(at int) bool {
	s.left = append(s.left, path{at: at})
	for len(s.left) > 0 {
		last := len(s.left) - 1
		p := s.left[last]
		s.left = s.left[:last]
		s.undoTo(p.records)
		if s.follow(p.inst, p.at) {
			return true
		}
	}
	return false
}

// follow reports whether a path reaches the end; where it splits, it leaves the second way for later.
func (s *search) follow(inst, at int) bool {
	for s.reach(inst, at) {
		in := s.matcher.program[inst]
		inst++
		switch in.Op {
		case api.InSet:
			if at == len(s.text) || !s.inSet(in, s.text[at]) {
				return false
			}
			at++
		case api.InStart:
			if at != 0 {
				return false
			}
		case api.InEnd:
			if at != len(s.text) {
				return false
			}
		case api.InSave:
			s.record(in.X, at)
		case api.InJump:
			inst = in.X
		case api.InSplit:
			s.left = append(s.left, path{in.Y, at, len(s.undo)})
			inst = in.X
		case api.InMatch:
			return true
		}
	}
	return false
}

// reach reports whether the search reaches an instruction at an index for the first time.
func (s *search) reach(inst, at int) bool { return s.reached.add(inst*(len(s.text)+1) + at) }

// record records an index for a slot, so that it can be undone.
func (s *search) record(slot, at int) {
	s.undo = append(s.undo, record{slot, s.recorded[slot]})
	s.recorded[slot] = at
}

// undoTo undoes all but the first n records, the latest one first.
func (s *search) undoTo(n int) {
	for last := len(s.undo) - 1; last >= n; last-- {
		r := s.undo[last]
		s.recorded[r.slot] = r.before
	}
	s.undo = s.undo[:n]
}

// inSet reports whether r is in the set of an instruction.
func (s *search) inSet(in api.Inst, r rune) bool {
	inside := inRanges(in.Set, r)
	if s.matcher.fold && !inside {
		inside = inRanges(in.Set, signs.Upper(r)) || inRanges(in.Set, signs.Lower(r))
	}
	return inside != in.Not
}

// inRanges reports whether r lies in one of some ranges, two elements each.
func inRanges(ranges []rune, r rune) bool {
	for i := 0; i < len(ranges); i += 2 {
		if ranges[i] <= r && r <= ranges[i+1] {
			return true
		}
	}
	return false
}

// bitmap is a set of small numbers: a bit for each of them.
type bitmap []uint64

// newBitmap returns an empty set that has room for the numbers below n.
func newBitmap(n int) bitmap { return make(bitmap, (n+63)/64) }

// add puts n into the set and reports whether it was not in it before.
func (b bitmap) add(n int) bool {
	word, bit := n/64, uint64(1)<<(n%64)
	added := b[word]&bit == 0
	b[word] |= bit
	return added
}
