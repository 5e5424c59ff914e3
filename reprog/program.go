package reprog

import (
	"slices"

	"standish/api"
)

// endless is the Hi of a repeat without an upper bound.
const endless = -1

// program is a list of instructions that is written from its first to its last one.
type program struct{ list []api.Inst }

// full reports whether there are more instructions than a program may have.
func (p *program) full() bool { return len(p.list) > api.MaxInst }

// add appends an instruction and returns its number.
func (p *program) add(inst api.Inst) int {
	p.list = append(p.list, inst)
	return len(p.list) - 1
}

// save appends the record of an index for x.
func (p *program) save(x int) { p.add(api.Inst{Op: api.InSave, X: x}) }

// split appends an InSplit whose targets aim fills in.
func (p *program) split() int { return p.add(api.Inst{Op: api.InSplit}) }

// aim fills in the targets of the InSplit with the number at: what has been written behind it, or else what comes after that; the other way round if it is lazy.
func (p *program) aim(at int, lazy bool) {
	inst := &p.list[at]
	inst.X, inst.Y = at+1, len(p.list)
	if lazy {
		inst.X, inst.Y = inst.Y, inst.X
	}
}

// parts returns the trees that stand in a list one after the other.
func parts(list []api.Re) [][]api.Re {
	var trees [][]api.Re
	for len(list) > 0 {
		n := 1
		for n < len(list) && list[n].Deep > list[0].Deep {
			n++
		}
		trees = append(trees, list[:n])
		list = list[n:]
	}
	return trees
}

// node appends the instructions of a tree.
func (p *program) node(tree []api.Re) {
	if p.full() {
		return // repeats within one another may ask for millions of instructions
	}
	root, contents := tree[0], tree[1:]
	switch root.Kind {
	case api.ReSeq:
		for _, item := range parts(contents) {
			p.node(item)
		}
	case api.ReAlt:
		p.alternatives(parts(contents))
	case api.ReSet:
		p.add(api.Inst{Op: api.InSet, Not: root.Not, Set: slices.Clone(root.Set)})
	case api.ReStart:
		p.add(api.Inst{Op: api.InStart})
	case api.ReEnd:
		p.add(api.Inst{Op: api.InEnd})
	case api.ReGroup:
		p.group(root.Lo, contents)
	case api.ReRep:
		p.times(root.Lo, contents)
		if root.Hi == endless {
			p.loop(contents, root.Lazy)
		} else {
			p.options(root.Hi-root.Lo, contents, root.Lazy)
		}
	}
}

// alternatives appends rows, of which one is gone through.
func (p *program) alternatives(rows [][]api.Re) {
	last := len(rows) - 1
	var jumps []int
	for _, row := range rows[:last] {
		split := p.split()
		p.node(row)
		jumps = append(jumps, p.add(api.Inst{Op: api.InJump}))
		p.aim(split, false)
	}
	p.node(rows[last])
	for _, at := range jumps {
		p.list[at].X = len(p.list)
	}
}

// group appends the content of parentheses, and what records its ends if they are numbered.
func (p *program) group(number int, content []api.Re) {
	if number == 0 {
		p.node(content)
		return
	}
	p.save(2 * number)
	p.node(content)
	p.save(2*number + 1)
}

// times appends content n times.
func (p *program) times(n int, content []api.Re) {
	for range n {
		before := len(p.list)
		p.node(content)
		if len(p.list) == before {
			return // there is nothing to append, and to look for it again and again would take too long
		}
	}
}

// loop appends content that may be gone through any number of times.
func (p *program) loop(content []api.Re, lazy bool) {
	split := p.split()
	p.node(content)
	p.add(api.Inst{Op: api.InJump, X: split})
	p.aim(split, lazy)
}

// options appends content n times, of which any number may be gone through.
func (p *program) options(n int, content []api.Re, lazy bool) {
	var splits []int
	for range n {
		splits = append(splits, p.split())
		p.node(content)
	}
	for _, at := range splits {
		p.aim(at, lazy)
	}
}
