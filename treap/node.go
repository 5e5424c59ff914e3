package treap

import "standish/api"

// may reports whether a mark may have this span.
func may(from, to int) bool { return 0 <= from && from <= to && to <= farthest }

// precedes is the order of marks: it decides which mark stands to the left of which.
func precedes(a, b api.Mark) bool {
	switch {
	case a.From != b.From:
		return a.From < b.From
	case a.To != b.To:
		return a.To > b.To
	}
	return a.ID < b.ID
}

// outranks decides which of two marks stands above the other if one of them does.
func outranks(a, b api.Mark) bool {
	if a.Prio != b.Prio {
		return a.Prio > b.Prio
	}
	return a.ID < b.ID
}

// find returns the node of the mark with this ID, or nil. It looks on both sides, since the order of marks begins with their spans.
func (n *node) find(id int) *node {
	if n == nil || n.mark.ID == id {
		return n
	}
	if found := n.left.find(id); found != nil {
		return found
	}
	return n.right.find(id)
}

// with returns the tree with m, which is not in it.
func (n *node) with(m api.Mark) *node {
	switch {
	case n == nil || outranks(m, n.mark):
		left, right := n.split(m)
		return &node{m, left, right}
	case precedes(m, n.mark):
		n.left = n.left.with(m)
	default:
		n.right = n.right.with(m)
	}
	return n
}

// split takes the tree apart into the marks that precede m and those that follow it.
func (n *node) split(m api.Mark) (left, right *node) {
	switch {
	case n == nil:
		return nil, nil
	case precedes(n.mark, m):
		n.right, right = n.right.split(m)
		return n, right
	}
	left, n.left = n.left.split(m)
	return left, n
}

// without returns the tree without m, which is in it.
func (n *node) without(m api.Mark) *node {
	switch {
	case n.mark == m:
		return join(n.left, n.right)
	case precedes(m, n.mark):
		n.left = n.left.without(m)
	default:
		n.right = n.right.without(m)
	}
	return n
}

// join returns one tree of two, where all marks of the left one precede those of the right one.
func join(left, right *node) *node {
	switch {
	case left == nil:
		return right
	case right == nil:
		return left
	case outranks(left.mark, right.mark):
		left.right = join(left.right, right)
		return left
	}
	right.left = join(left, right.left)
	return right
}

// count returns the number of marks in the tree.
func (n *node) count() int {
	if n == nil {
		return 0
	}
	return n.left.count() + 1 + n.right.count()
}

// depth returns the number of marks on the path to m, which is in the tree.
func (n *node) depth(m api.Mark) int {
	switch {
	case n.mark == m:
		return 1
	case precedes(m, n.mark):
		return 1 + n.left.depth(m)
	}
	return 1 + n.right.depth(m)
}

// all appends the marks of the tree, in order.
func (n *node) all(marks []api.Mark) []api.Mark {
	if n == nil {
		return marks
	}
	marks = append(n.left.all(marks), n.mark)
	return n.right.all(marks)
}

// stab appends the IDs of the marks that contain at, in order. The marks to the right of one that begins behind at begin there, too.
func (n *node) stab(at int, ids []int) []int {
	if n == nil {
		return ids
	}
	ids = n.left.stab(at, ids)
	if n.mark.From > at {
		return ids
	}
	if n.mark.To >= at {
		ids = append(ids, n.mark.ID)
	}
	return n.right.stab(at, ids)
}

// within appends the IDs of the marks between from and to, in order. The marks to the left of one that begins ahead of from begin there, too; those to the right of one that begins behind to also end behind it.
func (n *node) within(from, to int, ids []int) []int {
	if n == nil {
		return ids
	}
	if n.mark.From >= from {
		ids = n.left.within(from, to, ids)
		if n.mark.To <= to {
			ids = append(ids, n.mark.ID)
		}
	}
	if n.mark.From > to {
		return ids
	}
	return n.right.within(from, to, ids)
}
