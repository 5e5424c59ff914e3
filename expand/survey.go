package expand

import (
	"standish/api"
	"standish/transform"
	"standish/vars"
)

// none stands for no node, and for no field.
const none = -1

// liveNode is a live node of a snippet.
type liveNode struct {
	api.Node
	told        []rune // what a variable tells, without what stands in it
	place       int    // the innermost home in which it stands, or none
	end         int    // the next live node that does not stand in it
	holdsMirror bool   // whether a mirror stands in it, if it is a home
	field       int    // its field, or none
}

// home is the home of a number.
type home struct {
	node    int
	text    []rune
	written bool // whether text is known
}

// survey is what shows of a snippet before its texts are put together.
type survey struct {
	list  []api.Node
	env   api.Env
	used  int
	live  []liveNode
	homes map[int]home // by their numbers
}

// surveyed goes through the tree of a snippet. Where no live node has the number 0, a home is added behind the others.
func surveyed(l []api.Node, e api.Env, used int) *survey {
	s := &survey{list: l, env: e, used: used, homes: map[int]home{}}
	s.row(0, 0, none)
	if _, ok := s.homes[0]; !ok {
		s.add(api.Node{Kind: api.NodeTab}, none)
	}
	s.markMirrors()
	return s
}

// row goes through live nodes that stand side by side in a home, or in none, from the one at an index on, and through what is live in them. It returns where they end.
func (s *survey) row(at, deep, place int) int {
	for at < len(s.list) && s.list[at].Deep == deep {
		at = s.node(at, place)
	}
	return at
}

// node goes through the live node at an index, and through what is live in it. It returns the index behind them.
func (s *survey) node(at, place int) int {
	n := s.list[at]
	i, opens := s.add(n, place)
	if !opens {
		return s.behind(at)
	}
	if n.Kind == api.NodePlace {
		place = i
	}
	at = s.row(at+1, n.Deep+1, place)
	s.live[i].end = len(s.live)
	return at
}

// behind returns the index behind the node at an index and what stands in it.
func (s *survey) behind(at int) int {
	end := at + 1
	for end < len(s.list) && s.list[end].Deep > s.list[at].Deep {
		end++
	}
	return end
}

// add puts n behind the live nodes. It returns its index there, and whether what stands in it, if anything can, is live.
func (s *survey) add(n api.Node, place int) (int, bool) {
	i := len(s.live)
	live := liveNode{Node: n, place: place, end: i + 1, field: none}
	opens := true
	switch {
	case isNumbered(n):
		opens = s.claim(n, i)
	case isVariable(n):
		live.told = s.tell(n)
		opens = len(live.told) == 0
	}
	s.live = append(s.live, live)
	return i, opens
}

// isNumbered reports whether n is a home or a mirror.
func isNumbered(n api.Node) bool {
	return homeRank(n.Kind) > 0
}

// isVariable reports whether n has the name of a variable.
func isVariable(n api.Node) bool {
	return n.Kind == api.NodeVar || n.Kind == api.NodeElse || n.Kind == api.NodeVarOf
}

// homeRank orders the kinds of the nodes that have a number: a home has the greatest rank of all nodes with its number. The others have none.
func homeRank(kind int) int {
	switch kind {
	case api.NodePlace, api.NodeChoice:
		return 3
	case api.NodeTab:
		return 2
	case api.NodeForm:
		return 1
	}
	return 0
}

// claim makes n, which becomes the live node i, the home of its number if no node goes ahead of it, and reports whether it does. A placeholder that does not become a home is a repeated one.
func (s *survey) claim(n api.Node, i int) bool {
	h, taken := s.homes[n.Num]
	if taken && homeRank(s.live[h.node].Kind) >= homeRank(n.Kind) {
		return false
	}
	s.homes[n.Num] = home{node: i}
	return true
}

// tell returns what the variable n tells by itself.
func (s *survey) tell(n api.Node) []rune {
	value, known, used := vars.Value(s.env, n.Text, s.used)
	s.used = used
	if n.Kind == api.NodeVarOf {
		value, _ = transform.Run(value, n.Pattern, n.Forms, n.All, n.Fold) // empty beside a fault
	}
	if n.Kind == api.NodeVar && !known {
		return n.Text
	}
	return value
}

// markMirrors marks the homes in which a mirror stands.
func (s *survey) markMirrors() {
	for i := range s.live {
		if !s.isMirror(i) {
			continue
		}
		for place := s.live[i].place; place != none; place = s.live[place].place {
			s.live[place].holdsMirror = true
		}
	}
}

// homeOf returns the home of the number of the live node i, which has one.
func (s *survey) homeOf(i int) int {
	return s.homes[s.live[i].Num].node
}

// isMirror reports whether the live node i is a mirror.
func (s *survey) isMirror(i int) bool {
	return isNumbered(s.live[i].Node) && s.homeOf(i) != i
}

// leftOut reports whether the live node i is a mirror that is left out: it stands in a home, and its own home is not free of mirrors, so that its text could depend on itself.
func (s *survey) leftOut(i int) bool {
	return s.isMirror(i) && s.live[i].place != none && s.live[s.homeOf(i)].holdsMirror
}
