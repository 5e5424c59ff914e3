package expand

import (
	"slices"

	"standish/api"
)

// expansion puts together the texts and the fields of a snippet.
type expansion struct {
	*survey
	indent []rune
	fields []api.Field
}

// makeFields makes the fields, which do not know yet where they are.
func (x *expansion) makeFields() error {
	for i := range x.live {
		if !isNumbered(x.live[i].Node) || x.leftOut(i) {
			continue
		}
		if len(x.fields) == api.MaxField {
			return nodeError{errFull, i}
		}
		x.live[i].field = len(x.fields)
		x.fields = append(x.fields, x.newField(i))
	}
	// only now each home has its field
	for i, n := range x.live {
		if n.field != none {
			x.fields[n.field].Of = x.live[x.homeOf(i)].field
		}
	}
	return nil
}

// newField makes the field of the live node i.
func (x *expansion) newField(i int) api.Field {
	n := x.live[i]
	f := api.Field{Kind: api.FieldPlain, Num: n.Num, Parent: none}
	if n.place != none {
		f.Parent = x.live[n.place].field
	}
	switch {
	case x.isMirror(i) && n.Kind == api.NodeForm:
		f.Kind = api.FieldForm
		f.Pattern, f.Forms, f.All, f.Fold = slices.Clone(n.Pattern), copyForms(n.Forms), n.All, n.Fold
	case x.isMirror(i):
		f.Kind = api.FieldMirror
	case n.Kind == api.NodeChoice:
		f.Kind = api.FieldChoice
		f.Items = copyTexts(n.Items)
	}
	return f
}

func copyTexts(l [][]rune) [][]rune {
	out := make([][]rune, len(l))
	for i, s := range l {
		out[i] = slices.Clone(s)
	}
	return out
}

func copyForms(l []api.Form) []api.Form {
	out := slices.Clone(l)
	for i := range out {
		out[i].Text, out[i].Else = slices.Clone(out[i].Text), slices.Clone(out[i].Else)
	}
	return out
}

// layOut tells the fields where they are. A node ends where the next one that does not stand in it begins.
func (x *expansion) layOut(starts []int) {
	for i, n := range x.live {
		if n.field != none {
			x.fields[n.field].From, x.fields[n.field].To = starts[i], starts[n.end]
		}
	}
}

// write returns the text of the live nodes from one to another, and where in it each of them begins, and at last where it ends.
func (x *expansion) write(from, to int) ([]rune, []int, error) {
	b := builder{}
	var starts []int
	for i := from; i < to; i++ {
		starts = append(starts, len(b.text))
		if err := x.put(&b, i); err != nil {
			return nil, nil, nodeError{err, i}
		}
	}
	return b.text, append(starts, len(b.text)), nil
}

// put puts the text of the live node i, without that of what stands in it.
func (x *expansion) put(b *builder, i int) error {
	n := x.live[i]
	switch {
	case n.Kind == api.NodeText:
		return b.putLines(n.Text, x.indent)
	case isVariable(n.Node):
		return b.put(n.told...)
	case n.field == none: // a mirror that is left out
		return nil
	case x.isMirror(i):
		return x.putMirror(b, n)
	case n.Kind == api.NodeChoice:
		return b.put(n.Items[0]...)
	}
	return nil
}

// putMirror puts the text of a mirror that has a field.
func (x *expansion) putMirror(b *builder, n liveNode) error {
	text, err := x.homeText(n.Num)
	if err != nil {
		return err
	}
	return b.put(Tell(x.fields[n.field], text)...)
}

// homeText returns the text of the home of a number. It comes to an end, as a mirror that stands in a home either is left out or has a home without mirrors.
func (x *expansion) homeText(num int) ([]rune, error) {
	h := x.homes[num]
	if h.written {
		return h.text, nil
	}
	text, _, err := x.write(h.node, x.live[h.node].end)
	if err != nil {
		return nil, err
	}
	x.homes[num] = home{node: h.node, text: text, written: true}
	return text, nil
}

// builder puts together a text of at most MaxText elements.
type builder struct {
	text []rune
}

func (b *builder) put(s ...rune) error {
	if len(s) > api.MaxText-len(b.text) {
		return errFull
	}
	b.text = append(b.text, s...)
	return nil
}

// putLines puts s with the indent behind each end of a line.
func (b *builder) putLines(s, indent []rune) error {
	for _, c := range s {
		if err := b.put(c); err != nil {
			return err
		}
		if c != '\n' {
			continue
		}
		if err := b.put(indent...); err != nil {
			return err
		}
	}
	return nil
}
