package tree

import (
	"slices"
	"strings"

	"arras/api"
	"arras/op"
	"arras/stamp"
)

// forest is the nodes while moves are done and undone. Each place that a move names has a number, so that the way up from a node needs no looking up.
type forest struct {
	numbers map[api.Stamp]int
	spots   []spot // by their numbers
}

// spot is a place: a node, or nothing as yet.
type spot struct {
	there bool
	node  api.Node
	above int // the number of the node's Parent
}

// grown does the moves of t one by one. It refuses a tree that is not valid.
func grown(t api.Tree) (*forest, api.Errno) {
	f := &forest{numbers: map[api.Stamp]int{}}
	for at, m := range t.Moves {
		if !isMove(m.Op) || at > 0 && !op.Less(t.Moves[at-1].Op, m.Op) {
			return nil, api.ErrForm
		}
		if !sameEffect(f.do(m.Op), m) {
			return nil, api.ErrForm
		}
	}
	if !slices.Equal(f.nodes(), t.Nodes) {
		return nil, api.ErrForm
	}
	return f, api.OK
}

// insert does the move o ahead of the last ones that were done: these are undone, o is done, they are done again. It returns what o and they do now.
func (f *forest) insert(last []api.Entry, o api.Op) []api.Entry {
	at := len(last)
undoNext:
	if at > 0 {
		at--
		f.undo(last[at])
		goto undoNext
	}
	out := []api.Entry{f.do(o)}
doNext:
	if at < len(last) {
		out = append(out, f.do(last[at].Op))
		at++
		goto doNext
	}
	return out
}

// do does a move and tells what that undid.
func (f *forest) do(o api.Op) api.Entry {
	n, parent := f.number(o.Node), f.number(o.Parent)
	s := f.spots[n]
	out := api.Entry{Op: o, Was: s.there, Parent: s.node.Parent, Key: s.node.Key, Idle: f.isAbove(n, parent)}
	if !out.Idle {
		f.spots[n] = spot{there: true, node: api.Node{ID: o.Node, Parent: o.Parent, Key: o.Key}, above: parent}
	}
	return out
}

// undo takes the last move back. An idle one's entry holds what is there still.
func (f *forest) undo(m api.Entry) {
	n := f.number(m.Op.Node)
	if !m.Was {
		f.spots[n] = spot{}
		return
	}
	above := f.number(m.Parent)
	f.spots[n] = spot{there: true, node: api.Node{ID: m.Op.Node, Parent: m.Parent, Key: m.Key}, above: above}
}

// isAbove tells whether the place n is the place at, or above it.
func (f *forest) isAbove(n, at int) bool {
nextPlace:
	if at == n {
		return true
	}
	if !f.spots[at].there {
		return false
	}
	at = f.spots[at].above
	goto nextPlace
}

// number returns a place's number, a new one if it has none.
func (f *forest) number(id api.Stamp) int {
	n, has := f.numbers[id]
	if !has {
		n = len(f.spots)
		f.numbers[id] = n
		f.spots = append(f.spots, spot{})
	}
	return n
}

// find returns what a place is; one without a number is no node.
func (f *forest) find(id api.Stamp) spot {
	n, has := f.numbers[id]
	if !has {
		return spot{}
	}
	return f.spots[n]
}

// nodes returns the nodes that are there, by their IDs.
func (f *forest) nodes() []api.Node {
	var out []api.Node
	for _, s := range f.spots {
		if s.there {
			out = append(out, s.node)
		}
	}
	slices.SortFunc(out, func(a, b api.Node) int { return stamp.Cmp(a.ID, b.ID) })
	return out
}

// tree returns the tree of the nodes as they are now, which these moves made.
func (f *forest) tree(moves []api.Entry) api.Tree {
	var out api.Tree
	for _, n := range f.nodes() {
		out.Nodes = append(out.Nodes, apart(n))
	}
	for _, m := range moves {
		m.Op, m.Key = copied(m.Op), strings.Clone(m.Key)
		out.Moves = append(out.Moves, m)
	}
	return out
}

// sameEffect tells whether a and b, of the same move, say the same of what it did.
func sameEffect(a, b api.Entry) bool {
	return a.Was == b.Was && a.Parent == b.Parent && a.Key == b.Key && a.Idle == b.Idle
}

func byStamps(m api.Entry, o api.Op) int {
	return stamp.Cmp(m.Op.Stamp, o.Stamp)
}

func isMove(o api.Op) bool {
	return o.Kind == api.OpMove && op.Check(o) == api.OK
}

// apart returns n in memory of its own.
func apart(n api.Node) api.Node {
	n.Key = strings.Clone(n.Key)
	return n
}

// copied returns o in memory of its own.
func copied(o api.Op) api.Op {
	o.Deps = slices.Clone(o.Deps)
	o.Key = strings.Clone(o.Key)
	return o
}
