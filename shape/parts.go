package shape

import (
	"slices"
	"strings"

	"arras/api"
	"arras/reg"
	"arras/stamp"
	"arras/tree"
)

// mayMove tells whether a move may be issued, as the tree is now.
func mayMove(t api.Tree, o api.Op) api.Errno {
	live := isLive(t, o.Parent)
	var e api.Errno
	switch {
	case !live && o.Parent != trash():
		e = api.ErrNone
	case isNode(t, o.Node):
		e = mayGo(t, o)
	default:
		e = mayMake(t, o)
	}
	if e == api.OK && live && isTooDeep(t, o) {
		e = api.ErrLimit
	}
	return e
}

// mayGo tells whether a node that is there may go where o puts it, whatever its depth there.
func mayGo(t api.Tree, o api.Op) api.Errno {
	if o.Node == o.Parent || slices.Contains(above(t, o.Parent), o.Node) || !isLive(t, o.Node) {
		return api.ErrState
	}
	return api.OK
}

// mayMake tells whether a node may be made where o puts it, whatever its depth there.
func mayMake(t api.Tree, o api.Op) api.Errno {
	if o.Parent == trash() {
		return api.ErrState
	}
	if live, _ := beneath(t, root()); live >= api.MaxNodes {
		return api.ErrFull
	}
	return api.OK
}

// isTooDeep tells whether o puts its node, or one beneath that, too deep. Of a node that is not there yet there may be some beneath, too.
func isTooDeep(t api.Tree, o api.Op) bool {
	_, levels := beneath(t, o.Node)
	return len(above(t, o.Parent))+1+1+levels > api.MaxDepth+1
}

// beneath counts the nodes beneath a place, and in how many levels they are.
func beneath(t api.Tree, id api.Stamp) (int, int) {
	kids := map[api.Stamp][]api.Stamp{}
	for _, n := range t.Nodes {
		kids[n.Parent] = append(kids[n.Parent], n.ID)
	}
	count, levels, level := 0, 0, kids[id]
nextLevel:
	if len(level) > 0 {
		var next []api.Stamp
		for _, k := range level {
			next = append(next, kids[k]...)
		}
		count, levels, level = count+len(level), levels+1, next
		goto nextLevel
	}
	return count, levels
}

// above returns the places above a node, none for what is no node.
func above(t api.Tree, id api.Stamp) []api.Stamp {
	out, _ := tree.Above(t, id)
	return out
}

func isLive(t api.Tree, id api.Stamp) bool {
	live, _ := tree.Live(t, id)
	return live
}

func isNode(t api.Tree, id api.Stamp) bool {
	_, e := tree.Find(t, id)
	return e == api.OK
}

func keyOf(t api.Tree, id api.Stamp) string {
	n, _ := tree.Find(t, id)
	return n.Key
}

// styled returns the looks with the register that o sets.
func styled(l []api.Look, o api.Op) []api.Look {
	out := copiedLooks(l)
	at, there := slices.BinarySearchFunc(out, o.Node, byID)
	if !there {
		out = slices.Insert(out, at, api.Look{ID: o.Node})
	}
	// Neither these registers nor what a valid operation sets is ever refused.
	out[at].Regs, _ = reg.Set(out[at].Regs, o.Prop, o.Value, o.Stamp)
	return out
}

func areLooks(l []api.Look) bool {
	for at, x := range l {
		if stamp.Check(x.ID) != api.OK || at > 0 && stamp.Cmp(l[at-1].ID, x.ID) >= 0 {
			return false
		}
		if len(x.Regs) == 0 || reg.Check(x.Regs) != api.OK {
			return false
		}
	}
	return true
}

func byID(x api.Look, id api.Stamp) int {
	return stamp.Cmp(x.ID, id)
}

func copiedLooks(l []api.Look) []api.Look {
	out := slices.Clone(l)
	for at := range out {
		out[at].Regs = slices.Clone(out[at].Regs)
	}
	return out
}

func copiedTree(t api.Tree) api.Tree {
	out := api.Tree{Nodes: slices.Clone(t.Nodes), Moves: slices.Clone(t.Moves)}
	for at := range out.Nodes {
		n := &out.Nodes[at]
		n.Key = strings.Clone(n.Key)
	}
	for at := range out.Moves {
		m := &out.Moves[at]
		m.Key = strings.Clone(m.Key)
		m.Op.Key = strings.Clone(m.Op.Key)
		m.Op.Deps = slices.Clone(m.Op.Deps)
	}
	return out
}

func root() api.Stamp {
	return api.Stamp{}
}

func trash() api.Stamp {
	return api.Stamp{Rep: 1}
}
