package tree

import (
	"math"
	"slices"
	"strings"
	"testing"

	"arras/api"
)

var (
	root  = api.Stamp{}
	trash = api.Stamp{Rep: 1}
)

// spread returns n words, the same in every run.
func spread(seed uint64, n int) []uint64 {
	out := make([]uint64, n)
	for i := range out {
		seed = seed*6364136223846793005 + 1442695040888963407
		out[i] = seed>>17 ^ seed<<29
	}
	return out
}

func at(time, rep int) api.Stamp {
	return api.Stamp{Time: time, Rep: rep}
}

// id tells the places of small numbers: 0 is the root, -1 the trash; any other is a node's.
func id(n int) api.Stamp {
	switch n {
	case 0:
		return root
	case -1:
		return trash
	}
	return at(n, n%3)
}

func ids(ns ...int) []api.Stamp {
	var out []api.Stamp
	for _, n := range ns {
		out = append(out, id(n))
	}
	return out
}

// issued returns a move with that stamp, and with Deps that tell it.
func issued(s, node, parent api.Stamp, key string) api.Op {
	var deps []int
	for rep := range min(s.Rep+2, 16) {
		deps = append(deps, s.Time%1000+rep)
	}
	return api.Op{Stamp: s, Seq: deps[s.Rep] + 1, Deps: deps, Kind: api.OpMove, Node: node, Parent: parent, Key: key}
}

// move is of the place with the number node, beneath that with the number parent.
func move(time, node, parent int, key string) api.Op {
	return issued(at(time, time%5), id(node), id(parent), key)
}

// changed returns o with a change; its Deps are its own.
func changed(o api.Op, change func(o *api.Op)) api.Op {
	o.Deps = slices.Clone(o.Deps)
	change(&o)
	return o
}

// apartTree returns t in memory of its own.
func apartTree(t api.Tree) api.Tree {
	out := api.Tree{Nodes: slices.Clone(t.Nodes), Moves: slices.Clone(t.Moves)}
	for i := range out.Moves {
		out.Moves[i].Op.Deps = slices.Clone(out.Moves[i].Op.Deps)
	}
	return out
}

// with is a copy of t with a change.
func with(t api.Tree, change func(t *api.Tree)) api.Tree {
	out := apartTree(t)
	change(&out)
	return out
}

// below tells whether a is below b by Time, then by Rep.
func below(a, b api.Stamp) bool {
	return a.Time < b.Time || a.Time == b.Time && a.Rep < b.Rep
}

func order(a, b api.Stamp) int {
	switch {
	case a == b:
		return 0
	case below(a, b):
		return -1
	}
	return 1
}

// plainAbove is the places above Parent, as the document says: Parent itself, if it is a node its Parent, and so on.
func plainAbove(nodes map[api.Stamp]api.Node, parent api.Stamp) []api.Stamp {
	out := []api.Stamp{parent}
	for {
		n, there := nodes[out[len(out)-1]]
		if !there {
			return out
		}
		out = append(out, n.Parent)
	}
}

// performed is the tree of moves that are performed in the order in which they are given, whatever their stamps are.
func performed(ops ...api.Op) api.Tree {
	nodes := map[api.Stamp]api.Node{}
	var out api.Tree
	for _, o := range ops {
		old, was := nodes[o.Node]
		idle := slices.Contains(plainAbove(nodes, o.Parent), o.Node)
		out.Moves = append(out.Moves, api.Entry{Op: changed(o, func(*api.Op) {}), Was: was, Parent: old.Parent, Key: old.Key, Idle: idle})
		if !idle {
			nodes[o.Node] = api.Node{ID: o.Node, Parent: o.Parent, Key: o.Key}
		}
	}
	for _, n := range nodes {
		out.Nodes = append(out.Nodes, n)
	}
	slices.SortFunc(out.Nodes, func(a, b api.Node) int { return order(a.ID, b.ID) })
	return out
}

// plain is the tree of these moves by their stamps.
func plain(ops ...api.Op) api.Tree {
	ops = slices.Clone(ops)
	slices.SortFunc(ops, func(a, b api.Op) int { return order(a.Stamp, b.Stamp) })
	return performed(ops...)
}

func opsOf(t api.Tree) []api.Op {
	var out []api.Op
	for _, m := range t.Moves {
		out = append(out, m.Op)
	}
	return out
}

func sameOp(a, b api.Op) bool {
	return a.Stamp == b.Stamp && a.Seq == b.Seq && slices.Equal(a.Deps, b.Deps) && a.Kind == b.Kind && a.Node == b.Node && a.Parent == b.Parent && a.Key == b.Key && a.Prop == b.Prop && a.Value == b.Value
}

func sameTree(a, b api.Tree) bool {
	return slices.Equal(a.Nodes, b.Nodes) && slices.EqualFunc(a.Moves, b.Moves, func(x, y api.Entry) bool {
		return sameOp(x.Op, y.Op) && x.Was == y.Was && x.Parent == y.Parent && x.Key == y.Key && x.Idle == y.Idle
	})
}

func isZero(t api.Tree) bool {
	return len(t.Nodes) == 0 && len(t.Moves) == 0
}

// some is a tree with all that may be: nodes beneath the root, the trash, one another and a place without a node, some moved, and idle moves of nodes that are there and of one that is not.
func some() []api.Op {
	return []api.Op{
		move(11, 1, 0, "b"), move(12, 2, 1, "a"), move(13, 3, 2, "ab"), move(14, 1, 3, "z"), move(15, 4, -1, "b"),
		move(16, 5, 9, "b"), move(17, 9, 5, "c"), move(18, 3, 1, "k"), move(19, 6, 6, "k"), move(20, 4, 3, "\x00b"),
		move(21, 7, 0, strings.Repeat("k", 64)), move(22, 1, -1, "q"), move(23, 2, 2, "r"),
	}
}

// goodLists are lists of moves in the order of their stamps.
func goodLists() [][]api.Op {
	return [][]api.Op{
		nil,
		{},
		{move(1, 1, 0, "a")},
		{move(1, 1, -1, "a")},
		{move(1, 1, 2, "a")},
		{move(1, 1, 1, "a")},
		{move(5, 2, 0, "a"), move(6, 1, 2, "b")},
		{move(5, 1, 0, "a"), move(6, 1, 0, "a")},
		{move(5, 1, 0, "a"), move(6, 1, 0, "b")},
		{move(5, 1, 2, "a"), move(6, 2, 1, "b")},
		{move(5, 1, 0, "a"), move(6, 2, 0, "b"), move(7, 1, 2, "c"), move(8, 2, 1, "d")},
		{issued(at(1, 0), at(1, 0), root, "x"), issued(at(1, 15), at(1, 15), at(1, 0), "x"), issued(at(2, 0), at(2, 0), at(1, 15), "x")},
		{issued(at(api.MaxTime, 0), at(api.MaxTime, 14), trash, "x"), issued(at(api.MaxTime, 14), at(api.MaxTime, 15), at(api.MaxTime, 14), "\xff")},
		some(),
	}
}

// noMoves are changes of a move after each of which it is not one.
func noMoves() []func(o *api.Op) {
	out := []func(o *api.Op){
		func(o *api.Op) { o.Seq = 0 },
		func(o *api.Op) { o.Seq++ },
		func(o *api.Op) { o.Seq-- },
		func(o *api.Op) { o.Deps = nil },
		func(o *api.Op) { o.Deps = o.Deps[:o.Stamp.Rep] },
		func(o *api.Op) { o.Deps[o.Stamp.Rep]++ },
		func(o *api.Op) { o.Deps[(o.Stamp.Rep+1)%len(o.Deps)] = -1 },
		func(o *api.Op) { o.Deps = append(o.Deps, make([]int, 16)...) },
		func(o *api.Op) { o.Key = "" },
		func(o *api.Op) { o.Key = "a\x00" },
		func(o *api.Op) { o.Key = strings.Repeat("k", 65) },
		func(o *api.Op) { o.Prop = 1 },
		func(o *api.Op) { o.Value = 1 },
		func(o *api.Op) { o.Kind = api.OpStyle }, // with what a move has
		func(o *api.Op) { o.Kind, o.Parent, o.Key = api.OpStyle, root, "" },
		func(o *api.Op) { o.Kind, o.Parent, o.Key, o.Prop, o.Value = api.OpStyle, root, "", api.PropGrow, 5 },
	}
	for _, kind := range []int{api.OpNone, 3, -1, 257, math.MinInt} {
		out = append(out, func(o *api.Op) { o.Kind = kind })
	}
	for _, s := range []api.Stamp{root, trash, at(-1, 0), at(0, 2), at(1, 16), at(1, -1), at(api.MaxTime+1, 0), at(math.MinInt, 0), at(math.MaxInt, 0), at(1, math.MinInt), at(1, math.MaxInt)} {
		out = append(out, func(o *api.Op) { o.Node = s })
		if s != root && s != trash {
			out = append(out, func(o *api.Op) { o.Parent = s })
		}
	}
	return out
}

// noStamps are values of Stamp after a change to each of which an operation is not one.
func noStamps() []api.Stamp {
	return []api.Stamp{{}, trash, at(-1, 0), at(api.MaxTime+1, 0), at(1, -1), at(1, 16), at(math.MaxInt, 0), at(math.MinInt, math.MinInt)}
}

// misordered are trees whose moves do not ascend in their stamps; each move tells its effect in their order.
func misordered() []api.Tree {
	a, b, c := move(1, 1, 0, "a"), move(2, 2, 0, "b"), move(3, 1, 2, "c")
	out := []api.Tree{
		performed(a, a), performed(b, a), performed(a, a, b), performed(a, b, b), performed(a, c, b), performed(b, a, c), performed(c, b, a), performed(a, b, c, a), performed(b, c, c),
		performed(a, changed(b, func(o *api.Op) { *o = issued(a.Stamp, o.Node, o.Parent, o.Key) })),
		performed(issued(at(4, 3), id(1), root, "x"), issued(at(4, 2), id(2), root, "y")),
		performed(issued(at(5, 0), id(1), root, "x"), issued(at(4, 15), id(2), root, "y")),
	}
	for i := range some() {
		out = append(out, performed(slices.Insert(some(), i, some()[i])...))
		if i > 0 {
			ops := some()
			ops[i-1], ops[i] = ops[i], ops[i-1]
			out = append(out, performed(ops...))
		}
	}
	ops := some()
	slices.Reverse(ops)
	return append(out, performed(ops...))
}

// withoutMoves are trees one of whose moves is not one; for all else they tell what was done.
func withoutMoves() []api.Tree {
	var out []api.Tree
	for _, l := range goodLists() {
		for i := range l {
			for _, change := range noMoves() {
				ops := slices.Clone(l)
				ops[i] = changed(ops[i], change)
				out = append(out, performed(ops...))
			}
		}
	}
	// A stamp that is none, where it ascends all the same.
	for _, s := range noStamps() {
		o := changed(move(1, 1, 0, "a"), func(o *api.Op) { o.Stamp, o.Deps, o.Seq = s, make([]int, 16), 1 })
		if below(s, at(2, 2)) {
			out = append(out, performed(o), performed(o, move(2, 2, 0, "b")))
		} else {
			out = append(out, performed(o), performed(move(2, 2, 0, "b"), o))
		}
	}
	// An operation that is valid, but not a move: as if it did nothing.
	style := api.Op{Stamp: at(1, 0), Seq: 1, Deps: []int{0}, Kind: api.OpStyle, Node: id(1), Prop: api.PropGrow, Value: 5}
	out = append(out, api.Tree{Moves: []api.Entry{{Op: style}}}, api.Tree{Moves: []api.Entry{{Op: style, Idle: true}}})
	return append(out, with(performed(move(2, 2, 0, "b")), func(t *api.Tree) {
		t.Moves = append(t.Moves, api.Entry{Op: changed(style, func(o *api.Op) { o.Stamp.Time = 3 }), Idle: true})
	}))
}

// misdescribed are trees with one move whose entry does not tell what it did.
func misdescribed() []api.Tree {
	var out []api.Tree
	for _, l := range goodLists() {
		t := plain(l...)
		for i, was := range t.Moves {
			bad := func(change func(m *api.Entry)) {
				out = append(out, with(t, func(t *api.Tree) { change(&t.Moves[i]) }))
			}
			bad(func(m *api.Entry) { m.Was = !m.Was })
			bad(func(m *api.Entry) { m.Idle = !m.Idle })
			for _, s := range []api.Stamp{root, trash, at(0, 2), at(-1, 0), was.Op.Node, was.Op.Parent, id(1), id(2), id(99), at(math.MaxInt, math.MinInt)} {
				if s != was.Parent {
					bad(func(m *api.Entry) { m.Parent = s })
				}
			}
			for _, key := range []string{"", "a", "b", was.Op.Key, was.Key + "b", was.Key + "\x00", "\x00"} {
				if key != was.Key {
					bad(func(m *api.Entry) { m.Key = key })
				}
			}
		}
	}
	return out
}

// misnoded are trees whose nodes are not those that the moves make.
func misnoded() []api.Tree {
	var out []api.Tree
	for _, l := range goodLists() {
		t := plain(l...)
		bad := func(change func(t *api.Tree)) { out = append(out, with(t, change)) }
		for _, s := range []api.Stamp{root, trash, at(0, 2), at(1, 14), at(10, 10), at(200, 0), at(api.MaxTime, 13), at(-1, -1), at(math.MaxInt, 1)} {
			extra := api.Node{ID: s, Parent: root, Key: "a"}
			at := slices.IndexFunc(t.Nodes, func(n api.Node) bool { return below(s, n.ID) })
			if at < 0 {
				at = len(t.Nodes)
			}
			bad(func(t *api.Tree) { t.Nodes = slices.Insert(t.Nodes, at, extra) })
		}
		bad(func(t *api.Tree) { t.Nodes = append(t.Nodes, api.Node{}) })
		if len(t.Nodes) > 0 {
			bad(func(t *api.Tree) { t.Nodes = nil })
			bad(func(t *api.Tree) { t.Moves = nil })
			bad(func(t *api.Tree) { t.Nodes = append(t.Nodes, t.Nodes...) })
		}
		if len(t.Nodes) > 1 {
			bad(func(t *api.Tree) { slices.Reverse(t.Nodes) })
		}
		for i := range t.Nodes {
			n := t.Nodes[i]
			bad(func(t *api.Tree) { t.Nodes = slices.Delete(t.Nodes, i, i+1) })
			bad(func(t *api.Tree) { t.Nodes = slices.Insert(t.Nodes, i, n) })
			bad(func(t *api.Tree) { t.Nodes[i] = api.Node{} })
			if i > 0 {
				bad(func(t *api.Tree) { t.Nodes[i], t.Nodes[i-1] = t.Nodes[i-1], t.Nodes[i] })
				bad(func(t *api.Tree) { t.Nodes[i] = t.Nodes[i-1] })
			}
			for _, s := range []api.Stamp{root, trash, id(1), id(2), id(3), id(99), n.ID, at(0, 2), at(-1, 0)} {
				if s != n.Parent {
					bad(func(t *api.Tree) { t.Nodes[i].Parent = s })
				}
			}
			for _, key := range []string{"", "a", "b", n.Key + "b", n.Key + "\x00", n.Key[:len(n.Key)-1]} {
				if key != n.Key {
					bad(func(t *api.Tree) { t.Nodes[i].Key = key })
				}
			}
			bad(func(t *api.Tree) { t.Nodes[i].ID.Rep += 5 })
			bad(func(t *api.Tree) { t.Nodes[i].ID.Time++ })
		}
	}
	return out
}

// misdone are trees whose nodes and entries agree in what a move did, but not with what it does.
func misdone() []api.Tree {
	a, b, c, d := move(1, 1, 0, "a"), move(2, 2, 1, "b"), move(3, 3, 2, "c"), move(4, 1, 3, "d")
	node := func(n, parent int, key string) api.Node {
		return api.Node{ID: id(n), Parent: id(parent), Key: key}
	}
	return []api.Tree{
		// A circle of one, of two, of three nodes.
		{Nodes: []api.Node{node(1, 1, "a")}, Moves: []api.Entry{{Op: move(1, 1, 1, "a")}}},
		{Nodes: []api.Node{node(1, 2, "x"), node(2, 1, "b")}, Moves: []api.Entry{{Op: a}, {Op: b}, {Op: move(3, 1, 2, "x"), Was: true, Key: "a"}}},
		{Nodes: []api.Node{node(1, 2, "x"), node(2, 1, "b")}, Moves: []api.Entry{{Op: move(1, 1, 2, "x")}, {Op: b}}},
		{Nodes: []api.Node{node(1, 3, "d"), node(2, 1, "b"), node(3, 2, "c")}, Moves: []api.Entry{{Op: a}, {Op: b}, {Op: c}, {Op: d, Was: true, Key: "a"}}},
		// A move that was left out.
		{Moves: []api.Entry{{Op: a, Idle: true}}},
		{Nodes: []api.Node{node(1, 0, "a")}, Moves: []api.Entry{{Op: a}, {Op: b, Idle: true}}},
		{Nodes: []api.Node{node(1, 0, "a")}, Moves: []api.Entry{{Op: a}, {Op: move(2, 1, 0, "z"), Was: true, Key: "a", Idle: true}}},
		// A node that was there ahead of all moves.
		{Nodes: []api.Node{node(1, 0, "a")}, Moves: []api.Entry{{Op: a, Was: true, Key: "z"}}},
		{Nodes: []api.Node{node(1, 0, "a"), node(2, 0, "b")}, Moves: []api.Entry{{Op: a}}},
		// An idle move that would have made a node, and did.
		{Nodes: []api.Node{node(6, 6, "a")}, Moves: []api.Entry{{Op: move(1, 6, 6, "a"), Idle: true}}},
	}
}

// badTrees are not valid, for one reason each.
func badTrees() []api.Tree {
	return slices.Concat(misordered(), withoutMoves(), misdescribed(), misnoded(), misdone())
}

func wantCheck(t *testing.T, x api.Tree, e api.Errno) {
	t.Helper()
	if got := Check(x); got != e {
		t.Errorf("Check(%+v): %d, want %d", x, got, e)
	}
}

func wantApply(t *testing.T, x api.Tree, o api.Op, want api.Tree) {
	t.Helper()
	got, e := Apply(x, o)
	if e != api.OK || !sameTree(got, want) {
		t.Errorf("Apply(%+v, %+v): %+v, %d, want %+v", x, o, got, e, want)
	}
	wantCheck(t, got, api.OK)
}

func wantApplyRefused(t *testing.T, x api.Tree, o api.Op, e api.Errno) {
	t.Helper()
	if got, gotE := Apply(x, o); gotE != e || !isZero(got) {
		t.Errorf("Apply(%+v, %+v): %+v, %d, want %d alone", x, o, got, gotE, e)
	}
}

func wantUndo(t *testing.T, x, want api.Tree, last api.Op) {
	t.Helper()
	got, o, e := Undo(x)
	if e != api.OK || !sameTree(got, want) || !sameOp(o, last) {
		t.Errorf("Undo(%+v): %+v, %+v, %d, want %+v, %+v", x, got, o, e, want, last)
	}
	wantCheck(t, got, api.OK)
}

func wantUndoRefused(t *testing.T, x api.Tree, e api.Errno) {
	t.Helper()
	if got, o, gotE := Undo(x); gotE != e || !isZero(got) || !sameOp(o, api.Op{}) {
		t.Errorf("Undo(%+v): %+v, %+v, %d, want %d alone", x, got, o, gotE, e)
	}
}

func wantFind(t *testing.T, x api.Tree, s api.Stamp, want api.Node, e api.Errno) {
	t.Helper()
	if got, gotE := Find(x, s); got != want || gotE != e {
		t.Errorf("Find(%+v, %v): %+v, %d, want %+v, %d", x, s, got, gotE, want, e)
	}
}

func wantKids(t *testing.T, x api.Tree, s api.Stamp, want []api.Stamp, e api.Errno) {
	t.Helper()
	if got, gotE := Kids(x, s); !slices.Equal(got, want) || gotE != e {
		t.Errorf("Kids(%+v, %v): %v, %d, want %v, %d", x, s, got, gotE, want, e)
	}
}

func wantAbove(t *testing.T, x api.Tree, s api.Stamp, want []api.Stamp, e api.Errno) {
	t.Helper()
	if got, gotE := Above(x, s); !slices.Equal(got, want) || gotE != e {
		t.Errorf("Above(%+v, %v): %v, %d, want %v, %d", x, s, got, gotE, want, e)
	}
}

func wantLive(t *testing.T, x api.Tree, s api.Stamp, want bool, e api.Errno) {
	t.Helper()
	if got, gotE := Live(x, s); got != want || gotE != e {
		t.Errorf("Live(%+v, %v): %v, %d, want %v, %d", x, s, got, gotE, want, e)
	}
}

// applied applies moves one behind the other.
func applied(t *testing.T, ops ...api.Op) api.Tree {
	t.Helper()
	var x api.Tree
	for _, o := range ops {
		y, e := Apply(x, o)
		if e != api.OK {
			t.Fatalf("Apply(%+v, %+v): %d", x, o, e)
		}
		x = y
	}
	return x
}

// P16.1: Check.

func TestCheckOfValidTrees(t *testing.T) {
	wantCheck(t, api.Tree{}, api.OK)
	wantCheck(t, api.Tree{Nodes: []api.Node{}, Moves: []api.Entry{}}, api.OK)
	for _, l := range goodLists() {
		wantCheck(t, plain(l...), api.OK)
	}
	wantCheck(t, api.Tree{Moves: []api.Entry{{Op: move(1, 6, 6, "a"), Idle: true}}}, api.OK)
	wantCheck(t, api.Tree{
		Nodes: []api.Node{{ID: id(1), Parent: trash, Key: "c"}, {ID: id(2), Parent: id(1), Key: "b"}},
		Moves: []api.Entry{{Op: move(1, 1, 0, "a")}, {Op: move(2, 2, 1, "b")}, {Op: move(3, 1, 2, "x"), Was: true, Key: "a", Idle: true}, {Op: move(4, 1, -1, "c"), Was: true, Key: "a"}},
	}, api.OK)
}

func TestCheckOfMovesThatDoNotAscend(t *testing.T) {
	for _, x := range misordered() {
		wantCheck(t, x, api.ErrForm)
	}
}

func TestCheckOfWhatIsNoMove(t *testing.T) {
	for _, x := range withoutMoves() {
		wantCheck(t, x, api.ErrForm)
	}
}

func TestCheckOfEntriesThatDoNotTellTheEffect(t *testing.T) {
	for _, x := range misdescribed() {
		wantCheck(t, x, api.ErrForm)
	}
}

func TestCheckOfOtherNodes(t *testing.T) {
	for _, x := range misnoded() {
		wantCheck(t, x, api.ErrForm)
	}
	for _, x := range misdone() {
		wantCheck(t, x, api.ErrForm)
	}
}

// A tree without one of its moves is valid only where that one left no trace.
func TestCheckOfAMissingMove(t *testing.T) {
	for _, l := range goodLists() {
		x := plain(l...)
		for i := range x.Moves {
			e := api.ErrForm
			if sameTree(with(x, func(x *api.Tree) { x.Moves = slices.Delete(x.Moves, i, i+1) }), plain(slices.Delete(slices.Clone(l), i, i+1)...)) {
				e = api.OK
			}
			wantCheck(t, with(x, func(x *api.Tree) { x.Moves = slices.Delete(x.Moves, i, i+1) }), e)
		}
	}
	x := plain(move(1, 1, 0, "a"), move(2, 1, 1, "b"), move(3, 1, 0, "a"), move(4, 1, 0, "c"))
	for i, e := range []api.Errno{api.ErrForm, api.OK, api.OK, api.ErrForm} {
		wantCheck(t, with(x, func(x *api.Tree) { x.Moves = slices.Delete(x.Moves, i, i+1) }), e)
	}
}

// P16.1: Apply.

func TestNoFunctionTakesATreeThatIsNotValid(t *testing.T) {
	fresh, none := move(99, 1, 0, "a"), api.Op{}
	for _, x := range badTrees() {
		wantCheck(t, x, api.ErrForm)
		wantApplyRefused(t, x, fresh, api.ErrForm)
		wantApplyRefused(t, x, none, api.ErrForm)
		if len(x.Moves) > 0 {
			// One that is there already.
			wantApplyRefused(t, x, x.Moves[0].Op, api.ErrForm)
			wantApplyRefused(t, x, x.Moves[len(x.Moves)-1].Op, api.ErrForm)
		}
		wantUndoRefused(t, x, api.ErrForm)
		for _, s := range append(ids(0, -1, 1, 2, 3, 9, 99), at(math.MinInt, 7)) {
			// Whether it is there or not.
			wantFind(t, x, s, api.Node{}, api.ErrForm)
			wantKids(t, x, s, nil, api.ErrForm)
			wantAbove(t, x, s, nil, api.ErrForm)
			wantLive(t, x, s, false, api.ErrForm)
		}
	}
}

// What is no move is refused ahead of one that is there already.
func TestApplyOfWhatIsNoMove(t *testing.T) {
	for _, l := range goodLists() {
		x := plain(l...)
		for _, change := range noMoves() {
			wantApplyRefused(t, x, changed(move(99, 1, 0, "a"), change), api.ErrForm)
			for _, o := range l {
				wantApplyRefused(t, x, changed(o, change), api.ErrForm)
			}
		}
		for _, s := range noStamps() {
			wantApplyRefused(t, x, changed(move(99, 1, 0, "a"), func(o *api.Op) { o.Stamp, o.Deps, o.Seq = s, make([]int, 16), 1 }), api.ErrForm)
		}
		wantApplyRefused(t, x, api.Op{}, api.ErrForm)
	}
}

func TestApplyOfAStampThatIsThere(t *testing.T) {
	for _, l := range goodLists() {
		x := plain(l...)
		for _, o := range l {
			wantApplyRefused(t, x, o, api.ErrThere)
			// Another move with this Stamp.
			wantApplyRefused(t, x, issued(o.Stamp, id(77), root, "other"), api.ErrThere)
			wantApplyRefused(t, x, issued(o.Stamp, o.Node, o.Node, "other"), api.ErrThere)
			// The same move with a Stamp near by is none of them.
			near := issued(at(o.Stamp.Time, 11), o.Node, o.Parent, o.Key)
			wantApply(t, x, near, plain(append(slices.Clone(l), near)...))
		}
	}
}

func TestApplyMakesANode(t *testing.T) {
	for _, parent := range ids(0, -1, 2, 99) {
		o := issued(at(3, 2), id(1), parent, "k")
		wantApply(t, api.Tree{}, o, api.Tree{Nodes: []api.Node{{ID: id(1), Parent: parent, Key: "k"}}, Moves: []api.Entry{{Op: o}}})
	}
	itself := move(3, 1, 1, "k")
	wantApply(t, api.Tree{}, itself, api.Tree{Moves: []api.Entry{{Op: itself, Idle: true}}})
	// Its ID may be any stamp, whatever the move's own is; the nodes are in the order of their IDs, not of the moves.
	first, second, third := issued(at(7, 0), at(5, 1), root, "a"), issued(at(8, 0), at(5, 0), root, "b"), issued(at(9, 0), at(4, 15), at(5, 1), "c")
	x := applied(t, first, second)
	wantApply(t, x, third, api.Tree{
		Nodes: []api.Node{{ID: at(4, 15), Parent: at(5, 1), Key: "c"}, {ID: at(5, 0), Key: "b"}, {ID: at(5, 1), Key: "a"}},
		Moves: []api.Entry{{Op: first}, {Op: second}, {Op: third}},
	})
}

func TestApplyMovesANode(t *testing.T) {
	first, second := move(1, 1, 0, "a"), move(2, 2, 1, "b")
	x := applied(t, first, second)
	for _, parent := range ids(0, -1, 3, 99) {
		for node, want := range map[api.Stamp]api.Tree{
			id(1): {Nodes: []api.Node{{ID: id(1), Parent: parent, Key: "k"}, {ID: id(2), Parent: id(1), Key: "b"}}, Moves: []api.Entry{{Op: first}, {Op: second}, {Was: true, Parent: root, Key: "a"}}},
			id(2): {Nodes: []api.Node{{ID: id(1), Parent: root, Key: "a"}, {ID: id(2), Parent: parent, Key: "k"}}, Moves: []api.Entry{{Op: first}, {Op: second}, {Was: true, Parent: id(1), Key: "b"}}},
		} {
			o := issued(at(3, 0), node, parent, "k")
			want.Moves[2].Op = o
			wantApply(t, x, o, want)
		}
	}
	// To where it is already, with another Key, with the same.
	for _, key := range []string{"k", "b"} {
		o := move(3, 2, 1, key)
		wantApply(t, x, o, api.Tree{
			Nodes: []api.Node{{ID: id(1), Key: "a"}, {ID: id(2), Parent: id(1), Key: key}},
			Moves: []api.Entry{{Op: first}, {Op: second}, {Op: o, Was: true, Parent: id(1), Key: "b"}},
		})
	}
	itself := move(3, 2, 2, "k")
	wantApply(t, x, itself, api.Tree{Nodes: x.Nodes, Moves: []api.Entry{{Op: first}, {Op: second}, {Op: itself, Was: true, Parent: id(1), Key: "b", Idle: true}}})
}

func TestApplyBehindBetweenAndAheadOfOthers(t *testing.T) {
	first, second, third := issued(at(10, 4), id(1), root, "a"), issued(at(20, 4), id(1), id(2), "b"), issued(at(30, 4), id(1), trash, "c")
	x := applied(t, first, second, third)
	for _, c := range []struct {
		s     api.Stamp
		place int
	}{
		{at(1, 0), 0}, {at(9, 15), 0}, {at(10, 3), 0},
		{at(10, 5), 1}, {at(15, 0), 1}, {at(20, 3), 1},
		{at(20, 5), 2}, {at(29, 15), 2}, {at(30, 0), 2}, {at(30, 3), 2},
		{at(30, 5), 3}, {at(31, 0), 3}, {at(api.MaxTime, 15), 3},
	} {
		// A move of another node goes there, and all else stays.
		o := issued(c.s, id(5), id(1), "k")
		want := with(x, func(x *api.Tree) {
			x.Nodes = append(x.Nodes, api.Node{ID: id(5), Parent: id(1), Key: "k"})
			x.Moves = slices.Insert(x.Moves, c.place, api.Entry{Op: o})
		})
		wantApply(t, x, o, want)
		// A move of the same node changes what those behind it undo, and the node only if there are none.
		o = issued(c.s, id(1), id(7), "k")
		entry := api.Entry{Op: o}
		if c.place > 0 {
			old := x.Moves[c.place-1].Op
			entry.Was, entry.Parent, entry.Key = true, old.Parent, old.Key
		}
		want = with(x, func(x *api.Tree) {
			if c.place < 3 {
				behind := &x.Moves[c.place]
				behind.Was, behind.Parent, behind.Key = true, id(7), "k"
			} else {
				x.Nodes[0].Parent, x.Nodes[0].Key = id(7), "k"
			}
			x.Moves = slices.Insert(x.Moves, c.place, entry)
		})
		wantApply(t, x, o, want)
	}
}

// row is moves that put 1 beneath the root, 2 beneath 1, and so on up to n.
func row(n int) []api.Op {
	var out []api.Op
	for i := 1; i <= n; i++ {
		out = append(out, move(i, i, i-1, "k"))
	}
	return out
}

func TestApplyMakesNoCircle(t *testing.T) {
	for n := 1; n <= 20; n++ {
		l := row(n)
		x := applied(t, l...)
		for node := 1; node <= n; node++ {
			for parent := -1; parent <= n+1; parent++ {
				o := move(100, node, parent, "z")
				// Beneath itself, and all that is beneath it: a circle of one, two, three, ...
				want := with(x, func(x *api.Tree) {
					idle := parent >= node && parent <= n
					x.Moves = append(x.Moves, api.Entry{Op: o, Was: true, Parent: id(node - 1), Key: "k", Idle: idle})
					if !idle {
						x.Nodes[node-1].Parent, x.Nodes[node-1].Key = id(parent), "z"
					}
				})
				wantApply(t, x, o, want)
			}
		}
	}
}

// A place without a node is above what is beneath it, too.
func TestApplyMakesNoCircleOfAPlaceWithoutANode(t *testing.T) {
	for n := 1; n <= 8; n++ {
		var l []api.Op
		for i := 1; i <= n; i++ {
			parent := i - 1
			if parent == 0 {
				parent = 50
			}
			l = append(l, move(i, i, parent, "k"))
		}
		x := applied(t, l...)
		for parent := 1; parent <= n; parent++ {
			o := move(100, 50, parent, "z")
			wantApply(t, x, o, with(x, func(x *api.Tree) { x.Moves = append(x.Moves, api.Entry{Op: o, Idle: true}) }))
		}
		for _, parent := range []int{0, -1, 51} {
			o := move(100, 50, parent, "z")
			wantApply(t, x, o, with(x, func(x *api.Tree) {
				x.Moves = append(x.Moves, api.Entry{Op: o})
				x.Nodes = append(x.Nodes, api.Node{ID: id(50), Parent: id(parent), Key: "z"})
			}))
		}
	}
}

func TestTheDocumentsExample(t *testing.T) {
	first, second := move(3, 1, 2, "c"), move(4, 2, 1, "d")
	x := applied(t, move(1, 1, 0, "a"), move(2, 2, 0, "b"), first, second)
	want := api.Tree{
		Nodes: []api.Node{{ID: id(1), Parent: id(2), Key: "c"}, {ID: id(2), Parent: root, Key: "b"}},
		Moves: []api.Entry{{Op: move(1, 1, 0, "a")}, {Op: move(2, 2, 0, "b")}, {Op: first, Was: true, Key: "a"}, {Op: second, Was: true, Key: "b", Idle: true}},
	}
	if !sameTree(x, want) {
		t.Errorf("%+v, want %+v", x, want)
	}
}

func TestALateMoveMakesALaterOneIdle(t *testing.T) {
	a, b, second, late := move(1, 1, 0, "a"), move(2, 2, 0, "b"), move(4, 2, 1, "d"), move(3, 1, 2, "c")
	x := applied(t, a, b, second)
	if x.Moves[2].Idle || x.Nodes[1].Parent != id(1) {
		t.Fatalf("%+v", x)
	}
	wantApply(t, x, late, api.Tree{
		Nodes: []api.Node{{ID: id(1), Parent: id(2), Key: "c"}, {ID: id(2), Parent: root, Key: "b"}},
		Moves: []api.Entry{{Op: a}, {Op: b}, {Op: late, Was: true, Key: "a"}, {Op: second, Was: true, Key: "b", Idle: true}},
	})
	// Also one that made its node: then there is none.
	x = applied(t, move(5, 1, 2, "a"))
	wantApply(t, x, move(4, 2, 1, "b"), api.Tree{
		Nodes: []api.Node{{ID: id(2), Parent: id(1), Key: "b"}},
		Moves: []api.Entry{{Op: move(4, 2, 1, "b")}, {Op: move(5, 1, 2, "a"), Idle: true}},
	})
}

func TestALateMoveLetsALaterOneBe(t *testing.T) {
	a, b, first, second, late := move(1, 1, 0, "a"), move(2, 2, 0, "b"), move(5, 1, 2, "c"), move(7, 2, 1, "d"), move(6, 1, 0, "e")
	x := applied(t, a, b, first, second)
	if !x.Moves[3].Idle {
		t.Fatalf("%+v", x)
	}
	wantApply(t, x, late, api.Tree{
		Nodes: []api.Node{{ID: id(1), Parent: root, Key: "e"}, {ID: id(2), Parent: id(1), Key: "d"}},
		Moves: []api.Entry{{Op: a}, {Op: b}, {Op: first, Was: true, Key: "a"}, {Op: late, Was: true, Parent: id(2), Key: "c"}, {Op: second, Was: true, Key: "b"}},
	})
	// One that is idle because an earlier one was not; a late one makes that idle.
	early := move(3, 2, 1, "x")
	wantApply(t, x, early, api.Tree{
		Nodes: []api.Node{{ID: id(1), Parent: root, Key: "a"}, {ID: id(2), Parent: id(1), Key: "d"}},
		Moves: []api.Entry{{Op: a}, {Op: b}, {Op: early, Was: true, Key: "b"}, {Op: first, Was: true, Key: "a", Idle: true}, {Op: second, Was: true, Parent: id(1), Key: "x"}},
	})
	// One that made no node makes it.
	x = applied(t, move(4, 2, 1, "b"), move(6, 1, 2, "a"))
	wantApply(t, x, move(5, 2, -1, "c"), api.Tree{
		Nodes: []api.Node{{ID: id(1), Parent: id(2), Key: "a"}, {ID: id(2), Parent: trash, Key: "c"}},
		Moves: []api.Entry{{Op: move(4, 2, 1, "b")}, {Op: move(5, 2, -1, "c"), Was: true, Parent: id(1), Key: "b"}, {Op: move(6, 1, 2, "a")}},
	})
}

func TestApplyIsWhatTheDocumentSays(t *testing.T) {
	for _, l := range goodLists() {
		for i, o := range l {
			rest := slices.Delete(slices.Clone(l), i, i+1)
			wantApply(t, plain(rest...), o, plain(l...))
		}
	}
}

// P16.2

func TestUndoOfATreeWithoutMoves(t *testing.T) {
	wantUndoRefused(t, api.Tree{}, api.ErrNone)
	wantUndoRefused(t, api.Tree{Nodes: []api.Node{}, Moves: []api.Entry{}}, api.ErrNone)
	wantUndoRefused(t, api.Tree{Nodes: []api.Node{{ID: id(1), Key: "a"}}}, api.ErrForm)
}

func TestUndoOfTheOnlyMove(t *testing.T) {
	for _, o := range []api.Op{move(1, 1, 0, "a"), move(1, 1, -1, "a"), move(1, 1, 2, "a"), move(1, 1, 1, "a")} {
		wantUndo(t, plain(o), api.Tree{}, o)
	}
}

func TestUndoOfEachKindOfMove(t *testing.T) {
	first, second := move(1, 1, 0, "a"), move(2, 2, 1, "b")
	x := api.Tree{Nodes: []api.Node{{ID: id(1), Key: "a"}, {ID: id(2), Parent: id(1), Key: "b"}}, Moves: []api.Entry{{Op: first}, {Op: second}}}
	// One that made its node.
	made := move(3, 3, 2, "c")
	wantUndo(t, api.Tree{Nodes: append(slices.Clone(x.Nodes), api.Node{ID: id(3), Parent: id(2), Key: "c"}), Moves: []api.Entry{{Op: first}, {Op: second}, {Op: made}}}, x, made)
	ahead := issued(at(3, 0), at(1, 0), root, "c")
	wantUndo(t, api.Tree{Nodes: append([]api.Node{{ID: at(1, 0), Key: "c"}}, x.Nodes...), Moves: []api.Entry{{Op: first}, {Op: second}, {Op: ahead}}}, x, ahead)
	// One that moved it.
	moved := move(3, 2, -1, "c")
	wantUndo(t, api.Tree{Nodes: []api.Node{{ID: id(1), Key: "a"}, {ID: id(2), Parent: trash, Key: "c"}}, Moves: []api.Entry{{Op: first}, {Op: second}, {Op: moved, Was: true, Parent: id(1), Key: "b"}}}, x, moved)
	// One that was idle, of a node that was there and of one that was not.
	idle := move(3, 1, 2, "c")
	wantUndo(t, api.Tree{Nodes: x.Nodes, Moves: []api.Entry{{Op: first}, {Op: second}, {Op: idle, Was: true, Key: "a", Idle: true}}}, x, idle)
	idle = move(3, 4, 4, "c")
	wantUndo(t, api.Tree{Nodes: x.Nodes, Moves: []api.Entry{{Op: first}, {Op: second}, {Op: idle, Idle: true}}}, x, idle)
}

func TestUndoUndoesApply(t *testing.T) {
	for _, l := range goodLists() {
		for n := len(l); n > 0; n-- {
			wantUndo(t, plain(l[:n]...), plain(l[:n-1]...), l[n-1])
		}
	}
}

// P16.3

// garden has nodes at several depths beneath the root, the trash, and the places 80 and 90, which are no nodes.
func garden(t *testing.T) api.Tree {
	return applied(t,
		move(11, 1, 0, "m"), move(12, 2, 1, "b"), move(13, 3, 2, "b"), move(14, 4, 3, "b"), move(15, 5, 1, "a"),
		move(16, 6, -1, "b"), move(17, 7, 6, "b"), move(18, 8, 7, "b"),
		move(19, 9, 80, "b"), move(20, 10, 9, "b"),
		move(21, 11, 0, "a"), move(22, 12, 0, "z"), move(23, 13, 0, "m"), move(24, 14, 1, "ab"), move(25, 15, 0, "ma"),
		move(26, 16, 90, "x"), move(27, 17, 16, "b"), move(28, 17, 4, "c"), move(29, 70, 70, "k"),
	)
}

func TestFindOfNodes(t *testing.T) {
	x := garden(t)
	for _, n := range x.Nodes {
		wantFind(t, x, n.ID, n, api.OK)
	}
	wantFind(t, x, id(1), api.Node{ID: id(1), Parent: root, Key: "m"}, api.OK)
	wantFind(t, x, id(4), api.Node{ID: id(4), Parent: id(3), Key: "b"}, api.OK)
	wantFind(t, x, id(6), api.Node{ID: id(6), Parent: trash, Key: "b"}, api.OK)
	wantFind(t, x, id(9), api.Node{ID: id(9), Parent: id(80), Key: "b"}, api.OK)
	wantFind(t, x, id(17), api.Node{ID: id(17), Parent: id(4), Key: "c"}, api.OK)
}

// strangers are no nodes of the garden.
func strangers() []api.Stamp {
	return append(ids(0, -1, 80, 90, 70, 18, 99), at(0, 2), at(-1, 0), at(1, 0), at(1, 2), at(2, 0), at(3, 1), at(17, 3), at(1, 17), at(api.MaxTime, 15), at(api.MaxTime+1, 0), at(math.MinInt, 1), at(math.MaxInt, math.MaxInt), at(1, math.MinInt))
}

func TestFindOfWhatIsNotThere(t *testing.T) {
	x := garden(t)
	for _, s := range strangers() {
		wantFind(t, x, s, api.Node{}, api.ErrNone)
		wantFind(t, api.Tree{}, s, api.Node{}, api.ErrNone)
	}
	wantFind(t, plain(move(1, 1, 1, "a")), id(1), api.Node{}, api.ErrNone)
}

func TestKidsByTheirKeys(t *testing.T) {
	x := garden(t)
	for n, want := range map[int][]int{
		0: {11, 1, 13, 15, 12}, -1: {6}, 1: {5, 14, 2}, 2: {3}, 3: {4}, 4: {17}, 6: {7}, 7: {8}, 9: {10}, 80: {9}, 90: {16},
		// None.
		5: nil, 8: nil, 16: nil, 17: nil, 70: nil, 99: nil,
	} {
		wantKids(t, x, id(n), ids(want...), api.OK)
	}
	for _, s := range []api.Stamp{at(0, 2), at(-1, 0), at(1, 0), at(1, 17), at(math.MinInt, math.MaxInt)} {
		wantKids(t, x, s, nil, api.OK)
		wantKids(t, api.Tree{}, s, nil, api.OK)
	}
	for _, s := range ids(0, -1, 1) {
		wantKids(t, api.Tree{}, s, nil, api.OK)
	}
}

func TestKidsOfEqualKeysByTheirIDs(t *testing.T) {
	// By Time, then by Rep; a Key that begins another one goes ahead of it, and its bytes count from 0 to 255.
	keys := []string{"\x00\x01", "a", "a", "a", "a", "a\x00b", "a\x00b", "aa", "b", "b", "\xff"}
	want := []api.Stamp{at(9, 9), at(3, 1), at(3, 2), at(4, 0), at(20, 0), at(1, 0), at(2, 15), at(5, 5), at(1, 1), at(6, 6), at(1, 5)}
	for _, parent := range ids(0, -1, 50, 60) {
		// The one parent is a node, the other one is not; and there is a node elsewhere.
		l := []api.Op{issued(at(1, 1), id(50), id(61), "x"), issued(at(2, 1), id(51), id(62), "a")}
		for i, key := range keys {
			l = append(l, issued(at(10+i*7%len(keys), 3), want[i], parent, key))
		}
		wantKids(t, applied(t, l...), parent, want, api.OK)
	}
}

func TestKidsOfManyMoves(t *testing.T) {
	for _, l := range goodLists() {
		x := plain(l...)
		for n := -1; n < 12; n++ {
			var kids []api.Node
			for _, node := range x.Nodes {
				if node.Parent == id(n) {
					kids = append(kids, node)
				}
			}
			slices.SortFunc(kids, func(a, b api.Node) int {
				if a.Key != b.Key {
					return strings.Compare(a.Key, b.Key)
				}
				return order(a.ID, b.ID)
			})
			var want []api.Stamp
			for _, node := range kids {
				want = append(want, node.ID)
			}
			wantKids(t, x, id(n), want, api.OK)
		}
	}
}

func TestAboveAndLiveAtAllDepths(t *testing.T) {
	x := garden(t)
	for n, want := range map[int][]int{
		1: {0}, 11: {0}, 2: {1, 0}, 5: {1, 0}, 3: {2, 1, 0}, 4: {3, 2, 1, 0}, 17: {4, 3, 2, 1, 0},
		6: {-1}, 7: {6, -1}, 8: {7, 6, -1},
		9: {80}, 10: {9, 80}, 16: {90},
	} {
		wantAbove(t, x, id(n), ids(want...), api.OK)
		wantLive(t, x, id(n), want[len(want)-1] == 0, api.OK)
	}
	x = applied(t, row(100)...)
	var want []api.Stamp
	for n := 1; n <= 100; n++ {
		want = slices.Insert(want, 0, id(n-1))
		wantAbove(t, x, id(n), want, api.OK)
		wantLive(t, x, id(n), true, api.OK)
	}
	o := move(200, 40, -1, "k")
	x = applied(t, append(row(100), o)...)
	for n := 1; n <= 100; n++ {
		wantLive(t, x, id(n), n < 40, api.OK)
	}
}

func TestAboveAndLiveOfWhatIsNotThere(t *testing.T) {
	for _, x := range []api.Tree{garden(t), {}} {
		for _, s := range strangers() {
			wantAbove(t, x, s, nil, api.ErrNone)
			wantLive(t, x, s, s == root, api.OK)
		}
		for _, s := range ids(0, -1, 80, 90) {
			wantAbove(t, x, s, nil, api.ErrNone)
		}
		wantLive(t, x, root, true, api.OK)
		wantLive(t, x, trash, false, api.OK)
		// A place without a node, with nodes beneath it and without.
		wantLive(t, x, id(80), false, api.OK)
		wantLive(t, x, id(99), false, api.OK)
	}
}

// A place above that becomes a node makes what is beneath it live.
func TestLiveAsTheTreeGrows(t *testing.T) {
	x := applied(t, move(1, 1, 2, "a"), move(2, 3, 1, "a"))
	wantLive(t, x, id(3), false, api.OK)
	x = applied(t, move(1, 1, 2, "a"), move(2, 3, 1, "a"), move(3, 2, 0, "a"))
	wantAbove(t, x, id(3), ids(1, 2, 0), api.OK)
	wantLive(t, x, id(3), true, api.OK)
	wantLive(t, x, id(2), true, api.OK)
}

// P16.4

// wantNoCircle wants that no node is above itself, and that what is asked for is what the document says of these nodes.
func wantNoCircle(t *testing.T, x api.Tree) {
	t.Helper()
	nodes := map[api.Stamp]api.Node{}
	for _, n := range x.Nodes {
		nodes[n.ID] = n
	}
	for _, n := range x.Nodes {
		want := plainAbove(nodes, n.Parent)
		if slices.Contains(want, n.ID) || len(want) > len(x.Nodes) {
			t.Fatalf("%v is above itself: %+v", n, x)
		}
		wantAbove(t, x, n.ID, want, api.OK)
		wantLive(t, x, n.ID, want[len(want)-1] == root, api.OK)
		wantFind(t, x, n.ID, n, api.OK)
	}
}

// eachOrder calls visit with all orders of ops.
func eachOrder(ops []api.Op, visit func([]api.Op)) {
	var from func(done int)
	from = func(done int) {
		if done == len(ops) {
			visit(ops)
		}
		for i := done; i < len(ops); i++ {
			ops[done], ops[i] = ops[i], ops[done]
			from(done + 1)
			ops[done], ops[i] = ops[i], ops[done]
		}
	}
	from(0)
}

func wantSameInOrder(t *testing.T, ops []api.Op, want api.Tree) {
	t.Helper()
	if got := applied(t, ops...); !sameTree(got, want) {
		t.Fatalf("%+v: %+v, want %+v", ops, got, want)
	}
}

func TestAllOrdersOfAFewMoves(t *testing.T) {
	for _, l := range [][]api.Op{
		{move(1, 1, 0, "a"), move(2, 2, 0, "b"), move(3, 1, 2, "c"), move(4, 2, 1, "d"), move(5, 1, -1, "e")},
		{move(1, 1, 2, "a"), move(2, 2, 3, "b"), move(3, 3, 1, "c"), move(4, 2, 0, "d"), move(5, 3, 1, "e"), move(6, 1, 3, "f")},
		{issued(at(1, 0), id(1), root, "a"), issued(at(1, 1), id(1), id(2), "b"), issued(at(1, 2), id(2), id(1), "c"), issued(at(2, 0), id(1), trash, "d"), issued(at(2, 1), id(2), id(1), "e")},
		some()[2:8],
	} {
		want := plain(l...)
		wantNoCircle(t, want)
		eachOrder(slices.Clone(l), func(ops []api.Op) { wantSameInOrder(t, ops, want) })
	}
}

// eachList calls visit with all lists of n moves of the nodes 1 to nodes, beneath the places up to parents, at the times 1 to n.
func eachList(n, nodes, parents int, visit func([]api.Op)) {
	var l []api.Op
	var from func(time int)
	from = func(time int) {
		if time > n {
			visit(l)
			return
		}
		for node := 1; node <= nodes; node++ {
			for parent := -1; parent <= parents; parent++ {
				l = append(l, move(time, node, parent, string(rune('a'+time))))
				from(time + 1)
				l = l[:len(l)-1]
			}
		}
	}
	from(1)
}

func TestAllSmallTrees(t *testing.T) {
	idle := 0
	eachList(3, 3, 4, func(l []api.Op) {
		want := plain(l...)
		wantCheck(t, want, api.OK)
		for _, m := range want.Moves {
			if m.Idle {
				idle++
			}
		}
		eachOrder(slices.Clone(l), func(ops []api.Op) { wantSameInOrder(t, ops, want) })
		wantUndo(t, want, plain(l[:2]...), l[2])
	})
	eachList(4, 2, 2, func(l []api.Op) {
		want := plain(l...)
		wantNoCircle(t, want)
		for late := range l {
			wantApply(t, plain(slices.Delete(slices.Clone(l), late, late+1)...), l[late], want)
		}
		wantUndo(t, want, plain(l[:3]...), l[3])
	})
	if idle < 3000 {
		t.Errorf("only %d moves were idle", idle)
	}
}

// many returns n moves of few nodes, no two with the same stamp.
func many(seed uint64, n, nodes int) []api.Op {
	var out []api.Op
	for i, word := range spread(seed, n) {
		node, parent := 1+int(word%uint64(nodes)), int(word>>16%uint64(nodes+3))-1
		out = append(out, issued(at(1+i/5, i%5), id(node), id(parent), string(rune('a'+word>>40%4))))
	}
	return out
}

func shuffled(seed uint64, ops []api.Op) []api.Op {
	out := slices.Clone(ops)
	for i, word := range spread(seed, len(out)) {
		j := int(word % uint64(i+1))
		out[i], out[j] = out[j], out[i]
	}
	return out
}

func TestManyOrdersOfManyMoves(t *testing.T) {
	idle, deep := 0, 0
	for seed := range uint64(24) {
		l := many(seed, 60, 2+int(seed))
		want := plain(l...)
		wantNoCircle(t, want)
		for _, m := range want.Moves {
			if m.Idle {
				idle++
			}
		}
		for _, n := range want.Nodes {
			above, _ := Above(want, n.ID)
			deep = max(deep, len(above))
		}
		for run := range uint64(6) {
			wantSameInOrder(t, shuffled(100*seed+run, l), want)
		}
	}
	if idle < 200 || deep < 6 {
		t.Errorf("%d moves were idle, the deepest node is at %d", idle, deep)
	}
}

// At each step the tree is that of the moves that are there by then, without a circle.
func TestEachStepOfManyMoves(t *testing.T) {
	for seed := range uint64(8) {
		l := shuffled(seed, many(seed+50, 40, 6))
		var x api.Tree
		for i, o := range l {
			want := plain(l[:i+1]...)
			wantApply(t, x, o, want)
			wantNoCircle(t, want)
			wantApplyRefused(t, want, l[i/2], api.ErrThere)
			x = want
		}
		for len(x.Moves) > 0 {
			ops := opsOf(x)
			last := len(ops) - 1
			wantUndo(t, x, plain(ops[:last]...), ops[last])
			x, _, _ = Undo(x)
		}
		wantUndoRefused(t, x, api.ErrNone)
	}
}

// A tree of which anything is another one is valid only if it is that of its moves all the same.
func TestCheckOfManyChangedTrees(t *testing.T) {
	good, bad := 0, 0
	for seed := range uint64(4) {
		was := plain(many(seed+90, 12, 4)...)
		for _, word := range spread(seed, 3000) {
			x := apartTree(was)
			stir(&x, word)
			e := api.ErrForm
			if isPlain(x) {
				e = api.OK
				good++
			} else {
				bad++
			}
			wantCheck(t, x, e)
		}
	}
	if good < 50 || bad < 5000 {
		t.Errorf("%d valid, %d not", good, bad)
	}
}

// stir changes one thing, or two.
func stir(x *api.Tree, word uint64) {
	m, n := &x.Moves[word%uint64(len(x.Moves))], &x.Nodes[word>>8%uint64(len(x.Nodes))]
	s := id(int(word>>16%7) - 1)
	key := string(rune('a' + word>>20%4))
	switch word >> 24 % 10 {
	case 0:
		m.Was = !m.Was
	case 1:
		m.Idle = !m.Idle
	case 2:
		m.Parent = s
	case 3:
		m.Key = key
	case 4:
		n.Parent = s
	case 5:
		n.Key = key
	case 6:
		m.Op.Parent = s
	case 7:
		m.Op.Key = key
	case 8:
		m.Op.Node = s
	case 9:
		m.Op.Parent, n.Parent = s, s
	}
}

// isPlain tells whether x is a tree of moves by their stamps, each of which has a node.
func isPlain(x api.Tree) bool {
	for _, o := range opsOf(x) {
		if o.Node == root || o.Node == trash {
			return false
		}
	}
	return sameTree(x, plain(opsOf(x)...))
}

// R1 and R2

// spacious returns t in memory of its own, with others in the spare capacity of each list.
func spacious(t api.Tree) api.Tree {
	out := apartTree(t)
	out.Nodes = append(out.Nodes, api.Node{ID: id(7)}, api.Node{ID: id(8)})[:len(t.Nodes)]
	out.Moves = append(out.Moves, api.Entry{Key: "7"}, api.Entry{Key: "8"})[:len(t.Moves)]
	for i := range out.Moves {
		out.Moves[i].Op = spaciousOp(out.Moves[i].Op)
	}
	return out
}

func spaciousOp(o api.Op) api.Op {
	return changed(o, func(o *api.Op) { o.Deps = append(o.Deps, 77, 78)[:len(o.Deps)] })
}

func wantUntouchedOp(t *testing.T, o, got api.Op) {
	t.Helper()
	if !sameOp(o, got) || !slices.Equal(got.Deps[len(got.Deps):len(got.Deps)+2], []int{77, 78}) {
		t.Errorf("%+v is now %+v", o, got)
	}
}

// wantUntouched wants that got, made from x by spacious, is as it was made.
func wantUntouched(t *testing.T, x, got api.Tree) {
	t.Helper()
	if !sameTree(x, got) {
		t.Errorf("%+v is now %+v", x, got)
	}
	nodes, moves := got.Nodes[len(got.Nodes):len(got.Nodes)+2], got.Moves[len(got.Moves):len(got.Moves)+2]
	if nodes[0].ID != id(7) || nodes[1].ID != id(8) || moves[0].Key != "7" || moves[1].Key != "8" {
		t.Errorf("behind %+v: %+v, %+v", x, nodes, moves)
	}
	for i, o := range opsOf(got) {
		wantUntouchedOp(t, x.Moves[i].Op, o)
	}
}

// someTrees are valid ones and such as are not.
func someTrees() []api.Tree {
	var out []api.Tree
	for _, l := range goodLists() {
		out = append(out, plain(l...))
	}
	for seed := range uint64(5) {
		out = append(out, plain(many(seed+20, 15, 5)...))
	}
	for i, x := range badTrees() {
		if i%17 == 0 {
			out = append(out, x)
		}
	}
	return out
}

// newcomers are moves for any of the trees: ahead of all, between two, behind all, there already; and one that is none.
func newcomers() []api.Op {
	return []api.Op{issued(at(1, 9), id(1), id(3), "n"), issued(at(2, 9), id(2), root, "n"), issued(at(17, 9), id(40), id(2), "n"), issued(at(api.MaxTime, 15), id(1), id(40), "n"), move(11, 1, 0, "b"), changed(move(3, 1, 0, "b"), func(o *api.Op) { o.Seq++ })}
}

func TestArgumentsAreNotChanged(t *testing.T) {
	for _, x := range someTrees() {
		for _, o := range newcomers() {
			given, o2 := spacious(x), spaciousOp(o)
			Check(given)
			Apply(given, o2)
			Undo(given)
			for n := -1; n < 10; n++ {
				Find(given, id(n))
				Kids(given, id(n))
				Above(given, id(n))
				Live(given, id(n))
			}
			wantUntouched(t, x, given)
			wantUntouchedOp(t, o, o2)
		}
	}
}

func overwrite(l []int) {
	l = l[:cap(l)]
	for i := range l {
		l[i] = -9
	}
}

// writes are ways to write into a tree's lists, their spare capacity among them: one list each.
func writes(x api.Tree) []func() {
	out := []func(){
		func() { clear(x.Nodes[:cap(x.Nodes)]) },
		func() { clear(x.Moves[:cap(x.Moves)]) },
	}
	for _, o := range opsOf(x) {
		out = append(out, func() { overwrite(o.Deps) })
	}
	return out
}

// wantOthers wants that got is want but for the list that was written into, that of number at.
func wantOthers(t *testing.T, got, want api.Tree, at int) {
	t.Helper()
	if at != 0 && !slices.Equal(got.Nodes, want.Nodes) {
		t.Errorf("list %d shares memory with the nodes of %+v", at, want)
	}
	if at == 1 {
		return
	}
	for i, m := range got.Moves {
		was := want.Moves[i]
		if i+2 != at && !sameOp(m.Op, was.Op) || m.Was != was.Was || m.Parent != was.Parent || m.Key != was.Key {
			t.Errorf("list %d shares memory with a move of %+v", at, want)
		}
	}
}

func TestAnswersOfApplyAreNewMemory(t *testing.T) {
	for _, x := range someTrees() {
		for _, o := range newcomers() {
			want, e := Apply(x, o)
			if e != api.OK {
				continue
			}
			for at := range writes(want) {
				given, o2 := spacious(x), spaciousOp(o)
				got, _ := Apply(given, o2)
				again, _ := Apply(given, o2)
				writes(got)[at]()
				wantUntouched(t, x, given)
				wantUntouchedOp(t, o, o2)
				wantOthers(t, got, want, at)
				if !sameTree(again, want) {
					t.Errorf("two answers share memory: %+v", want)
				}
				// Nor is what is handed in kept.
				for _, write := range append(writes(given), func() { overwrite(o2.Deps) }) {
					write()
				}
				if !sameTree(again, want) {
					t.Errorf("an answer shares memory with what was handed in: %+v", want)
				}
			}
		}
	}
}

func TestAnswersOfUndoAreNewMemory(t *testing.T) {
	for _, x := range someTrees() {
		want, last, e := Undo(x)
		if e != api.OK {
			continue
		}
		for at := range writes(want) {
			given := spacious(x)
			got, o, _ := Undo(given)
			writes(got)[at]()
			wantUntouched(t, x, given)
			wantOthers(t, got, want, at)
			if !sameOp(o, last) {
				t.Errorf("the move shares memory with the tree: %+v", o)
			}
		}
		given := spacious(x)
		got, o, _ := Undo(given)
		overwrite(o.Deps)
		wantUntouched(t, x, given)
		wantOthers(t, got, want, -1)
	}
}

func TestAnswersOfWhatIsAskedAreNewMemory(t *testing.T) {
	for _, x := range someTrees() {
		for n := -1; n < 10; n++ {
			given := spacious(x)
			kids, _ := Kids(given, id(n))
			above, _ := Above(given, id(n))
			wantK, wantA := slices.Clone(kids), slices.Clone(above)
			again, _ := Kids(given, id(n))
			clear(again[:cap(again)])
			again, _ = Above(given, id(n))
			clear(again[:cap(again)])
			wantUntouched(t, x, given)
			if !slices.Equal(kids, wantK) || !slices.Equal(above, wantA) {
				t.Errorf("two answers share memory: %v, %v", wantK, wantA)
			}
			clear(given.Nodes)
			clear(given.Moves)
			if !slices.Equal(kids, wantK) || !slices.Equal(above, wantA) {
				t.Errorf("an answer shares memory with what was handed in: %v, %v", wantK, wantA)
			}
		}
	}
}

func TestEqualCallsGiveEqualResults(t *testing.T) {
	for _, x := range someTrees() {
		for _, o := range newcomers() {
			first, e := Apply(x, o)
			for range 5 {
				if again, f := Apply(apartTree(x), changed(o, func(*api.Op) {})); !sameTree(first, again) || e != f {
					t.Errorf("Apply(%+v, %+v): %+v, %d, then %+v, %d", x, o, first, e, again, f)
				}
			}
		}
		first, last, e := Undo(x)
		if again, lastAgain, f := Undo(apartTree(x)); !sameTree(first, again) || !sameOp(last, lastAgain) || e != f {
			t.Errorf("Undo(%+v): %+v, %d, then %+v, %d", x, first, e, again, f)
		}
	}
}

func TestLargeInputs(t *testing.T) {
	const n = 1 << 12
	// One node beneath the other, then the first one beneath the last.
	l := row(n)
	x := performed(l...)
	wantCheck(t, x, api.OK)
	circle, e := Apply(x, move(n+1, 1, n, "z"))
	if e != api.OK || !circle.Moves[n].Idle || !slices.Equal(circle.Nodes, x.Nodes) {
		t.Errorf("a circle of %d: %d", n, e)
	}
	if above, e := Above(x, id(n)); e != api.OK || len(above) != n || above[n-1] != root {
		t.Errorf("%d are above the last: %d", len(above), e)
	}
	if _, e := Apply(x, move(n/2, 5, 6, "z")); e != api.ErrThere {
		t.Errorf("one that is there: %d", e)
	}
	// Many beneath one place, with few keys.
	var flat []api.Op
	for i := 1; i <= n; i++ {
		flat = append(flat, move(i, 1+i*5%n, -1, string(rune('a'+i%3))))
	}
	kids, e := Kids(performed(flat...), trash)
	if e != api.OK || len(kids) != n {
		t.Errorf("%d kids of %d: %d", len(kids), n, e)
	}
	// What is wrong at the end of much.
	x.Nodes[n-1].Key = "z"
	if e := Check(x); e != api.ErrForm {
		t.Errorf("a wrong node: %d", e)
	}
	if e := Check(api.Tree{Nodes: make([]api.Node, 1<<20)}); e != api.ErrForm {
		t.Errorf("nodes alone: %d", e)
	}
	long := changed(move(1, 1, 0, "a"), func(o *api.Op) { o.Key = strings.Repeat("k", 1<<24) })
	if got, e := Apply(api.Tree{}, long); e != api.ErrForm || !isZero(got) {
		t.Errorf("a long key: %d", e)
	}
}
