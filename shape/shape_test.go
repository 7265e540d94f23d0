package shape

import (
	"cmp"
	"math"
	"slices"
	"strings"
	"testing"

	"arras/api"
	"arras/key"
	"arras/tree"
)

// spread returns n words, the same in every run.
func spread(seed uint64, n int) []uint64 {
	out := make([]uint64, n)
	for i := range out {
		seed = seed*6364136223846793005 + 1442695040888963407
		out[i] = seed>>17 ^ seed<<29
	}
	return out
}

func at(time, rep int) api.Stamp {
	return api.Stamp{Time: time, Rep: rep}
}

// id tells the places of small numbers: 0 is the root, -1 the trash; any other is a node's.
func id(n int) api.Stamp {
	switch n {
	case 0:
		return at(0, 0)
	case -1:
		return at(0, 1)
	}
	return at(n, n%3)
}

// issued returns an operation with that stamp, and with Deps that tell it; what it does is left to be told.
func issued(s api.Stamp, o api.Op) api.Op {
	o.Stamp = s
	for rep := range min(s.Rep+2, 16) {
		o.Deps = append(o.Deps, s.Time%1000+rep)
	}
	o.Seq = o.Deps[s.Rep] + 1
	return o
}

// moveBy is a move with that stamp of the place with the number node, beneath that with the number parent.
func moveBy(s api.Stamp, node, parent int, key string) api.Op {
	return issued(s, api.Op{Kind: api.OpMove, Node: id(node), Parent: id(parent), Key: key})
}

func move(time, node, parent int, key string) api.Op {
	return moveBy(at(time, time%5), node, parent, key)
}

// styleBy is a style with that stamp of the node with that number.
func styleBy(s api.Stamp, node, prop, value int) api.Op {
	return issued(s, api.Op{Kind: api.OpStyle, Node: id(node), Prop: prop, Value: value})
}

func style(time, node, prop, value int) api.Op {
	return styleBy(at(time, time%5), node, prop, value)
}

// changed returns o with a change; its Deps are its own.
func changed(o api.Op, change func(o *api.Op)) api.Op {
	o.Deps = slices.Clone(o.Deps)
	change(&o)
	return o
}

// apart returns x in memory of its own.
func apart(x api.Shape) api.Shape {
	out := api.Shape{Tree: api.Tree{Nodes: slices.Clone(x.Tree.Nodes), Moves: slices.Clone(x.Tree.Moves)}, Looks: slices.Clone(x.Looks)}
	for i, m := range out.Tree.Moves {
		out.Tree.Moves[i].Op.Deps = slices.Clone(m.Op.Deps)
	}
	for i, l := range out.Looks {
		out.Looks[i].Regs = slices.Clone(l.Regs)
	}
	return out
}

// with is a copy of x with a change.
func with(x api.Shape, change func(x *api.Shape)) api.Shape {
	out := apart(x)
	change(&out)
	return out
}

// order is by Time, then by Rep.
func order(a, b api.Stamp) int {
	if a.Time != b.Time {
		return cmp.Compare(a.Time, b.Time)
	}
	return cmp.Compare(a.Rep, b.Rep)
}

// chain is a place, if it is a node its Parent, and so on.
func chain(nodes map[api.Stamp]api.Node, place api.Stamp) []api.Stamp {
	out := []api.Stamp{place}
	for {
		n, there := nodes[out[len(out)-1]]
		if !there {
			return out
		}
		out = append(out, n.Parent)
	}
}

// performed is the tree of moves by their stamps.
func performed(moves []api.Op) api.Tree {
	slices.SortFunc(moves, func(a, b api.Op) int { return order(a.Stamp, b.Stamp) })
	nodes := map[api.Stamp]api.Node{}
	var out api.Tree
	for _, o := range moves {
		old, was := nodes[o.Node]
		idle := slices.Contains(chain(nodes, o.Parent), o.Node)
		out.Moves = append(out.Moves, api.Entry{Op: changed(o, func(*api.Op) {}), Was: was, Parent: old.Parent, Key: old.Key, Idle: idle})
		if !idle {
			nodes[o.Node] = api.Node{ID: o.Node, Parent: o.Parent, Key: o.Key}
		}
	}
	for _, n := range nodes {
		out.Nodes = append(out.Nodes, n)
	}
	slices.SortFunc(out.Nodes, func(a, b api.Node) int { return order(a.ID, b.ID) })
	return out
}

// put puts a register into the looks of which each node's is a list of all properties, unless there is a later one.
func put(looks map[api.Stamp][]api.Reg, o api.Op) {
	if looks[o.Node] == nil {
		looks[o.Node] = make([]api.Reg, api.Props)
	}
	if r := &looks[o.Node][o.Prop]; order(r.Stamp, o.Stamp) < 0 {
		*r = api.Reg{Prop: o.Prop, Value: o.Value, Stamp: o.Stamp}
	}
}

// plain is the shape of these operations, as the document says.
func plain(ops ...api.Op) api.Shape {
	var moves []api.Op
	looks := map[api.Stamp][]api.Reg{}
	for _, o := range ops {
		if o.Kind == api.OpMove {
			moves = append(moves, o)
		} else {
			put(looks, o)
		}
	}
	out := api.Shape{Tree: performed(moves)}
	for node, regs := range looks {
		regs = slices.DeleteFunc(regs, func(r api.Reg) bool { return r.Stamp.Time == 0 })
		out.Looks = append(out.Looks, api.Look{ID: node, Regs: regs})
	}
	slices.SortFunc(out.Looks, func(a, b api.Look) int { return order(a.ID, b.ID) })
	return out
}

func sameOp(a, b api.Op) bool {
	return a.Stamp == b.Stamp && a.Seq == b.Seq && slices.Equal(a.Deps, b.Deps) && a.Kind == b.Kind && a.Node == b.Node && a.Parent == b.Parent && a.Key == b.Key && a.Prop == b.Prop && a.Value == b.Value
}

func sameTree(a, b api.Tree) bool {
	return slices.Equal(a.Nodes, b.Nodes) && slices.EqualFunc(a.Moves, b.Moves, func(x, y api.Entry) bool {
		return sameOp(x.Op, y.Op) && x.Was == y.Was && x.Parent == y.Parent && x.Key == y.Key && x.Idle == y.Idle
	})
}

func sameLooks(a, b []api.Look) bool {
	return slices.EqualFunc(a, b, func(x, y api.Look) bool { return x.ID == y.ID && slices.Equal(x.Regs, y.Regs) })
}

func same(a, b api.Shape) bool {
	return sameTree(a.Tree, b.Tree) && sameLooks(a.Looks, b.Looks)
}

func isZero(x api.Shape) bool {
	return len(x.Tree.Nodes) == 0 && len(x.Tree.Moves) == 0 && len(x.Looks) == 0
}

// some is operations with all that may be: nodes beneath the root, the trash, one another and a place without a node, some moved, one idle move; and styles of nodes that are live, that are not, and of none.
func some() []api.Op {
	return []api.Op{
		move(11, 1, 0, "b"), move(12, 2, 1, "a"), style(13, 2, api.PropGrow, 5), move(14, 3, 2, "ab"), style(15, 1, api.PropWrap, 1), style(16, 50, api.PropFont, 640),
		move(17, 5, -1, "b"), move(18, 6, 90, "c"), style(19, 5, api.PropGrow, 9), style(20, 2, api.PropColor, 0), move(21, 1, 3, "x"), style(22, 2, api.PropGrow, 7),
		move(23, 7, 0, strings.Repeat("k", 64)), style(24, 2, api.PropDisplay, 2), move(25, 3, 1, "c"), style(26, 6, api.PropWidth, -1),
	}
}

// goodLists are lists of operations, no two with the same stamp.
func goodLists() [][]api.Op {
	return [][]api.Op{
		nil,
		{},
		{move(1, 1, 0, "a")},
		{style(1, 1, 0, 1)},
		{move(1, 1, 1, "a")},
		{move(1, 1, 0, "a"), style(2, 1, 0, 1)},
		{move(1, 1, 0, "a"), style(2, 2, 0, 1)},
		{style(1, 4, 0, 1), style(2, 2, 18, 64), style(3, 3, 9, 0), style(4, 3, 1, 0)},
		{move(1, 1, 2, "a"), move(2, 2, 1, "b"), style(3, 2, 2, 1), style(4, 2, 2, 0), style(5, 2, 2, 1)},
		{issued(at(1, 0), api.Op{Kind: api.OpStyle, Node: at(1, 0)}), issued(at(1, 15), api.Op{Kind: api.OpStyle, Node: at(1, 15)}), issued(at(api.MaxTime, 15), api.Op{Kind: api.OpStyle, Node: at(api.MaxTime, 0)}), issued(at(api.MaxTime, 14), api.Op{Kind: api.OpStyle, Node: at(api.MaxTime, 15)})},
		some(),
	}
}

func noStamps() []api.Stamp {
	return []api.Stamp{{}, at(0, 1), at(0, 2), at(-1, 0), at(-1, 1), at(api.MaxTime+1, 0), at(math.MinInt, 0), at(math.MaxInt, 0), at(1, -1), at(1, 16), at(1, 256), at(1, 1<<32), at(1, math.MinInt), at(1, math.MaxInt), at(api.MaxTime+1, 16), at(-1, -1)}
}

// noOps are changes of an operation, a move or a style, after each of which it is not valid.
func noOps() []func(o *api.Op) {
	out := []func(o *api.Op){
		func(o *api.Op) { o.Seq = 0 },
		func(o *api.Op) { o.Seq++ },
		func(o *api.Op) { o.Deps = nil },
		func(o *api.Op) { o.Deps = o.Deps[:o.Stamp.Rep] },
		func(o *api.Op) { o.Deps[o.Stamp.Rep]++ },
		func(o *api.Op) { o.Deps = append(o.Deps, make([]int, 16)...) },
		func(o *api.Op) { o.Kind = api.OpNone },
		func(o *api.Op) { o.Kind = api.OpStyle + 1 },
		func(o *api.Op) { o.Kind = -1 },
		func(o *api.Op) { o.Kind = api.OpMove + api.OpStyle - o.Kind },
		func(o *api.Op) { o.Key += "\x00" },
		func(o *api.Op) { o.Key += strings.Repeat("k", 65) },
		func(o *api.Op) {
			if o.Kind == api.OpMove {
				o.Prop = 1
			} else {
				o.Parent = id(1)
			}
		},
		func(o *api.Op) {
			if o.Kind == api.OpMove {
				o.Value = 1
			} else {
				o.Value = -2
			}
		},
		func(o *api.Op) {
			if o.Kind == api.OpMove {
				o.Parent = at(0, 2)
			} else {
				o.Prop = api.Props
			}
		},
	}
	for _, s := range noStamps() {
		out = append(out, func(o *api.Op) { o.Node = s }, func(o *api.Op) { o.Stamp, o.Deps, o.Seq = s, make([]int, 16), 1 })
	}
	return out
}

// badShapes are not valid, for one reason each.
func badShapes() []api.Shape {
	return slices.Concat(misgrown(), misordered(), misnamed(), misregistered(), bare())
}

// misgrown are shapes whose Tree is not valid.
func misgrown() []api.Shape {
	var out []api.Shape
	for _, l := range goodLists() {
		x := plain(l...)
		if len(x.Tree.Moves) == 0 {
			out = append(out, with(x, func(x *api.Shape) { x.Tree.Nodes = []api.Node{{ID: id(1), Key: "a"}} }))
			continue
		}
		out = append(out,
			with(x, func(x *api.Shape) { x.Tree.Nodes = append(x.Tree.Nodes, api.Node{ID: id(99), Key: "a"}) }),
			with(x, func(x *api.Shape) { x.Tree.Moves[0].Was = true }),
			with(x, func(x *api.Shape) { x.Tree.Moves[0].Idle = !x.Tree.Moves[0].Idle }),
			with(x, func(x *api.Shape) { x.Tree.Moves[0].Op.Seq++ }),
			with(x, func(x *api.Shape) { x.Tree.Moves = append(x.Tree.Moves, x.Tree.Moves[0]) }),
			with(x, func(x *api.Shape) { x.Tree.Moves = append(x.Tree.Moves, api.Entry{Op: style(99, 1, 0, 0), Idle: true}) }),
		)
		if len(x.Tree.Nodes) > 0 {
			out = append(out,
				with(x, func(x *api.Shape) { x.Tree.Nodes = nil }),
				with(x, func(x *api.Shape) { x.Tree.Moves = nil }),
				with(x, func(x *api.Shape) { x.Tree.Nodes[0].Key += "a" }),
			)
		}
	}
	return out
}

func look(s api.Stamp, regs ...api.Reg) api.Look {
	return api.Look{ID: s, Regs: regs}
}

func reg1(time int) api.Reg {
	return api.Reg{Prop: api.PropGrow, Value: time, Stamp: at(time, 0)}
}

// misordered are shapes of whose Looks two have the same ID, or descend.
func misordered() []api.Shape {
	var out []api.Shape
	for _, l := range [][]api.Stamp{
		{id(1), id(1)}, {id(2), id(1)}, {at(4, 3), at(4, 2)}, {at(4, 3), at(4, 3)}, {at(5, 0), at(4, 15)}, {id(1), id(1), id(2)}, {id(1), id(2), id(2)}, {id(1), id(3), id(2)}, {id(2), id(1), id(3)}, {id(1), id(2), id(1)},
	} {
		var x api.Shape
		for i, s := range l {
			x.Looks = append(x.Looks, look(s, reg1(i+1)))
		}
		out = append(out, x, api.Shape{Tree: plain(some()...).Tree, Looks: x.Looks})
	}
	x := plain(some()...)
	for i := range x.Looks {
		out = append(out, with(x, func(x *api.Shape) { x.Looks = slices.Insert(x.Looks, i, x.Looks[i]) }))
		if i > 0 {
			out = append(out, with(x, func(x *api.Shape) { x.Looks[i-1], x.Looks[i] = x.Looks[i], x.Looks[i-1] }))
		}
	}
	return append(out, with(x, func(x *api.Shape) { slices.Reverse(x.Looks) }))
}

// misnamed are shapes with a Look whose ID is no stamp, where it ascends all the same.
func misnamed() []api.Shape {
	var out []api.Shape
	for _, l := range goodLists() {
		x := plain(l...)
		for _, s := range noStamps() {
			place := 0
			for place < len(x.Looks) && order(x.Looks[place].ID, s) < 0 {
				place++
			}
			out = append(out, with(x, func(x *api.Shape) { x.Looks = slices.Insert(x.Looks, place, look(s, reg1(1))) }))
		}
	}
	return out
}

// misregistered are shapes with Regs that are not valid.
func misregistered() []api.Shape {
	var out []api.Shape
	good := reg1(3)
	for _, regs := range [][]api.Reg{
		{{}}, {good, good}, {good, {Prop: 2, Value: 1, Stamp: at(1, 1)}}, {good, {Prop: api.Props, Stamp: at(1, 1)}}, {{Prop: -1, Stamp: at(1, 1)}, good},
		{{Prop: api.PropGrow, Value: -1, Stamp: at(1, 1)}}, {{Prop: api.PropGrow, Value: api.MaxWeight + 1, Stamp: at(1, 1)}}, {{Prop: api.PropFont, Stamp: at(1, 1)}},
		{{Prop: api.PropGrow, Value: 1}}, {{Prop: api.PropGrow, Value: 1, Stamp: at(0, 1)}}, {{Prop: api.PropGrow, Value: 1, Stamp: at(1, 16)}}, {{Prop: 1}, good}, {good, {Prop: 10, Stamp: at(-1, 0)}},
	} {
		out = append(out, api.Shape{Looks: []api.Look{look(id(1), regs...)}})
		x := plain(some()...)
		for i := range x.Looks {
			out = append(out, with(x, func(x *api.Shape) { x.Looks[i].Regs = regs }))
		}
	}
	return out
}

// bare are shapes with a Look without any Regs.
func bare() []api.Shape {
	var out []api.Shape
	for _, regs := range [][]api.Reg{nil, {}} {
		out = append(out, api.Shape{Looks: []api.Look{look(id(1), regs...)}})
		x := plain(some()...)
		for i := range x.Looks {
			out = append(out, with(x, func(x *api.Shape) { x.Looks[i].Regs = regs }))
		}
		out = append(out, with(x, func(x *api.Shape) { x.Looks = append(x.Looks, look(id(60), regs...)) }))
	}
	return out
}

func wantCheck(t *testing.T, x api.Shape, e api.Errno) {
	t.Helper()
	if got := Check(x); got != e {
		t.Errorf("Check(%+v): %d, want %d", x, got, e)
	}
}

func wantApply(t *testing.T, x api.Shape, o api.Op, want api.Shape) {
	t.Helper()
	got, e := Apply(x, o)
	if e != api.OK || !same(got, want) {
		t.Errorf("Apply(%+v, %+v): %+v, %d, want %+v", x, o, got, e, want)
	}
	wantCheck(t, got, api.OK)
}

func wantApplyRefused(t *testing.T, x api.Shape, o api.Op, e api.Errno) {
	t.Helper()
	if got, gotE := Apply(x, o); gotE != e || !isZero(got) {
		t.Errorf("Apply(%+v, %+v): %+v, %d, want %d alone", x, o, got, gotE, e)
	}
}

func wantLook(t *testing.T, x api.Shape, s api.Stamp, want []api.Reg, e api.Errno) {
	t.Helper()
	if got, gotE := Look(x, s); !slices.Equal(got, want) || gotE != e {
		t.Errorf("Look(%+v, %v): %v, %d, want %v, %d", x, s, got, gotE, want, e)
	}
}

func wantSlot(t *testing.T, x api.Shape, parent, before api.Stamp, want string, e api.Errno) {
	t.Helper()
	if got, gotE := Slot(x, parent, before); got != want || gotE != e {
		t.Errorf("Slot(%+v, %v, %v): %q, %d, want %q, %d", x, parent, before, got, gotE, want, e)
	}
}

func wantMay(t *testing.T, x api.Shape, o api.Op, e api.Errno) {
	t.Helper()
	if got := May(x, o); got != e {
		t.Errorf("May(%+v, %+v): %d, want %d", x, o, got, e)
	}
}

// applied applies operations one behind the other.
func applied(t *testing.T, ops ...api.Op) api.Shape {
	t.Helper()
	var x api.Shape
	for _, o := range ops {
		y, e := Apply(x, o)
		if e != api.OK {
			t.Fatalf("Apply(%+v, %+v): %d", x, o, e)
		}
		x = y
	}
	return x
}

// P17.1: Check.

func TestCheckOfValidShapes(t *testing.T) {
	wantCheck(t, api.Shape{}, api.OK)
	wantCheck(t, api.Shape{Tree: api.Tree{Nodes: []api.Node{}, Moves: []api.Entry{}}, Looks: []api.Look{}}, api.OK)
	for _, l := range goodLists() {
		wantCheck(t, plain(l...), api.OK)
	}
	for _, l := range [][]api.Stamp{{at(1, 0)}, {at(1, 15)}, {at(api.MaxTime, 0)}, {at(api.MaxTime, 15)}, {at(1, 0), at(1, 1), at(2, 0), at(api.MaxTime, 14), at(api.MaxTime, 15)}, {id(1), id(2), id(3)}} {
		var x api.Shape
		for _, s := range l {
			x.Looks = append(x.Looks, look(s, reg1(9)))
		}
		wantCheck(t, x, api.OK)
		wantCheck(t, api.Shape{Tree: plain(some()...).Tree, Looks: x.Looks}, api.OK)
	}
	var all []api.Reg
	for prop := range api.Props {
		all = append(all, api.Reg{Prop: prop, Value: 1, Stamp: at(1+prop, 15)})
	}
	all[api.PropFont].Value = 64
	wantCheck(t, api.Shape{Looks: []api.Look{look(id(3), all...)}}, api.OK)
}

func TestCheckOfATreeThatIsNotValid(t *testing.T) {
	for _, x := range misgrown() {
		wantCheck(t, x, api.ErrForm)
	}
}

func TestCheckOfLooksThatDoNotAscend(t *testing.T) {
	for _, x := range misordered() {
		wantCheck(t, x, api.ErrForm)
	}
}

func TestCheckOfALookOfWhatIsNoStamp(t *testing.T) {
	for _, x := range misnamed() {
		wantCheck(t, x, api.ErrForm)
	}
}

func TestCheckOfRegs(t *testing.T) {
	for _, x := range append(misregistered(), bare()...) {
		wantCheck(t, x, api.ErrForm)
	}
}

// Of many shapes with anything changed just those are valid that are so by each of the document's words.
func TestCheckOfManyChangedLooks(t *testing.T) {
	good, bad := 0, 0
	for _, word := range spread(3, 4000) {
		x := plain(some()...)
		l := &x.Looks[word%uint64(len(x.Looks))]
		r := &l.Regs[word>>8%uint64(len(l.Regs))]
		switch word >> 16 % 5 {
		case 0:
			l.ID.Time = int(word >> 20 % 60)
		case 1:
			l.ID.Rep = int(word>>20%20) - 2
		case 2:
			r.Prop = int(word>>20%24) - 2
		case 3:
			r.Value = int(word>>20%800) - 3
		case 4:
			r.Stamp = at(int(word>>20%4), int(word>>24%20)-2)
		}
		e := api.OK
		if !arePlain(x.Looks) {
			e = api.ErrForm
			bad++
		} else {
			good++
		}
		wantCheck(t, x, e)
	}
	if good < 500 || bad < 500 {
		t.Errorf("%d valid, %d not", good, bad)
	}
}

func isPlainStamp(s api.Stamp) bool {
	return s.Time >= 1 && s.Time <= 1<<40 && s.Rep >= 0 && s.Rep < 16
}

// arePlain tells whether these are looks; of the properties' values it knows those that the test has.
func arePlain(l []api.Look) bool {
	most := map[int]int{api.PropDisplay: 2, api.PropDirect: 1, api.PropWrap: 1, api.PropJustify: 4, api.PropAlign: 3}
	least := map[int]int{api.PropWidth: -1, api.PropHeight: -1, api.PropMaxW: -1, api.PropMaxH: -1, api.PropBasis: -1, api.PropFont: 64}
	for i, x := range l {
		if !isPlainStamp(x.ID) || i > 0 && order(l[i-1].ID, x.ID) >= 0 || len(x.Regs) == 0 {
			return false
		}
		for k, r := range x.Regs {
			top, has := most[r.Prop]
			if r.Prop < 0 || r.Prop > 18 || k > 0 && x.Regs[k-1].Prop >= r.Prop || !isPlainStamp(r.Stamp) || r.Value < least[r.Prop] || has && r.Value > top {
				return false
			}
		}
	}
	return true
}

// P17.1: Apply.

func TestNoFunctionTakesAShapeThatIsNotValid(t *testing.T) {
	for _, x := range badShapes() {
		wantCheck(t, x, api.ErrForm)
		ops := []api.Op{move(99, 1, 0, "a"), move(99, 77, 0, "a"), style(99, 1, 0, 0), style(99, 2, 0, 0), style(99, 77, 0, 0), {}}
		// One that is there already, one that is idle, one that is neither valid nor let in.
		for _, m := range x.Tree.Moves {
			ops = append(ops, m.Op)
		}
		ops = append(ops, move(99, 1, 1, "a"), move(99, 1, 77, "a"), move(99, 77, -1, "a"), changed(style(99, 77, 0, 0), func(o *api.Op) { o.Seq++ }))
		for _, o := range ops {
			wantApplyRefused(t, x, o, api.ErrForm)
			wantMay(t, x, o, api.ErrForm)
		}
		for _, s := range []api.Stamp{id(0), id(-1), id(1), id(2), id(5), id(50), id(77), at(math.MinInt, 7)} {
			// Whether it has a Look or not, is live or not.
			wantLook(t, x, s, nil, api.ErrForm)
			wantSlot(t, x, s, id(0), "", api.ErrForm)
			wantSlot(t, x, id(0), s, "", api.ErrForm)
			wantSlot(t, x, s, s, "", api.ErrForm)
		}
	}
}

// What is not valid is refused ahead of what is there already.
func TestApplyOfWhatIsNotValid(t *testing.T) {
	for _, l := range goodLists() {
		x := plain(l...)
		wantApplyRefused(t, x, api.Op{}, api.ErrForm)
		for _, change := range noOps() {
			for _, o := range append([]api.Op{move(99, 1, 0, "a"), style(99, 1, 0, 0), style(99, 77, 9, 3)}, l...) {
				wantApplyRefused(t, x, changed(o, change), api.ErrForm)
			}
		}
	}
}

func TestApplyOfAStampThatIsThere(t *testing.T) {
	for _, l := range goodLists() {
		x := plain(l...)
		for _, o := range l {
			if o.Kind == api.OpMove {
				wantApplyRefused(t, x, o, api.ErrThere)
				wantApplyRefused(t, x, moveBy(o.Stamp, 77, 0, "other"), api.ErrThere)
				// A style's stamp is held against those of its register alone.
				also := styleBy(o.Stamp, 77, 4, 3)
				wantApply(t, x, also, plain(append(slices.Clone(l), also)...))
			} else {
				wantApply(t, x, o, x)
				also := moveBy(o.Stamp, 77, 0, "other")
				wantApply(t, x, also, plain(append(slices.Clone(l), also)...))
				also = styleBy(o.Stamp, 77, 4, 3)
				wantApply(t, x, also, plain(append(slices.Clone(l), also)...))
			}
		}
	}
}

func TestApplyOfAMove(t *testing.T) {
	var x api.Shape
	first, second := move(3, 1, 0, "a"), move(5, 2, 1, "b")
	wantApply(t, x, first, api.Shape{Tree: api.Tree{Nodes: []api.Node{{ID: id(1), Key: "a"}}, Moves: []api.Entry{{Op: first}}}})
	// The Looks stay as they are.
	x = applied(t, first, style(4, 1, 2, 1), style(6, 2, 9, 3))
	wantApply(t, x, second, api.Shape{
		Tree:  api.Tree{Nodes: []api.Node{{ID: id(1), Key: "a"}, {ID: id(2), Parent: id(1), Key: "b"}}, Moves: []api.Entry{{Op: first}, {Op: second}}},
		Looks: []api.Look{look(id(1), api.Reg{Prop: 2, Value: 1, Stamp: at(4, 4)}), look(id(2), api.Reg{Prop: 9, Value: 3, Stamp: at(6, 1)})},
	})
}

func TestApplyOfAMoveThatComesLate(t *testing.T) {
	a, b, second, late := move(1, 1, 0, "a"), move(2, 2, 0, "b"), move(4, 2, 1, "d"), move(3, 1, 2, "c")
	x := applied(t, a, b, second, style(9, 1, 0, 1))
	want := api.Shape{
		Tree: api.Tree{
			Nodes: []api.Node{{ID: id(1), Parent: id(2), Key: "c"}, {ID: id(2), Key: "b"}},
			Moves: []api.Entry{{Op: a}, {Op: b}, {Op: late, Was: true, Key: "a"}, {Op: second, Was: true, Key: "b", Idle: true}},
		},
		Looks: []api.Look{look(id(1), api.Reg{Prop: 0, Value: 1, Stamp: at(9, 4)})},
	}
	wantApply(t, x, late, want)
	for _, l := range goodLists() {
		for i, o := range l {
			wantApply(t, plain(slices.Delete(slices.Clone(l), i, i+1)...), o, plain(l...))
		}
	}
}

func TestApplyOfAStyleToALookThatIsThere(t *testing.T) {
	x := applied(t, move(1, 2, 0, "a"), style(11, 1, 5, 4), style(12, 2, 5, 1), style(13, 2, 9, 2), style(14, 3, 5, 6))
	want := func(regs ...api.Reg) api.Shape {
		return with(x, func(x *api.Shape) { x.Looks[1].Regs = regs })
	}
	five, nine := api.Reg{Prop: 5, Value: 1, Stamp: at(12, 2)}, api.Reg{Prop: 9, Value: 2, Stamp: at(13, 3)}
	for prop, place := range map[int]int{0: 0, 4: 0, 6: 1, 8: 1, 10: 2, 17: 2} {
		r := api.Reg{Prop: prop, Value: 1, Stamp: at(3, 3)}
		wantApply(t, x, style(3, 2, prop, 1), want(slices.Insert([]api.Reg{five, nine}, place, r)...))
	}
	// With a stamp below that of the register, equal to it and above.
	for _, c := range []struct {
		s    api.Stamp
		goes bool
	}{
		{at(1, 0), false}, {at(12, 15), false}, {at(13, 0), false}, {at(13, 2), false},
		{at(13, 3), false},
		{at(13, 4), true}, {at(13, 15), true}, {at(14, 0), true}, {at(api.MaxTime, 15), true},
	} {
		if c.goes {
			wantApply(t, x, styleBy(c.s, 2, 9, 77), want(five, api.Reg{Prop: 9, Value: 77, Stamp: c.s}))
		} else {
			wantApply(t, x, styleBy(c.s, 2, 9, 77), x)
		}
	}
}

func TestApplyOfAStyleToNoLook(t *testing.T) {
	// The node is one of the tree's, live or not, or none.
	for _, trees := range [][]api.Op{nil, {move(1, 10, 0, "a"), move(2, 20, 10, "a"), move(3, 30, -1, "a"), move(4, 40, 90, "a")}} {
		x := applied(t, append(slices.Clone(trees), style(11, 15, 5, 4), style(12, 25, 5, 1))...)
		for node, place := range map[int]int{1: 0, 10: 0, 14: 0, 16: 1, 20: 1, 24: 1, 26: 2, 30: 2, 40: 2, 90: 2, 99: 2} {
			for _, prop := range []int{0, 5, 17} {
				// Its stamp may be any.
				for _, s := range []api.Stamp{at(1, 0), at(1, 1), at(12, 2), at(api.MaxTime, 15)} {
					l := look(id(node), api.Reg{Prop: prop, Value: 1, Stamp: s})
					wantApply(t, x, styleBy(s, node, prop, 1), with(x, func(x *api.Shape) { x.Looks = slices.Insert(x.Looks, place, l) }))
				}
			}
		}
	}
	wantApply(t, api.Shape{}, style(4, 1, 9, 5), api.Shape{Looks: []api.Look{look(id(1), api.Reg{Prop: 9, Value: 5, Stamp: at(4, 4)})}})
	// IDs that differ in Rep alone are two nodes'.
	x := api.Shape{Looks: []api.Look{look(at(4, 5), reg1(1))}}
	for rep, place := range map[int]int{0: 0, 4: 0, 6: 1, 15: 1} {
		o := issued(at(7, 0), api.Op{Kind: api.OpStyle, Node: at(4, rep), Prop: api.PropGrow, Value: 7})
		wantApply(t, x, o, with(x, func(x *api.Shape) { x.Looks = slices.Insert(x.Looks, place, look(at(4, rep), reg1(7))) }))
	}
}

// Any valid value is set, the least and the greatest of its property among them.
func TestApplyOfTheEndsOfValues(t *testing.T) {
	for prop, ends := range map[int][]int{api.PropDisplay: {0, 2}, api.PropWidth: {-1, 1 << 40}, api.PropGrow: {0, 1 << 20}, api.PropColor: {0, 1<<24 - 1}, api.PropFont: {64, 64000}} {
		for _, value := range ends {
			wantApply(t, api.Shape{}, style(4, 1, prop, value), api.Shape{Looks: []api.Look{look(id(1), api.Reg{Prop: prop, Value: value, Stamp: at(4, 4)})}})
		}
		wantApplyRefused(t, api.Shape{}, style(4, 1, prop, ends[0]-1), api.ErrForm)
		wantApplyRefused(t, api.Shape{}, style(4, 1, prop, ends[1]+1), api.ErrForm)
	}
}

// P17.1: Look.

func TestLook(t *testing.T) {
	x := applied(t, some()...)
	for n, want := range map[int][]api.Reg{
		1:  {{Prop: api.PropWrap, Value: 1, Stamp: at(15, 0)}},
		2:  {{Prop: api.PropDisplay, Value: 2, Stamp: at(24, 4)}, {Prop: api.PropGrow, Value: 7, Stamp: at(22, 2)}, {Prop: api.PropColor, Value: 0, Stamp: at(20, 0)}},
		5:  {{Prop: api.PropGrow, Value: 9, Stamp: at(19, 4)}},
		6:  {{Prop: api.PropWidth, Value: -1, Stamp: at(26, 1)}},
		50: {{Prop: api.PropFont, Value: 640, Stamp: at(16, 1)}},
		// None: of nodes, and of places that are no nodes.
		0: nil, -1: nil, 3: nil, 7: nil, 4: nil, 49: nil, 51: nil, 90: nil, 99: nil,
	} {
		wantLook(t, x, id(n), want, api.OK)
		wantLook(t, api.Shape{Tree: x.Tree}, id(n), nil, api.OK)
		wantLook(t, api.Shape{}, id(n), nil, api.OK)
		wantLook(t, api.Shape{Looks: x.Looks}, id(n), want, api.OK)
	}
	for _, s := range append(noStamps(), at(1, 0), at(1, 2), at(2, 1), at(2, 3), at(50, 1), at(50, 3)) {
		wantLook(t, x, s, nil, api.OK)
	}
}

// P17.2

// garden has children with Keys that are equal and that are not, at several depths beneath the root, the trash and the place 80, which is no node.
func garden(t *testing.T) api.Shape {
	return applied(t,
		move(11, 1, 0, "\x20"), move(12, 2, 0, "\x10"), move(13, 3, 0, "\x30"), move(14, 5, 0, "\x20"), move(15, 4, 0, "\x20"),
		move(21, 11, 1, "\x40"), move(22, 12, 1, "\x41"), move(23, 13, 1, "\x41\x05"), move(24, 14, 11, "x"),
		move(31, 31, -1, "\x10"), move(32, 32, 31, "\x10"), move(33, 33, 80, "\x10"), move(34, 34, 33, "\x10"),
		style(40, 1, 0, 1), style(41, 60, 0, 1),
	)
}

func TestTheDocumentsExample(t *testing.T) {
	wantSlot(t, api.Shape{}, id(0), id(0), "\x80", api.OK)
	wantSlot(t, applied(t, move(1, 1, -1, "a"), style(2, 5, 0, 0)), id(0), id(0), "\x80", api.OK)
}

func TestSlotAheadOfBetweenAndBehindChildren(t *testing.T) {
	x := garden(t)
	for _, c := range []struct {
		parent, before int
		want           string
	}{
		// The root's are 2, 1, 4, 5, 3.
		{0, 2, "\x08"}, {0, 1, "\x18"}, {0, 3, "\x28"}, {0, 0, "\x98"},
		// Of a live node.
		{1, 11, "\x20"}, {1, 12, "\x40\x80"}, {1, 13, "\x41\x02"}, {1, 0, "\xa0"},
		{11, 14, "\x3c"}, {11, 0, "\xbc"},
		// Without children.
		{2, 0, "\x80"}, {14, 0, "\x80"}, {3, 0, "\x80"},
	} {
		wantSlot(t, x, id(c.parent), id(c.before), c.want, api.OK)
	}
}

func TestSlotBetweenEqualKeys(t *testing.T) {
	x := garden(t)
	wantSlot(t, x, id(0), id(4), "", api.ErrFull)
	wantSlot(t, x, id(0), id(5), "", api.ErrFull)
	// Two long ones that are equal; where they are at the ends there is room.
	long := strings.Repeat("k", 64)
	x = applied(t, move(1, 1, 0, long), move(2, 2, 0, long))
	wantSlot(t, x, id(0), id(1), "\x35", api.OK)
	wantSlot(t, x, id(0), id(2), "", api.ErrFull)
	wantSlot(t, x, id(0), id(0), "\xb5", api.OK)
}

func TestSlotBeneathWhatIsNotLive(t *testing.T) {
	x := garden(t)
	// The trash, nodes beneath it, a place without a node, nodes beneath it, and what is nothing; whether before is a child there or not.
	for _, parent := range append([]api.Stamp{id(-1), id(31), id(32), id(80), id(33), id(34), id(60), id(99), at(1, 0), at(11, 0)}, noStamps()[1:]...) {
		for _, before := range []api.Stamp{id(0), id(1), id(31), id(32), id(33), id(34), id(99), parent, at(-1, 0)} {
			wantSlot(t, x, parent, before, "", api.ErrNone)
			if parent != id(0) {
				wantSlot(t, api.Shape{}, parent, before, "", api.ErrNone)
			}
		}
	}
}

func TestSlotAheadOfWhatIsNoChild(t *testing.T) {
	x := garden(t)
	for _, c := range []struct {
		parent api.Stamp
		kids   []int
	}{{id(0), []int{1, 2, 3, 4, 5}}, {id(1), []int{11, 12, 13}}, {id(11), []int{14}}, {id(2), nil}} {
		others := append([]api.Stamp{at(1, 0), at(1, 2), at(12, 1), c.parent}, noStamps()[1:]...)
		for n := -1; n < 100; n++ {
			if !slices.Contains(c.kids, n) {
				others = append(others, id(n))
			}
		}
		for _, before := range others {
			// The root stands for behind all.
			if before != id(0) {
				wantSlot(t, x, c.parent, before, "", api.ErrNone)
			}
		}
	}
	wantSlot(t, api.Shape{}, id(0), id(1), "", api.ErrNone)
	wantSlot(t, api.Shape{}, id(0), id(-1), "", api.ErrNone)
}

func TestSlotWithoutRoom(t *testing.T) {
	full, zeros, long := strings.Repeat("\xff", 64), strings.Repeat("\x00", 63), strings.Repeat("k", 63)
	for _, parent := range []int{0, 9} {
		x := func(keys ...string) api.Shape {
			l := []api.Op{move(1, 9, 0, "a"), move(2, 1, parent, keys[0])}
			if len(keys) > 1 {
				l = append(l, move(3, 2, parent, keys[1]))
			}
			if parent == 0 {
				l[0] = move(1, 9, -1, "a")
			}
			return applied(t, l...)
		}
		wantSlot(t, x(full), id(parent), id(0), "", api.ErrFull)
		wantSlot(t, x(full), id(parent), id(1), "\x7f", api.OK)
		wantSlot(t, x(full[1:]), id(parent), id(0), full[1:]+"\x80", api.OK)
		wantSlot(t, x(zeros+"\x01"), id(parent), id(1), "", api.ErrFull)
		wantSlot(t, x(zeros+"\x02"), id(parent), id(1), zeros+"\x01", api.OK)
		wantSlot(t, x(zeros+"\x01"), id(parent), id(0), "\x80", api.OK)
		wantSlot(t, x(long+"a", long+"b"), id(parent), id(2), "", api.ErrFull)
		wantSlot(t, x(long+"a", long+"c"), id(parent), id(2), long+"b", api.OK)
		wantSlot(t, x(long, long+"\x01"), id(parent), id(2), "", api.ErrFull)
	}
}

// A child that gets the key stands where it was asked for.
func TestSlotIsWhereItWasAskedFor(t *testing.T) {
	full := 0
	for seed := range uint64(6) {
		x := plain(wild(seed+70, 60, 20)...)
		for parent := 0; parent <= 20; parent++ {
			live, _ := tree.Live(x.Tree, id(parent))
			kids, _ := tree.Kids(x.Tree, id(parent))
			if !live {
				wantSlot(t, x, id(parent), id(0), "", api.ErrNone)
				continue
			}
			for place, before := range append(slices.Clone(kids), id(0)) {
				a, b := "", ""
				if place > 0 {
					a = keyIn(x, kids[place-1])
				}
				if place < len(kids) {
					b = keyIn(x, kids[place])
				}
				if a != "" && a == b {
					wantSlot(t, x, id(parent), before, "", api.ErrFull)
					full++
					continue
				}
				want, e := key.Between(a, b)
				wantSlot(t, x, id(parent), before, want, e)
				y := applyTo(t, x, move(9000, 9000, parent, want))
				if got, _ := tree.Kids(y.Tree, id(parent)); !slices.Equal(got, slices.Insert(slices.Clone(kids), place, id(9000))) {
					t.Errorf("beneath %d ahead of %v: %v, then %v", parent, before, kids, got)
				}
			}
		}
	}
	if full < 20 {
		t.Errorf("only %d had equal keys beside them", full)
	}
}

func keyIn(x api.Shape, s api.Stamp) string {
	for _, n := range x.Tree.Nodes {
		if n.ID == s {
			return n.Key
		}
	}
	return ""
}

func applyTo(t *testing.T, x api.Shape, o api.Op) api.Shape {
	t.Helper()
	y, e := Apply(x, o)
	if e != api.OK {
		t.Fatalf("Apply(%+v, %+v): %d", x, o, e)
	}
	return y
}

// P17.3

func TestMayOfWhatIsNotValid(t *testing.T) {
	for _, l := range goodLists() {
		x := plain(l...)
		wantMay(t, x, api.Op{}, api.ErrForm)
		for _, change := range noOps() {
			// Whether it would be let in otherwise or not.
			for _, o := range []api.Op{move(99, 77, 0, "a"), move(99, 77, -1, "a"), move(99, 77, 78, "a"), move(99, 1, 1, "a"), style(99, 1, 0, 0), style(99, 77, 9, 3)} {
				wantMay(t, x, changed(o, change), api.ErrForm)
			}
		}
	}
}

func TestMayOfAStyle(t *testing.T) {
	x := garden(t)
	for n, e := range map[int]api.Errno{
		// Of live nodes, with a Look and without one.
		1: api.OK, 2: api.OK, 3: api.OK, 11: api.OK, 14: api.OK,
		// Of nodes that are not live.
		31: api.OK, 32: api.OK, 33: api.OK, 34: api.OK,
		// Of none: with a Look, with a node beneath it, and at all.
		60: api.ErrNone, 80: api.ErrNone, 99: api.ErrNone,
	} {
		for prop, value := range map[int]int{0: 0, 9: 1 << 20, 18: 64} {
			wantMay(t, x, style(99, n, prop, value), e)
			// Its stamp may be any.
			wantMay(t, x, styleBy(at(1, 0), n, prop, value), e)
			wantMay(t, api.Shape{}, style(99, n, prop, value), api.ErrNone)
		}
	}
	// A node that an idle move would have made is none.
	wantMay(t, applied(t, move(1, 1, 1, "a")), style(2, 1, 0, 0), api.ErrNone)
	// At the limits, too.
	x = plain(append(flat(api.MaxNodes), row(100, 14)...)...)
	wantMay(t, x, style(999, 1, 0, 0), api.OK)
	wantMay(t, x, style(999, 114, 0, 0), api.OK)
}

func TestMayOfMovesToPlaces(t *testing.T) {
	x := garden(t)
	for _, c := range []struct {
		node, parent int
		want         api.Errno
	}{
		// A new node: to the root, to live nodes, to the trash, to what is neither.
		{99, 0, api.OK}, {99, 1, api.OK}, {99, 14, api.OK}, {99, -1, api.ErrState},
		{99, 31, api.ErrNone}, {99, 32, api.ErrNone}, {99, 33, api.ErrNone}, {99, 80, api.ErrNone}, {99, 60, api.ErrNone}, {99, 98, api.ErrNone}, {99, 99, api.ErrNone},
		// The same with nodes beneath it, and with a Look.
		{80, 0, api.OK}, {80, 14, api.OK}, {80, -1, api.ErrState}, {80, 33, api.ErrNone}, {80, 34, api.ErrNone}, {80, 80, api.ErrNone}, {80, 31, api.ErrNone}, {60, 2, api.OK},
		// A live node.
		{1, 0, api.OK}, {1, 2, api.OK}, {1, -1, api.OK}, {14, 0, api.OK}, {14, 1, api.OK}, {14, 13, api.OK}, {14, -1, api.OK}, {14, 11, api.OK},
		{1, 31, api.ErrNone}, {1, 80, api.ErrNone}, {1, 99, api.ErrNone}, {14, 34, api.ErrNone},
		// One that would be idle.
		{1, 1, api.ErrState}, {1, 11, api.ErrState}, {1, 14, api.ErrState}, {11, 14, api.ErrState}, {14, 14, api.ErrState},
		// One that is not live.
		{31, 0, api.ErrState}, {31, -1, api.ErrState}, {32, 0, api.ErrState}, {32, 1, api.ErrState}, {32, -1, api.ErrState}, {33, 0, api.ErrState}, {34, -1, api.ErrState}, {34, 2, api.ErrState},
		// One that is not live, to what is neither: also if it would be idle.
		{31, 31, api.ErrNone}, {31, 32, api.ErrNone}, {33, 34, api.ErrNone}, {32, 80, api.ErrNone},
	} {
		wantMay(t, x, move(99, c.node, c.parent, "k"), c.want)
		// What it does hangs on what is there now, whatever its stamp is.
		wantMay(t, x, moveBy(at(1, 0), c.node, c.parent, "k"), c.want)
		wantMay(t, x, moveBy(at(11, 1), c.node, c.parent, "k"), c.want)
	}
	wantMay(t, x, issued(at(1, 0), api.Op{Kind: api.OpMove, Node: at(1, 0), Parent: at(1, 2), Key: "k"}), api.ErrNone)
	wantMay(t, x, issued(at(1, 0), api.Op{Kind: api.OpMove, Node: at(1, 2), Parent: at(1, 1), Key: "k"}), api.OK)
}

func TestMayInAShapeWithoutNodes(t *testing.T) {
	for _, x := range []api.Shape{{}, applied(t, style(1, 1, 0, 1)), applied(t, move(1, 1, 1, "a"))} {
		wantMay(t, x, move(9, 1, 0, "a"), api.OK)
		wantMay(t, x, move(9, 1, -1, "a"), api.ErrState)
		wantMay(t, x, move(9, 1, 1, "a"), api.ErrNone)
		wantMay(t, x, move(9, 1, 2, "a"), api.ErrNone)
	}
}

// flat is n moves that put the nodes 1 to n beneath the root.
func flat(n int) []api.Op {
	var out []api.Op
	for i := 1; i <= n; i++ {
		out = append(out, move(i, i, 0, "k"))
	}
	return out
}

// row is n moves that put from+1 beneath the root, from+2 beneath that, and so on.
func row(from, n int) []api.Op {
	var out []api.Op
	for i := 1; i <= n; i++ {
		parent := from + i - 1
		if i == 1 {
			parent = 0
		}
		out = append(out, move(from+i, from+i, parent, "k"))
	}
	return out
}

func TestMayAtTheLimitOfNodes(t *testing.T) {
	dead := []api.Op{move(201, 201, -1, "k"), move(202, 202, 201, "k"), move(203, 203, 290, "k"), move(204, 290, 291, "k")}
	for n, e := range map[int]api.Errno{46: api.OK, 47: api.OK, 48: api.ErrFull, 49: api.ErrFull, 60: api.ErrFull} {
		for _, l := range [][]api.Op{flat(n), append(flat(n), dead...), append(flat(n-3), row(300, 3)...)} {
			x := plain(l...)
			// Only live nodes count, and only for a new one.
			wantMay(t, x, move(999, 999, 0, "k"), e)
			wantMay(t, x, move(999, 999, 1, "k"), e)
			wantMay(t, x, move(999, 291, 2, "k"), e)
			wantMay(t, x, move(999, 1, 0, "k"), api.OK)
			wantMay(t, x, move(999, 1, 2, "k"), api.OK)
			wantMay(t, x, move(999, 1, -1, "k"), api.OK)
			// What goes ahead of it.
			wantMay(t, x, move(999, 999, -1, "k"), api.ErrState)
			wantMay(t, x, move(999, 999, 998, "k"), api.ErrNone)
			wantMay(t, x, move(999, 999, 999, "k"), api.ErrNone)
			wantMay(t, x, move(999, 1, 1, "k"), api.ErrState)
			// When one has gone to the trash there is room for one.
			fewer := e
			if n == 48 {
				fewer = api.OK
			}
			wantMay(t, plain(append(l, move(990, 1, -1, "k"))...), move(999, 999, 0, "k"), fewer)
		}
	}
	// What becomes live with a new node does not count ahead of it.
	x := plain(append(flat(47), move(101, 101, 100, "k"), move(102, 102, 100, "k"))...)
	wantMay(t, x, move(999, 100, 0, "k"), api.OK)
	wantMay(t, applyTo(t, x, move(999, 100, 0, "k")), move(1000, 999, 0, "k"), api.ErrFull)
}

func TestMayAtTheLimitOfDepth(t *testing.T) {
	x := plain(row(0, 12)...)
	for parent := 0; parent <= 12; parent++ {
		e := api.OK
		if parent == 12 {
			e = api.ErrLimit
		}
		wantMay(t, x, move(99, 99, parent, "k"), e)
	}
	// A node with some beneath it goes as deep as the deepest of these may.
	for height := 1; height <= 12; height++ {
		x := plain(append(append(row(0, 12), row(50, height)...), move(90, 90, 51, "a"), move(91, 91, 51, "z"))...)
		deepest := max(height, 2)
		for parent := 0; parent <= 12; parent++ {
			e := api.OK
			if parent+deepest > 12 {
				e = api.ErrLimit
			}
			wantMay(t, x, move(99, 51, parent, "k"), e)
			wantMay(t, x, move(99, 90, parent, "k"), [2]api.Errno{api.OK, api.ErrLimit}[parent/12])
		}
		wantMay(t, x, move(99, 51, -1, "k"), api.OK)
	}
	// Also a new node, beneath which there are some already.
	for height := 1; height <= 12; height++ {
		l := append(row(0, 12), row(50, height)...)
		l[12].Parent = id(80)
		x := plain(l...)
		for parent := 0; parent <= 12; parent++ {
			e := api.OK
			if parent+1+height > 12 {
				e = api.ErrLimit
			}
			wantMay(t, x, move(99, 80, parent, "k"), e)
		}
		wantMay(t, x, move(99, 80, -1, "k"), api.ErrState)
	}
}

// A shape that operations of several replicas made may be deeper than one may make it.
func TestMayInAShapeThatIsTooDeep(t *testing.T) {
	x := plain(append(row(0, 20), move(50, 50, 0, "a"))...)
	for n := 1; n <= 20; n++ {
		wantMay(t, x, move(99, n, -1, "k"), api.OK)
		e := api.OK
		if 20-n+1 > 12 {
			e = api.ErrLimit
		}
		wantMay(t, x, move(99, n, 0, "k"), e)
		e = api.OK
		if 20-n+2 > 12 {
			e = api.ErrLimit
		}
		wantMay(t, x, move(99, n, 50, "k"), e)
		e = api.OK
		if n >= 12 {
			e = api.ErrLimit
		}
		wantMay(t, x, move(99, 50, n, "k"), e)
		wantMay(t, x, move(99, 99, n, "k"), e)
		wantMay(t, x, style(99, n, 0, 0), api.OK)
	}
}

func TestWhichErrorOfMayGoesFirst(t *testing.T) {
	deep := row(0, 12)
	wide := plain(slices.Concat(deep, row(100, 12), row(200, 12), row(300, 12), []api.Op{move(501, 501, -1, "k"), move(502, 502, 501, "k")})...)
	for _, c := range []struct {
		node, parent int
		want         api.Errno
	}{
		// Idle, ahead of too deep.
		{1, 12, api.ErrState}, {12, 12, api.ErrState}, {11, 12, api.ErrState},
		// Not live, ahead of too deep.
		{501, 12, api.ErrState}, {502, 12, api.ErrState}, {501, 11, api.ErrState},
		// Full, ahead of too deep.
		{999, 12, api.ErrFull}, {999, 0, api.ErrFull},
		// Too deep alone.
		{1, 101, api.ErrLimit}, {112, 12, api.ErrLimit},
		// A Parent that is neither, ahead of all.
		{1, 502, api.ErrNone}, {999, 502, api.ErrNone}, {502, 502, api.ErrNone}, {501, 502, api.ErrNone},
		// To the trash nothing is too deep, and a new node goes nowhere.
		{1, -1, api.OK}, {12, -1, api.OK}, {999, -1, api.ErrState}, {502, -1, api.ErrState},
	} {
		wantMay(t, wide, move(999, c.node, c.parent, "k"), c.want)
	}
}

// plainMay is what the document says, for a valid shape and a valid operation.
func plainMay(x api.Shape, o api.Op) api.Errno {
	nodes := map[api.Stamp]api.Node{}
	for _, n := range x.Tree.Nodes {
		nodes[n.ID] = n
	}
	live := func(s api.Stamp) bool {
		up := chain(nodes, s)
		return up[len(up)-1] == id(0)
	}
	_, there := nodes[o.Node]
	if o.Kind == api.OpStyle {
		return [2]api.Errno{api.ErrNone, api.OK}[one(there)]
	}
	alive, height := 0, 1
	for _, n := range x.Tree.Nodes {
		alive += one(live(n.ID))
		height = max(height, slices.Index(chain(nodes, n.ID), o.Node)+1)
	}
	up := chain(nodes, o.Parent)
	switch {
	case o.Parent != id(-1) && !live(o.Parent):
		return api.ErrNone
	case there && (slices.Contains(up, o.Node) || !live(o.Node)), !there && o.Parent == id(-1):
		return api.ErrState
	case !there && alive >= 48:
		return api.ErrFull
	case live(o.Parent) && len(up)-1+1+height > 13:
		return api.ErrLimit
	}
	return api.OK
}

func one(is bool) int {
	if is {
		return 1
	}
	return 0
}

func TestMayInAllSmallShapes(t *testing.T) {
	seen := map[api.Errno]int{}
	eachList(3, 3, 4, func(l []api.Op) {
		x := plain(l...)
		for node := 1; node <= 4; node++ {
			for parent := -1; parent <= 5; parent++ {
				o := move(9, node, parent, "k")
				seen[plainMay(x, o)]++
				wantMay(t, x, o, plainMay(x, o))
			}
			wantMay(t, x, style(9, node, 0, 0), plainMay(x, style(9, node, 0, 0)))
		}
	})
	for _, e := range []api.Errno{api.OK, api.ErrNone, api.ErrState} {
		if seen[e] < 10000 {
			t.Errorf("only %d times %d", seen[e], e)
		}
	}
}

func TestMayInManyShapes(t *testing.T) {
	seen := map[api.Errno]int{}
	for seed := range uint64(40) {
		// Long rows beside one another, or many nodes beneath the root, of which some are moved; or what comes.
		nodes := 60
		l := slices.Concat(row(0, 8+int(seed%16)), row(30, 6+int(seed%7)), row(44, int(seed%13)), wild(seed, int(seed%20), nodes))
		switch seed % 4 {
		case 0:
			l = wild(seed, 60+int(seed), nodes)
		case 1:
			l = append(flat(46+int(seed%10)), wild(seed, int(seed%20), nodes)...)
		}
		x := plain(l...)
		for _, word := range spread(seed+500, 150) {
			node, parent := 1+int(word%uint64(nodes+4)), int(word>>16%uint64(nodes+3))-1
			o := move(9999, node, parent, "k")
			seen[plainMay(x, o)]++
			wantMay(t, x, o, plainMay(x, o))
		}
	}
	for _, e := range []api.Errno{api.OK, api.ErrNone, api.ErrState, api.ErrLimit, api.ErrFull} {
		if seen[e] < 40 {
			t.Errorf("only %d times %d", seen[e], e)
		}
	}
}

// P17.4

// eachOrder calls visit with all orders of ops.
func eachOrder(ops []api.Op, visit func([]api.Op)) {
	var from func(done int)
	from = func(done int) {
		if done == len(ops) {
			visit(ops)
		}
		for i := done; i < len(ops); i++ {
			ops[done], ops[i] = ops[i], ops[done]
			from(done + 1)
			ops[done], ops[i] = ops[i], ops[done]
		}
	}
	from(0)
}

// eachList calls visit with all lists of n moves of the nodes 1 to nodes, beneath the places up to parents, at the times 1 to n.
func eachList(n, nodes, parents int, visit func([]api.Op)) {
	var l []api.Op
	var from func(time int)
	from = func(time int) {
		if time > n {
			visit(l)
			return
		}
		for node := 1; node <= nodes; node++ {
			for parent := -1; parent <= parents; parent++ {
				l = append(l, move(time, node, parent, string(rune('a'+time))))
				from(time + 1)
				l = l[:len(l)-1]
			}
		}
	}
	from(1)
}

// wild returns n operations of few nodes, no two with the same stamp; one of four is a style.
func wild(seed uint64, n, nodes int) []api.Op {
	var out []api.Op
	for i, word := range spread(seed, n) {
		s, node := at(1001+i/5, i%5), 1+int(word%uint64(nodes))
		if word>>48%4 == 0 {
			out = append(out, styleBy(s, node, int(word>>16%3), int(word>>20%2)))
			continue
		}
		parent := int(word>>16%uint64(nodes+3)) - 1
		if word>>32%3 == 0 {
			parent = 0
		}
		out = append(out, moveBy(s, node, parent, string(rune('a'+word>>40%4))))
	}
	return out
}

func shuffled(seed uint64, ops []api.Op) []api.Op {
	out := slices.Clone(ops)
	for i, word := range spread(seed, len(out)) {
		j := int(word % uint64(i+1))
		out[i], out[j] = out[j], out[i]
	}
	return out
}

func wantSameInOrder(t *testing.T, ops []api.Op, want api.Shape) {
	t.Helper()
	if got := applied(t, ops...); !same(got, want) {
		t.Fatalf("%+v: %+v, want %+v", ops, got, want)
	}
}

func TestAllOrdersOfAFewOperations(t *testing.T) {
	for _, l := range [][]api.Op{
		{move(1, 1, 0, "a"), move(2, 2, 1, "b"), move(3, 1, 2, "c"), style(4, 1, 9, 4), style(5, 1, 9, 5), style(6, 2, 9, 6)},
		{style(1, 1, 9, 1), style(2, 1, 9, 2), style(3, 1, 9, 3), style(4, 1, 2, 1), style(5, 2, 9, 5), style(6, 3, 9, 6)},
		{styleBy(at(1, 0), 1, 9, 1), styleBy(at(1, 1), 1, 9, 2), styleBy(at(1, 2), 1, 9, 3), moveBy(at(1, 3), 1, 2, "a"), moveBy(at(1, 4), 2, 1, "b"), moveBy(at(1, 5), 1, -1, "c")},
		some()[6:12],
	} {
		want := plain(l...)
		wantCheck(t, want, api.OK)
		eachOrder(slices.Clone(l), func(ops []api.Op) { wantSameInOrder(t, ops, want) })
	}
}

func TestManyOrdersOfManyOperations(t *testing.T) {
	idle, looks := 0, 0
	for seed := range uint64(20) {
		l := wild(seed, 60, 2+int(seed))
		want := plain(l...)
		wantCheck(t, want, api.OK)
		for _, m := range want.Tree.Moves {
			idle += one(m.Idle)
		}
		looks += len(want.Looks)
		for run := range uint64(5) {
			wantSameInOrder(t, shuffled(100*seed+run, l), want)
		}
	}
	if idle < 60 || looks < 100 {
		t.Errorf("%d moves were idle, there were %d looks", idle, looks)
	}
}

// At each step the shape is that of the operations that are there by then.
func TestEachStepOfManyOperations(t *testing.T) {
	for seed := range uint64(6) {
		l := shuffled(seed, wild(seed+50, 50, 6))
		var x api.Shape
		for i, o := range l {
			want := plain(l[:i+1]...)
			wantApply(t, x, o, want)
			if there := l[i/2]; there.Kind == api.OpMove {
				wantApplyRefused(t, want, there, api.ErrThere)
			} else {
				wantApply(t, want, there, want)
			}
			x = want
		}
		for n := -1; n < 8; n++ {
			var regs []api.Reg
			for _, k := range x.Looks {
				if k.ID == id(n) {
					regs = k.Regs
				}
			}
			wantLook(t, x, id(n), regs, api.OK)
		}
	}
}

// R1 and R2

func spaciousOp(o api.Op) api.Op {
	return changed(o, func(o *api.Op) { o.Deps = append(o.Deps, 77, 78)[:len(o.Deps)] })
}

// spacious returns x in memory of its own, with others in the spare capacity of each list.
func spacious(x api.Shape) api.Shape {
	out := apart(x)
	out.Tree.Nodes = append(out.Tree.Nodes, api.Node{ID: id(7)}, api.Node{ID: id(8)})[:len(x.Tree.Nodes)]
	out.Tree.Moves = append(out.Tree.Moves, api.Entry{Key: "7"}, api.Entry{Key: "8"})[:len(x.Tree.Moves)]
	for i, m := range out.Tree.Moves {
		out.Tree.Moves[i].Op = spaciousOp(m.Op)
	}
	out.Looks = append(out.Looks, look(id(7)), look(id(8)))[:len(x.Looks)]
	for i, l := range out.Looks {
		out.Looks[i].Regs = append(l.Regs, api.Reg{Prop: 7}, api.Reg{Prop: 8})[:len(l.Regs)]
	}
	return out
}

func wantUntouchedOp(t *testing.T, o, got api.Op) {
	t.Helper()
	if !sameOp(o, got) || !slices.Equal(got.Deps[len(got.Deps):len(got.Deps)+2], []int{77, 78}) {
		t.Errorf("%+v is now %+v", o, got)
	}
}

// wantUntouched wants that got, made from x by spacious, is as it was made.
func wantUntouched(t *testing.T, x, got api.Shape) {
	t.Helper()
	if !same(x, got) {
		t.Errorf("%+v is now %+v", x, got)
		return
	}
	nodes, moves, looks := got.Tree.Nodes, got.Tree.Moves, got.Looks
	nodes, moves, looks = nodes[len(nodes):len(nodes)+2], moves[len(moves):len(moves)+2], looks[len(looks):len(looks)+2]
	if nodes[0].ID != id(7) || nodes[1].ID != id(8) || moves[0].Key != "7" || moves[1].Key != "8" || looks[0].ID != id(7) || looks[1].ID != id(8) {
		t.Errorf("behind %+v: %+v, %+v, %+v", x, nodes, moves, looks)
	}
	for i, m := range got.Tree.Moves {
		wantUntouchedOp(t, x.Tree.Moves[i].Op, m.Op)
	}
	for _, l := range got.Looks {
		if more := l.Regs[len(l.Regs) : len(l.Regs)+2]; more[0].Prop != 7 || more[1].Prop != 8 {
			t.Errorf("behind the registers of %v: %+v", l.ID, more)
		}
	}
}

// someShapes are valid ones and such as are not.
func someShapes() []api.Shape {
	var out []api.Shape
	for _, l := range goodLists() {
		out = append(out, plain(l...))
	}
	for seed := range uint64(5) {
		out = append(out, plain(wild(seed+20, 15, 5)...))
	}
	for i, x := range badShapes() {
		if i%17 == 0 {
			out = append(out, x)
		}
	}
	return out
}

// newcomers are operations for any of the shapes: ahead of all, between two, behind all, there already, for a look and for none; and two that are not valid.
func newcomers() []api.Op {
	return []api.Op{
		moveBy(at(1, 9), 1, 3, "n"), moveBy(at(17, 9), 40, 2, "n"), moveBy(at(api.MaxTime, 15), 1, 40, "n"), move(11, 1, 0, "b"),
		styleBy(at(1, 9), 2, 9, 3), styleBy(at(50, 9), 2, 9, 3), styleBy(at(50, 9), 2, 4, 3), styleBy(at(1, 9), 3, 9, 3), styleBy(at(1, 9), 80, 9, 3),
		changed(move(3, 1, 0, "b"), func(o *api.Op) { o.Seq++ }), changed(style(3, 1, 0, 0), func(o *api.Op) { o.Seq++ }),
	}
}

func TestArgumentsAreNotChanged(t *testing.T) {
	for _, x := range someShapes() {
		for _, o := range newcomers() {
			given, o2 := spacious(x), spaciousOp(o)
			Check(given)
			Apply(given, o2)
			May(given, o2)
			for n := -1; n < 10; n++ {
				Look(given, id(n))
				Slot(given, id(n), id(0))
				Slot(given, id(0), id(n))
			}
			wantUntouched(t, x, given)
			wantUntouchedOp(t, o, o2)
		}
	}
}

func overwrite(l []int) {
	l = l[:cap(l)]
	for i := range l {
		l[i] = -9
	}
}

func overwriteRegs(l []api.Reg) {
	l = l[:cap(l)]
	for i := range l {
		l[i] = api.Reg{Prop: -9, Value: -9}
	}
}

// writes are ways to write into a shape's lists, their spare capacity among them: one list each.
func writes(x api.Shape) []func() {
	out := []func(){
		func() { clear(x.Tree.Nodes[:cap(x.Tree.Nodes)]) },
		func() { clear(x.Tree.Moves[:cap(x.Tree.Moves)]) },
		func() { clear(x.Looks[:cap(x.Looks)]) },
	}
	for _, m := range x.Tree.Moves {
		out = append(out, func() { overwrite(m.Op.Deps) })
	}
	for _, l := range x.Looks {
		out = append(out, func() { overwriteRegs(l.Regs) })
	}
	return out
}

// wantOthers wants that got is want but for the list that was written into, that of number at.
func wantOthers(t *testing.T, got, want api.Shape, at int) {
	t.Helper()
	ok := at == 0 || slices.Equal(got.Tree.Nodes, want.Tree.Nodes)
	for i, m := range got.Tree.Moves {
		was := want.Tree.Moves[i]
		ok = ok && (at == 1 || (at == 3+i || sameOp(m.Op, was.Op)) && m.Was == was.Was && m.Parent == was.Parent && m.Key == was.Key)
	}
	for i, l := range got.Looks {
		was := want.Looks[i]
		ok = ok && (at == 2 || l.ID == was.ID && (at == 3+len(got.Tree.Moves)+i || slices.Equal(l.Regs, was.Regs)))
	}
	if !ok {
		t.Errorf("list %d shares memory with another one of %+v", at, want)
	}
}

func TestAnswersOfApplyAreNewMemory(t *testing.T) {
	for _, x := range someShapes() {
		for _, o := range newcomers() {
			want, e := Apply(x, o)
			if e != api.OK {
				continue
			}
			for at := range writes(want) {
				given, o2 := spacious(x), spaciousOp(o)
				got, _ := Apply(given, o2)
				again, _ := Apply(given, o2)
				writes(got)[at]()
				wantUntouched(t, x, given)
				wantUntouchedOp(t, o, o2)
				wantOthers(t, got, want, at)
				if !same(again, want) {
					t.Errorf("two answers share memory: %+v", want)
				}
				// Nor is what is handed in kept.
				for _, write := range append(writes(given), func() { overwrite(o2.Deps) }) {
					write()
				}
				if !same(again, want) {
					t.Errorf("an answer shares memory with what was handed in: %+v", want)
				}
			}
		}
	}
}

func TestAnswersOfLookAreNewMemory(t *testing.T) {
	for _, x := range someShapes() {
		for n := -1; n < 60; n++ {
			given := spacious(x)
			got, _ := Look(given, id(n))
			want := slices.Clone(got)
			again, _ := Look(given, id(n))
			overwriteRegs(again)
			wantUntouched(t, x, given)
			for _, write := range writes(given) {
				write()
			}
			if !slices.Equal(got, want) {
				t.Errorf("registers share memory: %v, want %v", got, want)
			}
		}
	}
}

func TestEqualCallsGiveEqualResults(t *testing.T) {
	for _, x := range someShapes() {
		for _, o := range newcomers() {
			first, e := Apply(x, o)
			may := May(x, o)
			for range 4 {
				y, p := apart(x), changed(o, func(*api.Op) {})
				if again, f := Apply(y, p); !same(first, again) || e != f || May(y, p) != may {
					t.Errorf("Apply(%+v, %+v): %+v, %d, then %+v, %d", x, o, first, e, again, f)
				}
			}
		}
		for n := -1; n < 10; n++ {
			first, e := Slot(x, id(n), id(0))
			if again, f := Slot(apart(x), id(n), id(0)); first != again || e != f {
				t.Errorf("Slot(%+v, %v): %q, %d, then %q, %d", x, id(n), first, e, again, f)
			}
		}
	}
}

func TestLargeInputs(t *testing.T) {
	const n = 1 << 12
	// One node beneath the other, each with a look.
	x := plain(row(0, n)...)
	for i := 1; i <= n; i++ {
		x.Looks = append(x.Looks, look(id(i), reg1(i)))
	}
	wantCheck(t, x, api.OK)
	wantMay(t, x, move(n+1, n+1, n, "z"), api.ErrFull)
	wantMay(t, x, move(n+1, 1, n, "z"), api.ErrState)
	wantMay(t, x, move(n+1, 2, 0, "z"), api.ErrLimit)
	wantMay(t, x, move(n+1, n, 0, "z"), api.OK)
	wantLook(t, x, id(n/2), []api.Reg{reg1(n / 2)}, api.OK)
	if got, e := Apply(x, style(n+1, n+1, api.PropGrow, n+1)); e != api.OK || len(got.Looks) != n+1 || len(got.Tree.Nodes) != n {
		t.Errorf("%d looks of %d: %d", len(got.Looks), n+1, e)
	}
	// Many beneath one place.
	x = plain(flat(n)...)
	wantSlot(t, x, id(0), id(n/2), "", api.ErrFull)
	wantSlot(t, x, id(0), id(0), "\xb5", api.OK)
	// What is wrong at the end of much.
	x.Looks = append(x.Looks, make([]api.Look, 1<<16)...)
	wantApplyRefused(t, x, move(n+1, 1, 0, "a"), api.ErrForm)
	long := changed(move(1, 1, 0, "a"), func(o *api.Op) { o.Key = strings.Repeat("k", 1<<24) })
	if got, e := Apply(api.Shape{}, long); e != api.ErrForm || !isZero(got) {
		t.Errorf("a long key: %d", e)
	}
	if e := May(api.Shape{}, long); e != api.ErrForm {
		t.Errorf("a long key: %d", e)
	}
}
