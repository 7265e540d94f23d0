package look

import (
	"cmp"
	"math"
	"slices"
	"strings"
	"testing"

	"arras/api"
	"arras/tree"
)

// spread returns n words, the same in every run.
func spread(seed uint64, n int) []uint64 {
	out := make([]uint64, n)
	for i := range out {
		seed = seed*6364136223846793005 + 1442695040888963407
		out[i] = seed>>17 ^ seed<<29
	}
	return out
}

func at(time, rep int) api.Stamp {
	return api.Stamp{Time: time, Rep: rep}
}

// id tells the places of small numbers: 0 is the root, -1 the trash; any other is a node's.
func id(n int) api.Stamp {
	switch n {
	case 0:
		return at(0, 0)
	case -1:
		return at(0, 1)
	}
	return at(n, n%3)
}

// issued returns an operation with that stamp, and with Deps that tell it; what it does is left to be told.
func issued(s api.Stamp, o api.Op) api.Op {
	o.Stamp = s
	for rep := range min(s.Rep+2, 16) {
		o.Deps = append(o.Deps, s.Time%1000+rep)
	}
	o.Seq = o.Deps[s.Rep] + 1
	return o
}

// moveBy is a move with that stamp of the place with the number node, beneath that with the number parent.
func moveBy(s api.Stamp, node, parent int, key string) api.Op {
	return issued(s, api.Op{Kind: api.OpMove, Node: id(node), Parent: id(parent), Key: key})
}

func move(time, node, parent int, key string) api.Op {
	return moveBy(at(time, time%5), node, parent, key)
}

// styleBy is a style with that stamp of the node with that number.
func styleBy(s api.Stamp, node, prop, value int) api.Op {
	return issued(s, api.Op{Kind: api.OpStyle, Node: id(node), Prop: prop, Value: value})
}

func style(time, node, prop, value int) api.Op {
	return styleBy(at(time, time%5), node, prop, value)
}

// hidden is a style of the node with that number, by which it is not shown.
func hidden(time, node int) api.Op {
	return style(time, node, api.PropDisplay, api.DispNone)
}

// apart returns x in memory of its own.
func apart(x api.Shape) api.Shape {
	out := api.Shape{Tree: api.Tree{Nodes: slices.Clone(x.Tree.Nodes), Moves: slices.Clone(x.Tree.Moves)}, Looks: slices.Clone(x.Looks)}
	for i, m := range out.Tree.Moves {
		out.Tree.Moves[i].Op.Deps = slices.Clone(m.Op.Deps)
	}
	for i, l := range out.Looks {
		out.Looks[i].Regs = slices.Clone(l.Regs)
	}
	return out
}

// with is a copy of x with a change.
func with(x api.Shape, change func(x *api.Shape)) api.Shape {
	out := apart(x)
	change(&out)
	return out
}

// order is by Time, then by Rep.
func order(a, b api.Stamp) int {
	if a.Time != b.Time {
		return cmp.Compare(a.Time, b.Time)
	}
	return cmp.Compare(a.Rep, b.Rep)
}

// chain is a place, if it is a node its Parent, and so on.
func chain(nodes map[api.Stamp]api.Node, place api.Stamp) []api.Stamp {
	out := []api.Stamp{place}
	for {
		n, there := nodes[out[len(out)-1]]
		if !there {
			return out
		}
		out = append(out, n.Parent)
	}
}

// performed is the tree of moves by their stamps.
func performed(moves []api.Op) api.Tree {
	slices.SortFunc(moves, func(a, b api.Op) int { return order(a.Stamp, b.Stamp) })
	nodes := map[api.Stamp]api.Node{}
	var out api.Tree
	for _, o := range moves {
		old, was := nodes[o.Node]
		idle := slices.Contains(chain(nodes, o.Parent), o.Node)
		o.Deps = slices.Clone(o.Deps)
		out.Moves = append(out.Moves, api.Entry{Op: o, Was: was, Parent: old.Parent, Key: old.Key, Idle: idle})
		if !idle {
			nodes[o.Node] = api.Node{ID: o.Node, Parent: o.Parent, Key: o.Key}
		}
	}
	for _, n := range nodes {
		out.Nodes = append(out.Nodes, n)
	}
	slices.SortFunc(out.Nodes, func(a, b api.Node) int { return order(a.ID, b.ID) })
	return out
}

// put puts a register into the looks of which each node's is a list of all properties, unless there is a later one.
func put(looks map[api.Stamp][]api.Reg, o api.Op) {
	if looks[o.Node] == nil {
		looks[o.Node] = make([]api.Reg, api.Props)
	}
	if r := &looks[o.Node][o.Prop]; order(r.Stamp, o.Stamp) < 0 {
		*r = api.Reg{Prop: o.Prop, Value: o.Value, Stamp: o.Stamp}
	}
}

// grown is the shape of these operations, as the document says.
func grown(ops ...api.Op) api.Shape {
	var moves []api.Op
	looks := map[api.Stamp][]api.Reg{}
	for _, o := range ops {
		if o.Kind == api.OpMove {
			moves = append(moves, o)
		} else {
			put(looks, o)
		}
	}
	out := api.Shape{Tree: performed(moves)}
	for node, regs := range looks {
		regs = slices.DeleteFunc(regs, func(r api.Reg) bool { return r.Stamp.Time == 0 })
		out.Looks = append(out.Looks, api.Look{ID: node, Regs: regs})
	}
	slices.SortFunc(out.Looks, func(a, b api.Look) int { return order(a.ID, b.ID) })
	return out
}

// row is n nodes, the first one beneath the root and each beneath the one ahead of it, by the numbers from + 1 on.
func row(from, n int) []api.Op {
	var out []api.Op
	for i := 1; i <= n; i++ {
		parent := from + i - 1
		if i == 1 {
			parent = 0
		}
		out = append(out, move(from+i, from+i, parent, "k"))
	}
	return out
}

// flat is n nodes beneath the root, by the numbers from 1 on.
func flat(n int) []api.Op {
	var out []api.Op
	for i := 1; i <= n; i++ {
		out = append(out, move(i, i, 0, "k"))
	}
	return out
}

// some is operations with all that may be: nodes beneath the root, the trash, one another and a place without a node, some moved, one idle move; and styles of nodes that are live, that are not, and of none.
func some() []api.Op {
	return []api.Op{
		move(11, 1, 0, "b"), move(12, 2, 1, "a"), style(13, 2, api.PropGrow, 5), move(14, 3, 2, "ab"), style(15, 1, api.PropWrap, 1), style(16, 50, api.PropFont, 640),
		move(17, 5, -1, "b"), move(18, 6, 90, "c"), style(19, 5, api.PropGrow, 9), style(20, 2, api.PropColor, 0), move(21, 1, 3, "x"), style(22, 2, api.PropGrow, 7),
		move(23, 7, 0, strings.Repeat("k", 64)), style(24, 3, api.PropDisplay, 2), move(25, 3, 1, "c"), style(26, 6, api.PropWidth, -1), style(27, 1, api.PropColor, 6),
		move(28, 8, 7, "a"), move(29, 9, 7, "a"), style(30, 7, api.PropFont, 64), move(31, 10, 5, "a"), style(32, 10, api.PropColor, 3),
	}
}

// goodLists are lists of operations, no two with the same stamp.
func goodLists() [][]api.Op {
	return [][]api.Op{
		nil,
		{},
		{move(1, 1, 0, "a")},
		{style(1, 1, api.PropColor, 1)},
		{move(1, 1, 1, "a")},
		{move(1, 1, 0, "a"), style(2, 1, api.PropColor, 1)},
		{move(1, 1, 0, "a"), style(2, 2, api.PropFont, 99)},
		{style(1, 4, 0, 1), style(2, 2, 18, 64), style(3, 3, 9, 0), style(4, 3, 1, 0)},
		{move(1, 1, 2, "a"), move(2, 2, 1, "b"), style(3, 2, 2, 1), style(4, 2, 2, 0), style(5, 2, 2, 1)},
		row(0, 16),
		flat(7),
		some(),
	}
}

// badShapes are not valid, for one reason each.
func badShapes() []api.Shape {
	var out []api.Shape
	good := api.Reg{Prop: api.PropGrow, Value: 3, Stamp: at(3, 0)}
	for _, l := range goodLists() {
		x := grown(l...)
		for _, regs := range [][]api.Reg{nil, {}, {{}}, {good, good}, {good, {Prop: 2, Value: 1, Stamp: at(1, 1)}}, {{Prop: api.Props, Stamp: at(1, 1)}}, {{Prop: -1, Stamp: at(1, 1)}}, {{Prop: api.PropGrow, Value: -1, Stamp: at(1, 1)}}, {{Prop: api.PropFont, Stamp: at(1, 1)}}, {{Prop: 1, Value: 1}}, {{Prop: 1, Value: 1, Stamp: at(1, 16)}}} {
			out = append(out, with(x, func(x *api.Shape) { x.Looks = append(x.Looks, api.Look{ID: id(60), Regs: regs}) }))
		}
		for _, s := range []api.Stamp{id(0), id(-1), at(-1, 0), at(0, 2), at(api.MaxTime+1, 0), at(70, 16), at(70, -1)} {
			place := 0
			for place < len(x.Looks) && order(x.Looks[place].ID, s) < 0 {
				place++
			}
			out = append(out, with(x, func(x *api.Shape) {
				x.Looks = slices.Insert(x.Looks, place, api.Look{ID: s, Regs: []api.Reg{good}})
			}))
		}
		out = append(out, with(x, func(x *api.Shape) { x.Tree.Nodes = append(x.Tree.Nodes, api.Node{ID: id(99), Key: "a"}) }))
		if len(x.Looks) > 0 {
			out = append(out, with(x, func(x *api.Shape) { x.Looks = append(x.Looks, x.Looks[0]) }))
		}
		if len(x.Tree.Moves) > 0 {
			out = append(out,
				with(x, func(x *api.Shape) { x.Tree.Moves[0].Was = true }),
				with(x, func(x *api.Shape) { x.Tree.Moves[0].Op.Seq++ }),
				with(x, func(x *api.Shape) { x.Tree.Moves = append(x.Tree.Moves, x.Tree.Moves[0]) }),
			)
		}
		if len(x.Tree.Nodes) > 0 {
			out = append(out,
				with(x, func(x *api.Shape) { x.Tree.Nodes = nil }),
				with(x, func(x *api.Shape) { x.Tree.Nodes[0].Key += "a" }),
			)
		}
	}
	return out
}

// rule is the least and the greatest value of a property, its default value, and whether it is inherited.
type rule struct {
	low, high, usual int
	goes             bool
}

// rules are those of the document's table, in the order of the properties.
func rules() []rule {
	return []rule{
		{0, 2, 0, false}, {0, 1, 0, false}, {0, 1, 0, false},
		{-1, 1 << 40, -1, false}, {-1, 1 << 40, -1, false},
		{0, 1 << 40, 0, false}, {-1, 1 << 40, -1, false}, {0, 1 << 40, 0, false}, {-1, 1 << 40, -1, false},
		{0, 1 << 20, 0, false}, {0, 1 << 20, 1, false}, {-1, 1 << 40, -1, false},
		{0, 1 << 30, 0, false}, {0, 1 << 30, 0, false}, {0, 1 << 30, 0, false},
		{0, 4, 0, false}, {0, 3, 0, false},
		{0, 1<<24 - 1, 0, true}, {64, 64000, 1024, true},
	}
}

// usual returns all default values but for those that are told, a property and its value each.
func usual(told ...[2]int) []int {
	var out []int
	for _, r := range rules() {
		out = append(out, r.usual)
	}
	for _, c := range told {
		out[c[0]] = c[1]
	}
	return out
}

// box is a box with all default values but for those that are told.
func box(n int, kids ...api.Box) api.Box {
	return api.Box{ID: id(n), Style: api.Style{Values: usual()}, Kids: kids}
}

func styled(b api.Box, told ...[2]int) api.Box {
	b.Style.Values = usual(told...)
	return b
}

func nodesOf(x api.Shape) map[api.Stamp]api.Node {
	out := map[api.Stamp]api.Node{}
	for _, n := range x.Tree.Nodes {
		out[n.ID] = n
	}
	return out
}

func isLive(nodes map[api.Stamp]api.Node, place api.Stamp) bool {
	up := chain(nodes, place)
	return up[len(up)-1] == id(0)
}

func regsOf(x api.Shape, s api.Stamp) []api.Reg {
	for _, l := range x.Looks {
		if l.ID == s {
			return l.Regs
		}
	}
	return nil
}

// plainValues is the computed style of a live place, as the document says.
func plainValues(x api.Shape, s api.Stamp) []int {
	out := usual()
	if s == id(0) {
		return out
	}
	above := plainValues(x, nodesOf(x)[s].Parent)
	for p, r := range rules() {
		if r.goes {
			out[p] = above[p]
		}
	}
	for _, r := range regsOf(x, s) {
		out[r.Prop] = r.Value
	}
	return out
}

// plainBox is the box of a live place that many levels beneath the root.
func plainBox(x api.Shape, s api.Stamp, levels int) api.Box {
	out := api.Box{ID: s, Style: api.Style{Values: plainValues(x, s)}}
	var kids []api.Node
	for _, n := range x.Tree.Nodes {
		if n.Parent == s && levels < 12 {
			kids = append(kids, n)
		}
	}
	slices.SortFunc(kids, func(a, b api.Node) int { return cmp.Or(strings.Compare(a.Key, b.Key), order(a.ID, b.ID)) })
	for _, n := range kids {
		if k := plainBox(x, n.ID, levels+1); k.Style.Values[api.PropDisplay] != api.DispNone {
			out.Kids = append(out.Kids, k)
		}
	}
	return out
}

func plainCount(b api.Box) int {
	n := 1
	for _, k := range b.Kids {
		n += plainCount(k)
	}
	return n
}

func sameBox(a, b api.Box) bool {
	return a.ID == b.ID && slices.Equal(a.Style.Values, b.Style.Values) && slices.EqualFunc(a.Kids, b.Kids, sameBox)
}

func same(a, b api.Shape) bool {
	return slices.Equal(a.Tree.Nodes, b.Tree.Nodes) && slices.EqualFunc(a.Tree.Moves, b.Tree.Moves, func(x, y api.Entry) bool {
		p, q := x.Op, y.Op
		ok := p.Stamp == q.Stamp && p.Seq == q.Seq && slices.Equal(p.Deps, q.Deps) && p.Kind == q.Kind && p.Node == q.Node && p.Parent == q.Parent && p.Key == q.Key && p.Prop == q.Prop && p.Value == q.Value
		return ok && x.Was == y.Was && x.Parent == y.Parent && x.Key == y.Key && x.Idle == y.Idle
	}) && slices.EqualFunc(a.Looks, b.Looks, func(x, y api.Look) bool { return x.ID == y.ID && slices.Equal(x.Regs, y.Regs) })
}

func wantStyle(t *testing.T, x api.Shape, s api.Stamp, want []int) {
	t.Helper()
	if got, e := Style(x, s); e != api.OK || !slices.Equal(got.Values, want) {
		t.Errorf("Style(%+v, %v): %v, %d, want %v", x, s, got.Values, e, want)
	}
}

func wantStyleRefused(t *testing.T, x api.Shape, s api.Stamp, e api.Errno) {
	t.Helper()
	if got, gotE := Style(x, s); gotE != e || len(got.Values) != 0 {
		t.Errorf("Style(%+v, %v): %v, %d, want %d alone", x, s, got.Values, gotE, e)
	}
}

func wantBoxes(t *testing.T, x api.Shape, want api.Box) {
	t.Helper()
	if got, e := Boxes(x); e != api.OK || !sameBox(got, want) {
		t.Errorf("Boxes(%+v): %+v, %d, want %+v", x, got, e, want)
	}
}

func wantBoxesRefused(t *testing.T, x api.Shape) {
	t.Helper()
	if got, e := Boxes(x); e != api.ErrForm || !sameBox(got, api.Box{}) {
		t.Errorf("Boxes(%+v): %+v, %d, want ErrForm alone", x, got, e)
	}
}

// wantCount wants that b is valid, and has so many boxes.
func wantCount(t *testing.T, b api.Box, want int) {
	t.Helper()
	if got, e := Count(b); got != want || e != api.OK {
		t.Errorf("Count: %d, %d, want %d", got, e, want)
	}
	if e := Check(b); e != api.OK {
		t.Errorf("Check: %d", e)
	}
}

func wantNoBox(t *testing.T, what string, b api.Box) {
	t.Helper()
	if got, e := Count(b); got != 0 || e != api.ErrForm {
		t.Errorf("Count, %s: %d, %d, want ErrForm alone", what, got, e)
	}
	if e := Check(b); e != api.ErrForm {
		t.Errorf("Check, %s: %d, want ErrForm", what, e)
	}
}

// P18.1: Style.

func TestStyleOfTheRoot(t *testing.T) {
	for _, l := range goodLists() {
		wantStyle(t, grown(l...), id(0), usual())
	}
	wantStyle(t, api.Shape{}, id(0), []int{0, 0, 0, -1, -1, 0, -1, 0, -1, 0, 1, -1, 0, 0, 0, 0, 0, 0, 1024})
}

func TestStyleOfANodeWithoutALook(t *testing.T) {
	wantStyle(t, grown(move(1, 1, 0, "a")), id(1), usual())
	x := grown(move(1, 2, 0, "a"), move(2, 4, 2, "b"), style(3, 1, api.PropColor, 7), style(4, 3, api.PropGrow, 7), style(5, 5, api.PropFont, 77))
	wantStyle(t, x, id(2), usual())
	wantStyle(t, x, id(4), usual())
}

// values are those of a property that are held against its neighbours: the ends and the default.
func values(r rule) []int {
	return []int{r.low, r.high, r.usual, r.low + 1}
}

// Each property is set by each node of a row of five, with a further one beside: by itself, its parent, or one far above; ahead of the one that sets it, and beside it, there is the default.
func TestStyleOfWhatIsSetByWhom(t *testing.T) {
	for p, r := range rules() {
		for _, value := range values(r) {
			for by := 1; by <= 5; by++ {
				x := grown(append(row(0, 5), move(6, 6, 0, "k"), move(7, 7, 2, "k"), style(8, by, p, value))...)
				for n := 0; n <= 7; n++ {
					want := usual()
					beneath := n > by && n <= 5 || n == 7 && by <= 2
					if n == by || r.goes && beneath {
						want[p] = value
					}
					wantStyle(t, x, id(n), want)
				}
			}
		}
	}
}

// Of two that set a property the nearer one tells, also by the default value.
func TestStyleOfWhatIsSetTwice(t *testing.T) {
	for p, r := range rules() {
		for _, c := range [][2]int{{r.low, r.high}, {r.high, r.low}, {r.high, r.usual}, {r.usual, r.high}} {
			for upper := 1; upper < 4; upper++ {
				for lower := upper + 1; lower <= 4; lower++ {
					// The upper one's stamp is above the other's, and below it.
					early, late := style(11, upper, p, c[0]), style(12, lower, p, c[1])
					if upper%2 == 0 {
						early, late = style(12, upper, p, c[0]), style(11, lower, p, c[1])
					}
					x := grown(append(row(0, 5), early, late)...)
					for n := 0; n <= 5; n++ {
						want := usual()
						switch {
						case n == lower || r.goes && n > lower:
							want[p] = c[1]
						case n == upper || r.goes && n > upper:
							want[p] = c[0]
						}
						wantStyle(t, x, id(n), want)
					}
				}
			}
		}
	}
}

func TestStyleOfANodeThatSetsAll(t *testing.T) {
	var low, high []api.Op
	var lows, highs, kids []int
	for p, r := range rules() {
		low, high = append(low, style(10+p, 1, p, r.low)), append(high, style(40+p, 1, p, r.high))
		lows, highs, kids = append(lows, r.low), append(highs, r.high), append(kids, r.usual)
		if r.goes {
			kids[p] = r.high
		}
	}
	moves := []api.Op{move(1, 1, 0, "a"), move(2, 2, 1, "a")}
	wantStyle(t, grown(slices.Concat(moves, low)...), id(1), lows)
	x := grown(slices.Concat(moves, low, high)...)
	wantStyle(t, x, id(1), highs)
	wantStyle(t, x, id(2), kids)
	x = grown(slices.Concat(moves, high, low, []api.Op{style(70, 2, api.PropColor, 5), style(71, 2, api.PropGrow, 6)})...)
	kids[api.PropColor], kids[api.PropGrow] = 5, 6
	wantStyle(t, x, id(2), kids)
}

// A node that is not shown, or is beneath such a one, has a style, and so has one that is deeper than boxes go.
func TestStyleOfWhatHasNoBox(t *testing.T) {
	x := grown(append(row(0, 20), hidden(31, 3), style(32, 3, api.PropColor, 8), style(33, 20, api.PropGap, 4))...)
	wantStyle(t, x, id(2), usual())
	wantStyle(t, x, id(3), usual([2]int{api.PropDisplay, api.DispNone}, [2]int{api.PropColor, 8}))
	for n := 4; n < 20; n++ {
		wantStyle(t, x, id(n), usual([2]int{api.PropColor, 8}))
	}
	wantStyle(t, x, id(20), usual([2]int{api.PropColor, 8}, [2]int{api.PropGap, 4}))
}

func TestStyleOfWhatIsNotLive(t *testing.T) {
	x := grown(some()...)
	for _, s := range []api.Stamp{
		// In the trash, and beneath what is there, with a Look each; the trash.
		id(5), id(10), id(-1),
		// Beneath a place without a node, with a Look; that place.
		id(6), id(90),
		// Nowhere, with a Look and without.
		id(50), id(77),
		// What is no place at all.
		at(0, 2), at(-1, 0), at(11, 16), at(1, -1), at(api.MaxTime+1, 0), at(math.MinInt, math.MaxInt), at(math.MaxInt, math.MinInt),
	} {
		wantStyleRefused(t, x, s, api.ErrNone)
	}
	for n := 1; n < 4; n++ {
		wantStyleRefused(t, api.Shape{}, id(n), api.ErrNone)
	}
	// A node goes, and comes again.
	l := []api.Op{move(1, 1, 0, "a"), move(2, 2, 1, "a"), style(3, 1, api.PropColor, 5), move(4, 1, -1, "a"), move(5, 1, 0, "a")}
	wantStyle(t, grown(l[:3]...), id(2), usual([2]int{api.PropColor, 5}))
	wantStyleRefused(t, grown(l[:4]...), id(1), api.ErrNone)
	wantStyleRefused(t, grown(l[:4]...), id(2), api.ErrNone)
	wantStyle(t, grown(l...), id(2), usual([2]int{api.PropColor, 5}))
}

// Whether the place is live or not.
func TestStyleInAShapeThatIsNotValid(t *testing.T) {
	for _, x := range badShapes() {
		for _, s := range []api.Stamp{id(0), id(1), id(2), id(7), id(5), id(6), id(10), id(-1), id(50), id(77), id(90), at(1, 16), at(math.MinInt, 7)} {
			wantStyleRefused(t, x, s, api.ErrForm)
		}
	}
}

// wild returns n operations of few nodes, no two with the same stamp; one of three is a style.
func wild(seed uint64, n, nodes int) []api.Op {
	props := []int{api.PropColor, api.PropFont, api.PropDisplay, api.PropGrow, api.PropMaxW}
	var out []api.Op
	for i, word := range spread(seed, n) {
		s, node := at(1001+i/5, i%5), 1+int(word%uint64(nodes))
		if word>>48%3 == 0 {
			p := props[word>>16%5]
			r := rules()[p]
			out = append(out, styleBy(s, node, p, min(r.high, r.low+int(word>>24%7))))
			continue
		}
		parent := int(word>>16%uint64(nodes+3)) - 1
		if word>>32%3 == 0 {
			parent = 0
		}
		out = append(out, moveBy(s, node, parent, string(rune('a'+word>>40%4))))
	}
	return out
}

// wildShapes are of many operations: what comes, and with a row that is deeper than boxes go.
func wildShapes() []api.Shape {
	var out []api.Shape
	for seed := range uint64(60) {
		l := wild(seed, 30+int(seed), 5+int(seed)/2)
		if seed%3 == 0 {
			l = append(row(0, 24), wild(seed, 4+int(seed/4), 30)...)
		}
		out = append(out, grown(l...))
	}
	return out
}

func TestStyleInManyShapes(t *testing.T) {
	live, dead := 0, 0
	for _, x := range wildShapes() {
		nodes := nodesOf(x)
		for n := -1; n < 40; n++ {
			if isLive(nodes, id(n)) {
				live++
				wantStyle(t, x, id(n), plainValues(x, id(n)))
			} else {
				dead++
				wantStyleRefused(t, x, id(n), api.ErrNone)
			}
		}
	}
	if live < 400 || dead < 400 {
		t.Errorf("%d were live, %d not", live, dead)
	}
}

// P18.2: Boxes.

func TestTheDocumentsExample(t *testing.T) {
	for _, x := range []api.Shape{{}, {Tree: api.Tree{Nodes: []api.Node{}, Moves: []api.Entry{}}, Looks: []api.Look{}}} {
		got, e := Boxes(x)
		if e != api.OK || got.ID != (api.Stamp{}) || !slices.Equal(got.Style.Values, usual()) || len(got.Kids) != 0 {
			t.Errorf("%+v, %d", got, e)
		}
		wantCount(t, got, 1)
	}
}

func TestBoxesOfLooksAlone(t *testing.T) {
	wantBoxes(t, grown(style(1, 1, api.PropColor, 5), hidden(2, 2)), box(0))
}

func TestBoxesOfSiblings(t *testing.T) {
	// Neither in the order of the IDs nor in that of the moves; of two keys one is the beginning of the other.
	x := grown(move(1, 1, 0, "c"), move(2, 3, 0, "a"), move(3, 2, 0, "b"), move(4, 5, 0, "aa"), move(5, 4, 0, "\x01"), move(6, 6, 0, "\xff"), move(7, 7, 0, "B"))
	wantBoxes(t, x, box(0, box(4), box(7), box(3), box(5), box(2), box(1), box(6)))
	// Told apart by their last byte alone, or by that one is longer.
	long := strings.Repeat("k", 63)
	x = grown(move(1, 1, 0, long+"c"), move(2, 2, 0, "kb"), move(3, 3, 0, "ka\x01"), move(4, 4, 0, "ka"), move(5, 5, 0, "k"), move(6, 6, 0, long+"b"), move(7, 7, 0, long), move(8, 8, 0, long[:62]))
	wantBoxes(t, x, box(0, box(5), box(4), box(3), box(2), box(8), box(7), box(6), box(1)))
	// Beneath another, and one that was moved.
	x = grown(move(1, 9, 0, "m"), move(2, 3, 9, "b"), move(3, 1, 9, "c"), move(4, 2, 9, "a"), move(5, 2, 9, "d"), move(6, 4, 0, "a"), move(7, 5, 4, "z"), move(8, 5, 9, "bb"))
	wantBoxes(t, x, box(0, box(4), box(9, box(3), box(5), box(1), box(2))))
}

func TestBoxesOfSiblingsWithEqualKeys(t *testing.T) {
	x := grown(move(1, 5, 0, "k"), move(2, 2, 0, "k"), move(3, 4, 0, "k"), move(4, 1, 0, "k"), move(5, 3, 0, "k"))
	wantBoxes(t, x, box(0, box(1), box(2), box(3), box(4), box(5)))
	x = grown(move(1, 5, 0, "k"), move(2, 2, 0, "k"), move(3, 4, 0, "b"), move(4, 1, 0, "z"), move(5, 3, 0, "k"), move(6, 7, 0, "b"), move(7, 6, 0, "z"))
	wantBoxes(t, x, box(0, box(4), box(7), box(2), box(3), box(5), box(1), box(6)))
	// Many, of few keys.
	var l []api.Op
	want := box(0)
	for n := 1; n <= 60; n++ {
		l = append(l, move(n, n, 0, string(rune('a'+n%3))))
	}
	for key := range 3 {
		for n := 1; n <= 60; n++ {
			if n%3 == key {
				want.Kids = append(want.Kids, box(n))
			}
		}
	}
	wantBoxes(t, grown(l...), want)
	// By Time, then by Rep.
	l = nil
	for i, s := range []api.Stamp{at(2, 1), at(1, 15), at(2, 0), at(1, 2), at(3, 0), at(1, 3)} {
		o := move(1+i, 1, 0, "k")
		o.Node = s
		l = append(l, o)
	}
	got, e := Boxes(grown(l...))
	var ids []api.Stamp
	for _, k := range got.Kids {
		ids = append(ids, k.ID)
	}
	if e != api.OK || !slices.Equal(ids, []api.Stamp{at(1, 2), at(1, 3), at(1, 15), at(2, 0), at(2, 1), at(3, 0)}) {
		t.Errorf("%v, %d", ids, e)
	}
}

// The first one of five siblings, one in the middle, the last one, more than one, all; with nodes beneath them.
func TestBoxesOfWhatIsNotShown(t *testing.T) {
	for set := range 1 << 5 {
		var l []api.Op
		want := box(0)
		for n := 1; n <= 5; n++ {
			l = append(l, move(n, n, 0, string(rune('a'+n))), move(10+n, 10+n, n, "k"), move(20+n, 20+n, 10+n, "k"))
			if set>>(n-1)&1 == 1 {
				l = append(l, hidden(30+n, n))
			} else {
				want.Kids = append(want.Kids, box(n, box(10+n, box(20+n))))
			}
		}
		x := grown(l...)
		wantBoxes(t, x, want)
		wantCount(t, want, 1+3*len(want.Kids))
	}
}

// What is beneath a node that is not shown is not either, whatever its own properties are; what it has is not inherited by any.
func TestBoxesBeneathWhatIsNotShown(t *testing.T) {
	moves := []api.Op{move(1, 1, 0, "a"), move(2, 2, 1, "a"), move(3, 3, 2, "a"), move(4, 4, 2, "b"), move(5, 5, 1, "b"), move(6, 6, 0, "b")}
	flex := [2]int{api.PropDisplay, api.DispFlex}
	x := grown(append(moves, hidden(10, 2), style(11, 3, api.PropDisplay, api.DispFlex), style(12, 4, api.PropDisplay, api.DispBlock), style(13, 5, api.PropDisplay, api.DispFlex))...)
	wantBoxes(t, x, box(0, box(1, styled(box(5), flex)), box(6)))
	x = grown(append(moves, hidden(10, 1), style(11, 2, api.PropDisplay, api.DispBlock))...)
	wantBoxes(t, x, box(0, box(6)))
	x = grown(append(moves, hidden(10, 3), hidden(11, 4))...)
	wantBoxes(t, x, box(0, box(1, box(2), box(5)), box(6)))
	// And what was not shown is shown again.
	x = grown(append(moves, hidden(10, 1), style(11, 1, api.PropDisplay, api.DispFlex))...)
	wantBoxes(t, x, box(0, styled(box(1, box(2, box(3), box(4)), box(5)), flex), box(6)))
	// One that goes beneath another is shown again.
	x = grown(append(moves, hidden(10, 2), move(20, 3, 1, "0"))...)
	wantBoxes(t, x, box(0, box(1, box(3), box(5)), box(6)))
}

func TestBoxesOfWhatIsNotLive(t *testing.T) {
	x := grown(move(1, 1, 0, "a"), move(2, 2, -1, "a"), move(3, 3, 2, "a"), move(4, 4, 90, "a"), move(5, 5, 4, "a"), style(6, 2, api.PropColor, 5), style(7, 5, api.PropColor, 5), style(8, 1, api.PropColor, 3), move(9, 6, 1, "a"), move(10, 6, -1, "a"))
	wantBoxes(t, x, box(0, styled(box(1), [2]int{api.PropColor, 3})))
	wantBoxes(t, grown(move(1, 1, -1, "a"), move(2, 2, 90, "a")), box(0))
	wantBoxes(t, grown(move(1, 1, 1, "a")), box(0))
}

// nested is so many boxes, each within the one ahead of it: those with the numbers from 0 on.
func nested(n int) api.Box {
	out := box(n - 1)
	for i := n - 2; i >= 0; i-- {
		out = box(i, out)
	}
	return out
}

func TestBoxesOfMaxDepthLevels(t *testing.T) {
	for n := range 30 {
		want := nested(min(n, 12) + 1)
		wantBoxes(t, grown(row(0, n)...), want)
		wantCount(t, want, min(n, 12)+1)
	}
	// Of the last level there are siblings, and what is beneath them has no box.
	l := append(row(0, 11), move(20, 20, 11, "b"), move(21, 21, 11, "a"), move(22, 22, 20, "a"), move(23, 23, 21, "a"), move(24, 24, 23, "a"), move(25, 25, 10, "z"), move(26, 26, 25, "z"), move(27, 27, 26, "z"), style(28, 11, api.PropColor, 9))
	want := box(10, styled(box(11, styled(box(21), [2]int{api.PropColor, 9}), styled(box(20), [2]int{api.PropColor, 9})), [2]int{api.PropColor, 9}), box(25, box(26)))
	for n := 9; n >= 0; n-- {
		want = box(n, want)
	}
	wantBoxes(t, grown(l...), want)
	// Levels that are not shown do not lift what is beneath them.
	wantBoxes(t, grown(append(row(0, 20), hidden(50, 12))...), nested(12))
	wantBoxes(t, grown(append(row(0, 20), hidden(50, 13))...), nested(13))
	wantBoxes(t, grown(append(row(0, 20), hidden(50, 1))...), nested(1))
}

func TestBoxesHaveTheirStyles(t *testing.T) {
	x := grown(append(row(0, 4), style(11, 1, api.PropColor, 7), style(12, 2, api.PropGrow, 9), style(13, 3, api.PropFont, 640), style(14, 4, api.PropColor, 0))...)
	color, font := [2]int{api.PropColor, 7}, [2]int{api.PropFont, 640}
	want := box(0, styled(box(1, styled(box(2, styled(box(3, styled(box(4), font)), color, font)), color, [2]int{api.PropGrow, 9})), color))
	wantBoxes(t, x, want)
	for _, x := range append(wildShapes(), grown(some()...)) {
		eachBox(boxesOf(t, x), func(b api.Box) { wantStyle(t, x, b.ID, b.Style.Values) })
	}
}

func boxesOf(t *testing.T, x api.Shape) api.Box {
	t.Helper()
	b, e := Boxes(x)
	if e != api.OK {
		t.Fatalf("Boxes(%+v): %d", x, e)
	}
	return b
}

// eachBox calls visit with b and all boxes beneath it.
func eachBox(b api.Box, visit func(api.Box)) {
	visit(b)
	for _, k := range b.Kids {
		eachBox(k, visit)
	}
}

func TestBoxesOfAShapeThatIsNotValid(t *testing.T) {
	for _, x := range badShapes() {
		wantBoxesRefused(t, x)
	}
}

func TestBoxesOfManyShapes(t *testing.T) {
	boxes, hid, deep, equal := 0, 0, 0, 0
	for _, x := range append(wildShapes(), grown(some()...)) {
		want := plainBox(x, id(0), 0)
		wantBoxes(t, x, want)
		wantCount(t, want, plainCount(want))
		boxes += plainCount(want)
		nodes := nodesOf(x)
		for _, n := range x.Tree.Nodes {
			if isLive(nodes, n.ID) {
				hid += one(plainValues(x, n.ID)[api.PropDisplay] == api.DispNone)
				deep += one(len(chain(nodes, n.ID)) > 13)
			}
		}
		eachBox(want, func(b api.Box) {
			for i := 1; i < len(b.Kids); i++ {
				equal += one(nodes[b.Kids[i-1].ID].Key == nodes[b.Kids[i].ID].Key)
			}
		})
	}
	if boxes < 300 || hid < 30 || deep < 20 || equal < 30 {
		t.Errorf("%d boxes, %d not shown, %d too deep, %d with the key of the one ahead", boxes, hid, deep, equal)
	}
}

func one(is bool) int {
	if is {
		return 1
	}
	return 0
}

// There are boxes of all nodes, also where a box is not valid any more.
func TestBoxesOfMoreThanAreCounted(t *testing.T) {
	for _, n := range []int{998, 999, 1000, 1001} {
		want := box(0)
		for i := 1; i <= n; i++ {
			want.Kids = append(want.Kids, box(i))
		}
		wantBoxes(t, grown(flat(n)...), want)
		if n < 1000 {
			wantCount(t, want, n+1)
		} else {
			wantNoBox(t, "too many nodes", want)
		}
	}
}

// P18.2: Check and Count.

// sides are where a box stands: behind how many siblings, and ahead of how many.
func sides() [][2]int {
	return [][2]int{{0, 0}, {0, 2}, {1, 1}, {2, 0}}
}

// among is b with siblings ahead of it and behind it, beneath another.
func among(b api.Box, side [2]int) api.Box {
	out := box(1)
	for range side[0] {
		out.Kids = append(out.Kids, box(2, box(3)))
	}
	out.Kids = append(out.Kids, b)
	for range side[1] {
		out.Kids = append(out.Kids, box(4, box(5)))
	}
	return out
}

// badValues are not those of a Style that is one of all properties.
func badValues() [][]int {
	out := [][]int{nil, {}, {0}, make([]int, 19), usual()[:18], append(usual(), 0), append(usual(), usual()...), make([]int, 1<<16)}
	for p, r := range rules() {
		for _, value := range []int{r.low - 1, r.high + 1, math.MinInt, math.MaxInt} {
			out = append(out, usual([2]int{p, value}))
		}
	}
	return out
}

func TestCountOfStylesThatAreNotOfAllProperties(t *testing.T) {
	for _, values := range badValues() {
		bad := api.Box{ID: id(1), Style: api.Style{Values: values}}
		wantNoBox(t, "at the top, alone", bad)
		bad.Kids = []api.Box{box(2, box(3)), box(4)}
		wantNoBox(t, "at the top", bad)
		bad.Kids = nil
		for _, side := range sides() {
			b := bad
			for levels := 2; levels <= 13; levels++ {
				// The one that is wrong is as many levels beneath the top.
				b = among(b, side)
				wantNoBox(t, "far beneath", b)
			}
		}
	}
}

func TestCountOfStylesThatAreOfAllProperties(t *testing.T) {
	for p, r := range rules() {
		for _, value := range []int{r.low, r.high, r.usual} {
			b := styled(box(1), [2]int{p, value})
			wantCount(t, b, 1)
			for levels := 2; levels <= 13; levels++ {
				b = among(b, [2]int{0, 0})
				wantCount(t, b, levels)
			}
		}
	}
}

// wide is n boxes, all but the first beneath that.
func wide(n int) api.Box {
	out := box(0)
	for range n - 1 {
		out.Kids = append(out.Kids, box(1))
	}
	return out
}

// full is n boxes in as many levels as they go, each with two beneath it but for the last level, which has what is left.
func full(n, levels int) api.Box {
	out := box(n)
	n--
	switch {
	case levels == 1:
	case levels == 2:
		for range n {
			out.Kids = append(out.Kids, box(1))
		}
	case n == 1:
		out.Kids = []api.Box{box(1)}
	case n > 1:
		out.Kids = []api.Box{full(n/2, levels-1), full(n-n/2, levels-1)}
	}
	return out
}

func TestCountOfSoManyBoxes(t *testing.T) {
	for _, n := range []int{1, 2, 3, 10, 100, 511, 512, 998, 999, 1000} {
		wantCount(t, wide(n), n)
		for _, levels := range []int{2, 3, 7, 12, 13} {
			wantCount(t, full(n, levels), n)
		}
	}
	for _, n := range []int{1001, 1002, 1003, 1100, 2000, 5000} {
		wantNoBox(t, "wide", wide(n))
		for _, levels := range []int{2, 3, 7, 12, 13} {
			wantNoBox(t, "full", full(n, levels))
		}
	}
	// The last one at the top, or far beneath: behind 987 others there is place for a row of 12.
	for n, e := range map[int]api.Errno{986: api.OK, 987: api.OK, 988: api.ErrForm, 989: api.ErrForm} {
		for _, first := range []bool{true, false} {
			b := wide(n + 1)
			if first {
				b.Kids = slices.Insert(b.Kids, 0, nested(12))
			} else {
				b.Kids = append(b.Kids, nested(12))
			}
			if e == api.OK {
				wantCount(t, b, n+13)
			} else {
				wantNoBox(t, "a row beside many", b)
			}
		}
	}
	b := wide(999)
	b.Kids[500].Kids = []api.Box{box(1)}
	wantCount(t, b, 1000)
	b.Kids[100].Kids = []api.Box{box(1)}
	wantNoBox(t, "two beneath many", b)
}

func TestCountOfSoManyLevels(t *testing.T) {
	for n := 1; n <= 13; n++ {
		wantCount(t, nested(n), n)
	}
	for _, n := range []int{14, 15, 16, 26, 27, 100, 1000} {
		wantNoBox(t, "a row", nested(n))
	}
	for _, side := range sides() {
		b, n := box(1), 1
		for range 12 {
			b = among(b, side)
			n += 1 + 2*(side[0]+side[1])
			// A pair beside the last one goes deeper than that.
			if side == [2]int{0, 0} {
				wantCount(t, b, n)
			}
		}
		if side != [2]int{0, 0} {
			wantNoBox(t, "a pair beside the last of a row", b)
		}
		for _, levels := range []int{12, 13} {
			deep := nested(levels)
			top := among(deep, side)
			if levels == 12 {
				wantCount(t, top, 13+2*(side[0]+side[1]))
			} else {
				wantNoBox(t, "a row among others", top)
			}
		}
	}
}

// What a box is called, and what its boxes are, is all the same.
func TestCountWhateverTheIDs(t *testing.T) {
	for _, s := range []api.Stamp{{}, at(0, 1), at(0, 2), at(-1, -1), at(1, 16), at(math.MaxInt, math.MinInt)} {
		b := wide(4)
		b.ID, b.Kids[1].ID, b.Kids[2].ID = s, s, s
		wantCount(t, b, 4)
	}
	// A box that is not shown counts.
	none := styled(box(1, box(2)), [2]int{api.PropDisplay, api.DispNone})
	wantCount(t, none, 2)
	wantCount(t, box(0, none, none), 5)
	b := box(0, box(1))
	b.Kids[0].Kids = []api.Box{}
	wantCount(t, b, 2)
}

func TestCountOfManyBoxes(t *testing.T) {
	good, bad := 0, 0
	for seed := range uint64(400) {
		words := spread(seed, 300)
		next := 0
		// Some have nothing beneath them, some much; few have a style that is not one of all properties.
		var build func(levels int) api.Box
		build = func(levels int) api.Box {
			b := box(levels)
			word := words[next%len(words)]
			next++
			if word%1500 == 0 {
				b = styled(b, [2]int{api.PropWrap, 2})
			}
			if levels > 0 && next < 1200 {
				for range word >> 16 % 4 {
					b.Kids = append(b.Kids, build(levels-1))
				}
			}
			return b
		}
		b := build(int(seed % 17))
		if isPlain(b, 13) && plainCount(b) <= 1000 {
			good++
			wantCount(t, b, plainCount(b))
		} else {
			bad++
			wantNoBox(t, "at random", b)
		}
	}
	if good < 100 || bad < 50 {
		t.Errorf("%d valid, %d not", good, bad)
	}
}

// isPlain tells whether a box, whose styles are such as this test makes, has so many levels at most, and only styles of all properties.
func isPlain(b api.Box, levels int) bool {
	if levels == 0 || b.Style.Values[api.PropWrap] > 1 {
		return false
	}
	for _, k := range b.Kids {
		if !isPlain(k, levels-1) {
			return false
		}
	}
	return true
}

// P18.3

// nearest is the value of the first one of these that has a register of a property.
func nearest(x api.Shape, way []api.Stamp, p, usual int) int {
	for _, s := range way {
		for _, r := range regsOf(x, s) {
			if r.Prop == p {
				return r.Value
			}
		}
	}
	return usual
}

// nearby returns the color and the font of a node by the consequence.
func nearby(t *testing.T, x api.Shape, s api.Stamp) [2]int {
	t.Helper()
	above, e := tree.Above(x.Tree, s)
	if e != api.OK {
		t.Fatalf("Above(%v): %d", s, e)
	}
	way := append([]api.Stamp{s}, above...)
	return [2]int{nearest(x, way, api.PropColor, 0), nearest(x, way, api.PropFont, 1024)}
}

func wantColorAndFont(t *testing.T, x api.Shape, s api.Stamp, want [2]int) {
	t.Helper()
	got, e := Style(x, s)
	if e != api.OK || [2]int{got.Values[api.PropColor], got.Values[api.PropFont]} != want {
		t.Errorf("Style(%+v, %v): %v, %d, want the color and the font %v", x, s, got.Values, e, want)
	}
}

func TestColorAndFontOfWhom(t *testing.T) {
	color := func(time, node, value int) api.Op { return style(time, node, api.PropColor, value) }
	font := func(time, node, value int) api.Op { return style(time, node, api.PropFont, value) }
	for _, c := range []struct {
		styles []api.Op
		want   [2]int // of the sixth one of a row
	}{
		{nil, [2]int{0, 1024}},
		// Its own, its parent's, that of one far above.
		{[]api.Op{color(11, 6, 8), font(12, 6, 88)}, [2]int{8, 88}},
		{[]api.Op{color(11, 5, 8), font(12, 5, 88)}, [2]int{8, 88}},
		{[]api.Op{color(11, 1, 8), font(12, 1, 88)}, [2]int{8, 88}},
		{[]api.Op{color(11, 1, 8), font(12, 6, 88)}, [2]int{8, 88}},
		{[]api.Op{color(11, 6, 8), font(12, 2, 88)}, [2]int{8, 88}},
		{[]api.Op{color(11, 3, 8)}, [2]int{8, 1024}},
		{[]api.Op{font(11, 3, 88)}, [2]int{0, 88}},
		// The nearest one of many, whenever they were set.
		{[]api.Op{color(11, 6, 8), color(12, 5, 9), color(13, 1, 10)}, [2]int{8, 1024}},
		{[]api.Op{color(13, 5, 8), color(12, 4, 9), color(11, 1, 10)}, [2]int{8, 1024}},
		{[]api.Op{font(11, 2, 80), font(12, 1, 90)}, [2]int{0, 80}},
		{[]api.Op{color(11, 2, 0), color(12, 1, 7), font(13, 4, 1024), font(14, 3, 64)}, [2]int{0, 1024}},
		// Of one beneath it, beside it, or nowhere.
		{[]api.Op{color(11, 7, 8), font(12, 7, 88), color(13, 8, 8), font(14, 8, 88), color(15, 77, 8)}, [2]int{0, 1024}},
		// The value with the largest stamp remains.
		{[]api.Op{color(11, 3, 8), color(13, 3, 9), color(12, 3, 10)}, [2]int{9, 1024}},
	} {
		x := grown(slices.Concat(row(0, 7), []api.Op{move(8, 8, 5, "b")}, c.styles)...)
		wantColorAndFont(t, x, id(6), c.want)
		if nearby(t, x, id(6)) != c.want {
			t.Errorf("%+v: by the consequence %v, want %v", c.styles, nearby(t, x, id(6)), c.want)
		}
	}
	// A node that goes elsewhere has there what those above it have.
	l := []api.Op{move(1, 1, 0, "a"), move(2, 2, 0, "b"), move(3, 3, 1, "c"), color(11, 1, 8), color(12, 2, 9), move(20, 3, 2, "c")}
	wantColorAndFont(t, grown(l[:5]...), id(3), [2]int{8, 1024})
	wantColorAndFont(t, grown(l...), id(3), [2]int{9, 1024})
}

func TestColorAndFontInManyShapes(t *testing.T) {
	own, above, none := 0, 0, 0
	for _, x := range wildShapes() {
		nodes := nodesOf(x)
		for _, n := range x.Tree.Nodes {
			if !isLive(nodes, n.ID) {
				continue
			}
			want := nearby(t, x, n.ID)
			wantColorAndFont(t, x, n.ID, want)
			mine := [2]int{nearest(x, []api.Stamp{n.ID}, api.PropColor, -1), nearest(x, []api.Stamp{n.ID}, api.PropFont, -1)}
			own += one(mine[0] >= 0) + one(mine[1] >= 0)
			above += one(mine[0] < 0 && want[0] != 0) + one(mine[1] < 0 && want[1] != 1024)
			none += one(mine[0] < 0 && want[0] == 0) + one(mine[1] < 0 && want[1] == 1024)
		}
	}
	if own < 50 || above < 50 || none < 50 {
		t.Errorf("%d had their own, %d that of one above, %d none", own, above, none)
	}
}

// R1 and R2

// spacious returns x in memory of its own, with others in the spare capacity of each list.
func spacious(x api.Shape) api.Shape {
	out := apart(x)
	out.Tree.Nodes = append(out.Tree.Nodes, api.Node{ID: id(7)}, api.Node{ID: id(8)})[:len(x.Tree.Nodes)]
	out.Tree.Moves = append(out.Tree.Moves, api.Entry{Key: "7"}, api.Entry{Key: "8"})[:len(x.Tree.Moves)]
	for i, m := range out.Tree.Moves {
		out.Tree.Moves[i].Op.Deps = append(m.Op.Deps, 77, 78)[:len(m.Op.Deps)]
	}
	out.Looks = append(out.Looks, api.Look{ID: id(7)}, api.Look{ID: id(8)})[:len(x.Looks)]
	for i, l := range out.Looks {
		out.Looks[i].Regs = append(l.Regs, api.Reg{Prop: 7}, api.Reg{Prop: 8})[:len(l.Regs)]
	}
	return out
}

// wantUntouched wants that got, made from x by spacious, is as it was made.
func wantUntouched(t *testing.T, x, got api.Shape) {
	t.Helper()
	if !same(x, got) {
		t.Errorf("%+v is now %+v", x, got)
		return
	}
	nodes, moves, looks := got.Tree.Nodes, got.Tree.Moves, got.Looks
	nodes, moves, looks = nodes[len(nodes):len(nodes)+2], moves[len(moves):len(moves)+2], looks[len(looks):len(looks)+2]
	if nodes[0].ID != id(7) || nodes[1].ID != id(8) || moves[0].Key != "7" || moves[1].Key != "8" || looks[0].ID != id(7) || looks[1].ID != id(8) {
		t.Errorf("behind %+v: %+v, %+v, %+v", x, nodes, moves, looks)
	}
	for _, m := range got.Tree.Moves {
		if d := m.Op.Deps; !slices.Equal(d[len(d):len(d)+2], []int{77, 78}) {
			t.Errorf("behind the Deps of %v: %v", m.Op.Stamp, d[:len(d)+2])
		}
	}
	for _, l := range got.Looks {
		if more := l.Regs[len(l.Regs) : len(l.Regs)+2]; more[0].Prop != 7 || more[1].Prop != 8 {
			t.Errorf("behind the registers of %v: %+v", l.ID, more)
		}
	}
}

// spaciousBox returns b in memory of its own, with others in the spare capacity of each list.
func spaciousBox(b api.Box) api.Box {
	out := api.Box{ID: b.ID}
	out.Style.Values = append(slices.Clone(b.Style.Values), 77, 78)[:len(b.Style.Values)]
	for _, k := range b.Kids {
		out.Kids = append(out.Kids, spaciousBox(k))
	}
	out.Kids = append(out.Kids, box(77), box(78))[:len(b.Kids)]
	return out
}

func wantUntouchedBox(t *testing.T, b, got api.Box) {
	t.Helper()
	if !sameBox(b, got) {
		t.Errorf("%+v is now %+v", b, got)
		return
	}
	eachBox(got, func(b api.Box) {
		values, kids := b.Style.Values, b.Kids
		values, kids = values[len(values):len(values)+2], kids[len(kids):len(kids)+2]
		if !slices.Equal(values, []int{77, 78}) || !sameBox(kids[0], box(77)) || !sameBox(kids[1], box(78)) {
			t.Errorf("behind %+v: %v, %+v", b, values, kids)
		}
	})
}

// someShapes are valid ones and such as are not.
func someShapes() []api.Shape {
	out := wildShapes()[:12]
	for _, l := range goodLists() {
		out = append(out, grown(l...))
	}
	for i, x := range badShapes() {
		if i%13 == 0 {
			out = append(out, x)
		}
	}
	return out
}

func TestArgumentsAreNotChanged(t *testing.T) {
	for _, x := range someShapes() {
		given := spacious(x)
		Boxes(given)
		for n := -1; n < 20; n++ {
			Style(given, id(n))
		}
		wantUntouched(t, x, given)
	}
	bad := box(0, box(1), styled(box(2), [2]int{api.PropWrap, 2}), box(3))
	for _, b := range []api.Box{box(0), nested(5), nested(13), nested(14), wide(1000), wide(1001), full(900, 6), full(1100, 8), {}, bad, box(0, bad, box(4))} {
		given := spaciousBox(b)
		Check(given)
		Count(given)
		wantUntouchedBox(t, b, given)
	}
}

func overwrite(l []int) {
	l = l[:cap(l)]
	for i := range l {
		l[i] = -9
	}
}

// writeInto writes into all lists of a shape, their spare capacity among them.
func writeInto(x api.Shape) {
	for _, m := range x.Tree.Moves {
		overwrite(m.Op.Deps)
	}
	for _, l := range x.Looks {
		clear(l.Regs[:cap(l.Regs)])
	}
	clear(x.Tree.Nodes[:cap(x.Tree.Nodes)])
	clear(x.Tree.Moves[:cap(x.Tree.Moves)])
	clear(x.Looks[:cap(x.Looks)])
}

func TestAnswersOfStyleAreNewMemory(t *testing.T) {
	for _, x := range someShapes() {
		for n := 0; n < 20; n++ {
			given := spacious(x)
			got, _ := Style(given, id(n))
			want := slices.Clone(got.Values)
			again, _ := Style(given, id(n))
			overwrite(again.Values)
			wantUntouched(t, x, given)
			if third, _ := Style(given, id(n)); !slices.Equal(third.Values, want) {
				t.Errorf("what is written into an answer is in a later one: %v, want %v", third.Values, want)
			}
			writeInto(given)
			if !slices.Equal(got.Values, want) {
				t.Errorf("an answer shares memory: %v, want %v", got.Values, want)
			}
		}
	}
}

// lists are all lists of a box, to be written into one by one, their spare capacity among them.
func lists(b *api.Box) []func() {
	out := []func(){func() { overwrite(b.Style.Values) }, func() { clear(b.Kids[:cap(b.Kids)]) }}
	for i := range b.Kids {
		out = append(out, lists(&b.Kids[i])...)
	}
	return out
}

// wantOthers wants that got is want but for the list that was written into; it returns the number of the list behind those of got.
func wantOthers(t *testing.T, got, want api.Box, first, written int) int {
	t.Helper()
	if first != written && !slices.Equal(got.Style.Values, want.Style.Values) {
		t.Errorf("list %d shares memory with the style of %v", written, want.ID)
	}
	if first+1 == written || len(got.Kids) != len(want.Kids) {
		return first + len(lists(&want))
	}
	next := first + 2
	for i, k := range got.Kids {
		if k.ID != want.Kids[i].ID {
			t.Errorf("list %d shares memory with that of the Kids of %v", written, want.ID)
		}
		next = wantOthers(t, k, want.Kids[i], next, written)
	}
	return next
}

func TestAnswersOfBoxesAreNewMemory(t *testing.T) {
	for _, x := range someShapes() {
		want, e := Boxes(x)
		if e != api.OK {
			continue
		}
		for i := range lists(&want) {
			given := spacious(x)
			got, _ := Boxes(given)
			again, _ := Boxes(given)
			lists(&got)[i]()
			wantUntouched(t, x, given)
			wantOthers(t, got, want, 0, i)
			if !sameBox(again, want) {
				t.Errorf("two answers share memory: %+v", want)
			}
			writeInto(given)
			if !sameBox(again, want) {
				t.Errorf("an answer shares memory with what was handed in: %+v", want)
			}
		}
		if third, _ := Boxes(x); !sameBox(third, want) {
			t.Errorf("what is written into an answer is in a later one: %+v, want %+v", third, want)
		}
	}
}

func TestEqualCallsGiveEqualResults(t *testing.T) {
	for _, x := range someShapes() {
		first, e := Boxes(x)
		for range 4 {
			if again, f := Boxes(apart(x)); !sameBox(first, again) || e != f {
				t.Errorf("Boxes(%+v): %+v, %d, then %+v, %d", x, first, e, again, f)
			}
		}
		for n := -1; n < 20; n++ {
			first, e := Style(x, id(n))
			if again, f := Style(apart(x), id(n)); !slices.Equal(first.Values, again.Values) || e != f {
				t.Errorf("Style(%+v, %d): %v, %d, then %v, %d", x, n, first, e, again, f)
			}
		}
	}
}

func TestLargeShapes(t *testing.T) {
	const n = 1 << 12
	// One node beneath the other, with a color far above.
	x := grown(append(row(0, n), style(n+1, 1, api.PropColor, 9), style(n+2, n, api.PropGrow, 3))...)
	wantStyle(t, x, id(n), usual([2]int{api.PropColor, 9}, [2]int{api.PropGrow, 3}))
	if got := boxesOf(t, x); plainCount(got) != 13 {
		t.Errorf("%d boxes of a row", plainCount(got))
	}
	// Many beneath one place.
	got := boxesOf(t, grown(flat(1<<14)...))
	if len(got.Kids) != 1<<14 || !slices.IsSortedFunc(got.Kids, func(a, b api.Box) int { return order(a.ID, b.ID) }) {
		t.Errorf("%d boxes beneath one", len(got.Kids))
	}
	// What is wrong at the end of much.
	x.Looks = append(x.Looks, make([]api.Look, 1<<16)...)
	wantBoxesRefused(t, x)
	wantStyleRefused(t, x, id(1), api.ErrForm)
}

// A box of which each has the same long list beneath it, and one that is deep and wide at once, are refused before they are gone through.
func TestLargeBoxes(t *testing.T) {
	long := make([]api.Box, 1<<20)
	wantNoBox(t, "long", box(0, long...))
	b := wide(900)
	for i := range b.Kids {
		b.Kids[i].Kids = long
	}
	wantNoBox(t, "many with a long list", b)
	b = box(0)
	for range 1 << 12 {
		b = api.Box{Style: b.Style, Kids: []api.Box{b, b, b}}
	}
	wantNoBox(t, "each with three of the next", b)
	wantNoBox(t, "a deep one", nested(60000))
	b = box(0)
	b.Style.Values = make([]int, 1<<22)
	wantNoBox(t, "a long style", b)
}
