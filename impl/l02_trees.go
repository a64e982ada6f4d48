package impl

import "slices"

const (
	MaxFan   = 4
	MaxNodes = 100
)

// minFan is the least that a node has, but for the first one.
const minFan = 2

type Node struct {
	Pairs []Pair
	Kids  []int64
}

// branch is a node while a call works on it. Its kids are pointers, so that a
// change at one place leaves all others as they are. A list in it may be one
// of an argument: it is replaced, never written into.
type branch struct {
	pairs []Pair
	kids  []*branch
}

func (b *branch) size() int { return len(b.pairs) + len(b.kids) }

// branchesOf is the first branch of t; false when some node does not stand at
// its place. It does not ask what the nodes have.
func branchesOf(t []Node) (*branch, bool) {
	next := int64(0)
	var build func(place int64) *branch
	build = func(place int64) *branch {
		if place != next || place >= int64(len(t)) {
			return nil
		}
		next++
		b := &branch{pairs: t[place].Pairs}
		for _, p := range t[place].Kids {
			kid := build(p)
			if kid == nil {
				return nil
			}
			b.kids = append(b.kids, kid)
		}
		return b
	}
	first := build(0)
	if first == nil || next != int64(len(t)) {
		return nil, false
	}
	return first, true
}

// nodes is the tree as a list, in memory of its own.
func (b *branch) nodes() []Node {
	var t []Node
	var lay func(b *branch) int64
	lay = func(b *branch) int64 {
		place := len(t)
		t = append(t, Node{Pairs: slices.Clone(b.pairs)})
		var kids []int64
		for _, kid := range b.kids {
			kids = append(kids, lay(kid))
		}
		t[place].Kids = kids
		return int64(place)
	}
	lay(b)
	return t
}

// all is every pair of the tree, in order, in memory of its own.
func (b *branch) all() []Pair {
	var m []Pair
	var gather func(b *branch)
	gather = func(b *branch) {
		m = append(m, b.pairs...)
		for _, kid := range b.kids {
			gather(kid)
		}
	}
	gather(b)
	return m
}

func (b *branch) height() int {
	levels := 1
	for len(b.kids) > 0 {
		b = b.kids[0]
		levels++
	}
	return levels
}

func (b *branch) leastKey() string {
	for len(b.kids) > 0 {
		b = b.kids[0]
	}
	return b.pairs[0].Key
}

// wellFilled tells whether a branch has what a node may have.
func (b *branch) wellFilled(first bool) bool {
	if len(b.pairs) > 0 && len(b.kids) > 0 {
		return false
	}
	if b.size() > MaxFan || len(b.kids) == 1 {
		return false
	}
	return first || b.size() >= minFan
}

// wellShaped tells whether every branch is well filled, and all that have no
// kids stand equally deep.
func (b *branch) wellShaped() bool {
	var below func(c *branch, levels int) bool
	below = func(c *branch, levels int) bool {
		if !c.wellFilled(c == b) {
			return false
		}
		if len(c.kids) == 0 {
			return levels == 1
		}
		for _, kid := range c.kids {
			if !below(kid, levels-1) {
				return false
			}
		}
		return true
	}
	return below(b, b.height())
}

// rightTree is the first branch of t; false when t is not right.
func rightTree(t []Node) (*branch, bool) {
	if len(t) < 1 || len(t) > MaxNodes {
		return nil, false
	}
	first, ok := branchesOf(t)
	if !ok || !first.wellShaped() || !pairsOk(first.all()) {
		return nil, false
	}
	return first, true
}

// parts cuts a list into parts of MaxFan. Where one would be left alone, the
// part ahead has one less.
func parts[E any](l []E) [][]E {
	var cut [][]E
	for len(l) > MaxFan {
		n := MaxFan
		if len(l) == MaxFan+1 {
			n--
		}
		cut = append(cut, slices.Clone(l[:n]))
		l = l[n:]
	}
	return append(cut, slices.Clone(l))
}

func treeOver(m []Pair) *branch {
	var level []*branch
	for _, part := range parts(m) {
		level = append(level, &branch{pairs: part})
	}
	for len(level) > 1 {
		var above []*branch
		for _, part := range parts(level) {
			above = append(above, &branch{kids: part})
		}
		level = above
	}
	return level[0]
}

// splitAt is the first n of l, or all when there are less, and the others.
func splitAt[E any](l []E, n int) ([]E, []E) {
	n = min(n, len(l))
	return slices.Clone(l[:n]), slices.Clone(l[n:])
}

// share gives two neighbours anew what they have together: the first n to the
// one ahead, the others to the one behind.
func share(ahead *branch, behind *branch, n int) {
	ahead.pairs, behind.pairs = splitAt(slices.Concat(ahead.pairs, behind.pairs), n)
	ahead.kids, behind.kids = splitAt(slices.Concat(ahead.kids, behind.kids), n)
}

// halve leaves the first half in a branch, and gives the other one as a new
// branch.
func (b *branch) halve() *branch {
	behind := &branch{}
	share(b, behind, (b.size()+1)/2)
	return behind
}

// way is the place of the kid to which k leads.
func (b *branch) way(k string) int {
	i := len(b.kids) - 1
	for i > 0 && b.kids[i].leastKey() > k {
		i--
	}
	return i
}

func (b *branch) put(p Pair) {
	if len(b.kids) == 0 {
		b.pairs = pairList(b.pairs).with(p)
		return
	}
	i := b.way(p.Key)
	b.kids[i].put(p)
	if b.kids[i].size() > MaxFan {
		b.kids = slices.Insert(b.kids, i+1, b.kids[i].halve())
	}
}

// putBelow puts p into the tree below first, and gives what is the first
// branch then. How many pairs there are is for the caller to ask.
func putBelow(first *branch, p Pair) *branch {
	first.put(p)
	if first.size() <= MaxFan {
		return first
	}
	behind := first.halve()
	return &branch{kids: []*branch{first, behind}}
}

func (b *branch) drop(k string) bool {
	if len(b.kids) == 0 {
		left, there := pairList(b.pairs).without(k)
		if there {
			b.pairs = left
		}
		return there
	}
	i := b.way(k)
	if !b.kids[i].drop(k) {
		return false
	}
	if b.kids[i].size() < minFan {
		b.refill(i)
	}
	return true
}

// refill helps the kid at place i, which has too little, out of the kids
// beside it.
func (b *branch) refill(i int) {
	kid := b.kids[i]
	if i > 0 && b.kids[i-1].size() > minFan {
		share(b.kids[i-1], kid, b.kids[i-1].size()-1)
		return
	}
	if i+1 < len(b.kids) && b.kids[i+1].size() > minFan {
		share(kid, b.kids[i+1], kid.size()+1)
		return
	}
	b.join(max(i-1, 0))
}

// join makes one of the kid at place i and the one behind it.
func (b *branch) join(i int) {
	ahead, behind := b.kids[i], b.kids[i+1]
	share(ahead, behind, ahead.size()+behind.size())
	b.kids = slices.Delete(b.kids, i+1, i+2)
}

// dropBelow takes k out of the tree below first, and gives what is the first
// branch then; false when there is no such key.
func dropBelow(first *branch, k string) (*branch, bool) {
	if !first.drop(k) {
		return nil, false
	}
	if len(first.kids) == 1 {
		return first.kids[0], true
	}
	return first, true
}

func TreeOk(t []Node) bool {
	_, ok := rightTree(t)
	return ok
}

func TreeOf(m []Pair) ([]Node, bool) {
	if !MapOk(m) {
		return nil, false
	}
	return treeOver(m).nodes(), true
}

func TreeMap(t []Node) []Pair {
	first, ok := rightTree(t)
	if !ok {
		return nil
	}
	return first.all()
}

func TreeGet(t []Node, k string) (string, bool) {
	return valueIn(TreeMap(t), k)
}

func TreePut(t []Node, k string, v string) ([]Node, bool) {
	first, ok := rightTree(t)
	if !ok || !KeyOk(k) || !KeyOk(v) {
		return nil, false
	}
	first = putBelow(first, Pair{Key: k, Val: v})
	if len(first.all()) > MaxPairs {
		return nil, false
	}
	return first.nodes(), true
}

func TreeDrop(t []Node, k string) ([]Node, bool) {
	first, ok := rightTree(t)
	if !ok {
		return nil, false
	}
	first, ok = dropBelow(first, k)
	if !ok {
		return nil, false
	}
	return first.nodes(), true
}

func Height(t []Node) int64 {
	first, ok := rightTree(t)
	if !ok {
		return 0
	}
	return int64(first.height())
}
