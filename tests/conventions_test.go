package tests

import (
	"fmt"
	"math"
	"math/rand"
	"slices"
	"strings"
	"testing"

	"loop.example/g00573/impl"
)

// roomy has behind l some room in which there is something.
func roomy[E any](l []E, mark E) []E {
	r := append(slices.Clone(l), mark, mark, mark)
	r = r[:cap(r)]
	for i := len(l); i < len(r); i++ {
		r[i] = mark
	}
	return r[:len(l)]
}

func roomyMap(m []impl.Pair) []impl.Pair {
	return roomy(m, impl.Pair{Key: "mark", Val: "mark"})
}

func roomyTree(t []impl.Node) []impl.Node {
	t = roomy(t, impl.Node{Pairs: pairsOf("mark")})
	for i := range t {
		t[i].Pairs = roomyMap(t[i].Pairs)
		t[i].Kids = roomy(t[i].Kids, 77)
	}
	return t
}

// wholeMap and wholeTree write all that is there, and what is in the room
// behind it.
func wholeMap(m []impl.Pair) string { return fmt.Sprint(len(m), m[:cap(m)]) }

func wholeTree(t []impl.Node) string {
	s := fmt.Sprint(len(t))
	for _, n := range t[:cap(t)] {
		s += fmt.Sprint(wholeMap(n.Pairs), len(n.Kids), n.Kids[:cap(n.Kids)])
	}
	return s
}

// scribble writes over all that a list has, and over the room behind it.
func scribble[E any](l []E, with E) {
	l = l[:cap(l)]
	for i := range l {
		l[i] = with
	}
}

func scribbleTree(t []impl.Node) {
	for _, n := range t {
		scribble(n.Pairs, impl.Pair{Key: "over"})
		scribble(n.Kids, 99)
	}
	scribble(t, impl.Node{Kids: []int64{99}})
}

type call struct {
	name string
	do   func(m []impl.Pair, x []impl.Node) ([]impl.Pair, []impl.Node)
}

// calls are the functions of chapters 1 and 2 that take or give lists, each at
// keys that are there, are not there and are none.
func calls() []call {
	l := []call{
		{"MapOk", func(m []impl.Pair, x []impl.Node) ([]impl.Pair, []impl.Node) { impl.MapOk(m); return nil, nil }},
		{"MapText", func(m []impl.Pair, x []impl.Node) ([]impl.Pair, []impl.Node) { impl.MapText(m); return nil, nil }},
		{"TreeOk", func(m []impl.Pair, x []impl.Node) ([]impl.Pair, []impl.Node) { impl.TreeOk(x); return nil, nil }},
		{"Height", func(m []impl.Pair, x []impl.Node) ([]impl.Pair, []impl.Node) { impl.Height(x); return nil, nil }},
		{"TreeMap", func(m []impl.Pair, x []impl.Node) ([]impl.Pair, []impl.Node) { return impl.TreeMap(x), nil }},
		{"TreeOf", func(m []impl.Pair, x []impl.Node) ([]impl.Pair, []impl.Node) {
			y, _ := impl.TreeOf(m)
			return nil, y
		}},
		{"ReadMap", func(m []impl.Pair, x []impl.Node) ([]impl.Pair, []impl.Node) {
			n, _ := impl.ReadMap(impl.MapText(m))
			return n, nil
		}},
	}
	for _, k := range []string{"", "!", "a", "b", "bb", "c", "d", "e", "e5", "h", "k10", "k40", "k69", "zz", "~", "\xff", "too long a key"} {
		l = append(l,
			call{"Get " + k, func(m []impl.Pair, x []impl.Node) ([]impl.Pair, []impl.Node) { impl.Get(m, k); return nil, nil }},
			call{"TreeGet " + k, func(m []impl.Pair, x []impl.Node) ([]impl.Pair, []impl.Node) { impl.TreeGet(x, k); return nil, nil }},
			call{"Put " + k, func(m []impl.Pair, x []impl.Node) ([]impl.Pair, []impl.Node) {
				n, _ := impl.Put(m, k, "1")
				return n, nil
			}},
			call{"Drop " + k, func(m []impl.Pair, x []impl.Node) ([]impl.Pair, []impl.Node) {
				n, _ := impl.Drop(m, k)
				return n, nil
			}},
			call{"Range from " + k, func(m []impl.Pair, x []impl.Node) ([]impl.Pair, []impl.Node) { return impl.Range(m, k, ""), nil }},
			call{"Range ahead of " + k, func(m []impl.Pair, x []impl.Node) ([]impl.Pair, []impl.Node) { return impl.Range(m, "b", k), nil }},
			call{"TreePut " + k, func(m []impl.Pair, x []impl.Node) ([]impl.Pair, []impl.Node) {
				y, _ := impl.TreePut(x, k, "1")
				return nil, y
			}},
			call{"TreeDrop " + k, func(m []impl.Pair, x []impl.Node) ([]impl.Pair, []impl.Node) {
				y, _ := impl.TreeDrop(x, k)
				return nil, y
			}},
		)
	}
	return l
}

func someMaps() [][]impl.Pair {
	l := [][]impl.Pair{nil, pairsOf("a"), pairsOf("b", "d"), pairsOf("a", "b", "c", "d", "e", "h"), numbered(59), numbered(60)}
	for _, m := range wrongMaps() {
		l = append(l, m)
	}
	return l
}

func someTrees() [][]impl.Node {
	full, _ := impl.TreeOf(numbered(60))
	l := [][]impl.Node{
		full,
		treeFrom("()"),
		treeFrom("(a)"),
		treeFrom("(a b c d)"),
		treeFrom("((a b)(c d))"),
		treeFrom("((a b c)(d e)(f g h))"),
		treeFrom("((a b)(c d)(e f)(e1 e2 e3 h))"),
		treeFrom("(((a b)(c d))((e f)(g h)))"),
		treeFrom("(((a b)(c d)(e f))((g h)(i j)))"),
		treeFrom("(((a b)(c d))((e f)(g h)(i j)))"),
		treeFrom("((((a b)(c d))((e f)(g h)))(((i j)(k l))((m n)(o p))))"),
	}
	for _, x := range wrongTrees() {
		if len(pairsIn(x)) < 1000 && len(x[0].Kids) < 1000 {
			l = append(l, x)
		}
	}
	return append(l, nil)
}

func TestAnswersAreNewMemory(t *testing.T) {
	trees, lists := someTrees(), someMaps()
	for _, c := range calls() {
		for i := range max(len(trees), len(lists)) {
			m, x := roomyMap(lists[i%len(lists)]), roomyTree(trees[i%len(trees)])
			beforeMap, beforeTree := wholeMap(m), wholeTree(x)
			pairs, nodes := c.do(m, x)
			if wholeMap(m) != beforeMap || wholeTree(x) != beforeTree {
				t.Fatal(c.name, i, "writes into an argument")
			}
			again, nodesAgain := c.do(m, x)
			if !slices.Equal(pairs, again) || !sameTree(nodes, nodesAgain) {
				t.Fatal(c.name, i, "answers another thing the second time")
			}
			scribble(pairs, impl.Pair{Key: "over"})
			scribbleTree(nodes)
			if wholeMap(m) != beforeMap || wholeTree(x) != beforeTree {
				t.Fatal(c.name, i, "shares an argument's memory")
			}
			pairs, nodes = c.do(m, x)
			if !slices.Equal(pairs, again) || !sameTree(nodes, nodesAgain) {
				t.Fatal(c.name, i, "keeps what it answered")
			}
		}
	}
}

func TestListsOfOneAnswerShareNothing(t *testing.T) {
	trees := someTrees()
	for _, c := range calls() {
		for i, x := range trees {
			_, nodes := c.do(numbered(i), x)
			for place := range nodes {
				want := copyOf(nodes)
				scribble(nodes[place].Pairs, impl.Pair{Key: "over"})
				want[place].Pairs = nodes[place].Pairs
				if !sameTree(nodes, want) {
					t.Fatal(c.name, i, "the pairs of", place, "are shared")
				}
				scribble(nodes[place].Kids, 99)
				want[place].Kids = nodes[place].Kids
				if !sameTree(nodes, want) {
					t.Fatal(c.name, i, "the kids of", place, "are shared")
				}
			}
		}
	}
}

// TestEveryFunctionAnswersAtEveryArgument would stop at a panic, or not end.
func TestEveryFunctionAnswersAtEveryArgument(t *testing.T) {
	texts := []string{"", "a", "b", "=", " ", "\x00", "\xff", "\xff\xff", "a=1", strings.Repeat("a", 100000), strings.Repeat("a=1 ", 100000)}
	lists := append(someMaps(), make([]impl.Pair, 100000))
	trees := append(someTrees(), make([]impl.Node, 100000))
	for _, s := range texts {
		impl.KeyOk(s)
		impl.ReadMap(s)
		for _, v := range texts {
			for _, m := range lists {
				impl.Get(m, s)
				impl.Put(m, s, v)
				impl.Drop(m, s)
				impl.Range(m, s, v)
				impl.MapText(m)
				impl.TreeOf(m)
			}
			for _, x := range trees {
				impl.TreeGet(x, s)
				impl.TreePut(x, s, v)
				impl.TreeDrop(x, s)
				impl.TreeMap(x)
				impl.Height(x)
			}
		}
	}
}

// TestTreesOfAnyNumbers gives lists of nodes whose kids are whatever comes.
func TestTreesOfAnyNumbers(t *testing.T) {
	r := rand.New(rand.NewSource(7))
	places := []int64{0, 1, 2, 3, 4, 5, 6, 7, -1, 1 << 32, math.MaxInt64, math.MinInt64}
	for range 30000 {
		x := make([]impl.Node, r.Intn(8))
		next := byte('a')
		for i := range x {
			if r.Intn(2) == 0 {
				for range r.Intn(4) {
					x[i].Kids = append(x[i].Kids, places[r.Intn(len(places))])
				}
				continue
			}
			for range 1 + r.Intn(4) {
				x[i].Pairs = append(x[i].Pairs, impl.Pair{Key: string([]byte{next}), Val: "1"})
				next++
			}
		}
		want := problemOf(x) == ""
		_, put := impl.TreePut(x, "~", "1")
		_, dropped := impl.TreeDrop(x, "a")
		if impl.TreeOk(x) != want || put != want || dropped != (want && len(pairsIn(x)) > 0) {
			t.Fatal(x, want, put, dropped)
		}
		if (impl.Height(x) > 0) != want || len(impl.TreeMap(x)) > 0 && !want {
			t.Fatal(x, want, impl.Height(x))
		}
	}
}
