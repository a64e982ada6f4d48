package tests

import (
	"math/rand"
	"slices"
	"strconv"
	"testing"

	"loop.example/g00573/impl"
)

// fiveKids has five nodes below the first one, two pairs in each.
const fiveKids = "((a b)(c d)(e f)(g h)(i j))"

func bent(s string, change func(t []impl.Node) []impl.Node) []impl.Node {
	return change(treeFrom(s))
}

// wrongTrees are trees that are not right. Nearly each has the key b, so that a
// call that does not look would find it.
func wrongTrees() map[string][]impl.Node {
	kids := func(place int, kids ...int64) func(t []impl.Node) []impl.Node {
		return func(t []impl.Node) []impl.Node {
			t[place].Kids = kids
			return t
		}
	}
	w := map[string][]impl.Node{
		"the first node has one kid":     treeFrom("((a b))"),
		"one kid, with kids":             treeFrom("(((a b)(c d)))"),
		"another node has one kid":       treeFrom("(((a b))((c d)))"),
		"one kid beside others":          treeFrom("(((a b)(c d))((e f)))"),
		"five pairs":                     treeFrom("(a b c d e)"),
		"five pairs below":               treeFrom("((a b)(c d e f g))"),
		"five kids":                      treeFrom(fiveKids),
		"five kids below":                treeFrom("((" + fiveKids[1:len(fiveKids)-1] + ")((k l)(m n)))"),
		"one pair below":                 treeFrom("((a b)(c))"),
		"one pair below, first":          treeFrom("((b)(c d))"),
		"none below":                     treeFrom("((a b)())"),
		"a kid ahead less deep":          treeFrom("((a b)((c d)(e f)))"),
		"a kid behind less deep":         treeFrom("(((a b)(c d))(e f))"),
		"keys fall in a node":            treeFrom("(b a)"),
		"keys fall in a node below":      treeFrom("((a b)(d c))"),
		"keys fall between nodes":        treeFrom("((c d)(a b))"),
		"keys fall between far nodes":    treeFrom("(((a b)(c e))((d f)(g h)))"),
		"two keys alike":                 treeFrom("(a b b)"),
		"two keys alike, in two nodes":   treeFrom("((a b)(b c))"),
		"a wrong key":                    {{Pairs: pairsOf(" :1", "b")}},
		"a long key":                     treeFrom("(abcdefg:1 b)"),
		"a wrong value":                  {{Pairs: pairsOf("a:", "b")}},
		"a wrong value below":            bent("((a b)(c d))", func(t []impl.Node) []impl.Node { t[2].Pairs[1].Val = "1 1"; return t }),
		"pairs and kids":                 bent("((b c)(d e))", func(t []impl.Node) []impl.Node { t[0].Pairs = pairsOf("a"); return t }),
		"pairs and kids below":           bent("(((b c)(d e))((f g)(h i)))", func(t []impl.Node) []impl.Node { t[1].Pairs = pairsOf("a"); return t }),
		"kids in another order":          bent("((a b)(c d))", kids(0, 2, 1)),
		"one kid twice":                  bent("((a b)(c d))", kids(0, 1, 1)),
		"the last kid twice":             bent("((a b)(c d))", kids(0, 1, 2, 2)),
		"a kid that is itself":           bent("((a b)(c d))", kids(0, 0, 1)),
		"a kid that leads back":          bent("((a b)(c d))", func(t []impl.Node) []impl.Node { t[2] = impl.Node{Kids: []int64{0, 1}}; return t }),
		"a kid that is its own":          bent("((a b)(c d))", func(t []impl.Node) []impl.Node { t[1] = impl.Node{Kids: []int64{1, 2}}; return t }),
		"a kid behind all":               bent("((a b)(c d))", kids(0, 1, 2, 3)),
		"kids from two on":               bent("((a b)(c d)(e f))", kids(0, 2, 3)),
		"places that are too great":      bent("((a b)(c d))", kids(0, 1, 1<<63-1)),
		"places that turn into right":    bent("((a b)(c d))", kids(0, 1, 1<<32+2)),
		"places below 0":                 bent("((a b)(c d))", kids(0, -1, -1<<63)),
		"a node behind all":              bent("((a b)(c d))", func(t []impl.Node) []impl.Node { return append(t, impl.Node{}) }),
		"a right node behind all":        bent("((a b)(c d))", func(t []impl.Node) []impl.Node { return append(t, impl.Node{Pairs: pairsOf("e", "f")}) }),
		"a node behind the first":        {{Pairs: pairsOf("a", "b")}, {Pairs: pairsOf("c", "d")}},
		"an empty node ahead":            {{}, {Pairs: pairsOf("a", "b")}},
		"the last node missing":          bent("((a b)(c d))", func(t []impl.Node) []impl.Node { return t[:2] }),
		"nodes level by level":           levelByLevel(),
		"101 nodes":                      manyNodes(20),
		"a hundred kids":                 hundredKids(),
		"100 nodes behind the first":     append(treeFrom("(b)"), make([]impl.Node, 100)...),
		"a million pairs in one":         {{Pairs: make([]impl.Pair, 1000000)}},
		"a million kids, all themselves": {{Kids: make([]int64, 1000000)}},
	}
	return w
}

// levelByLevel has the nodes of a right tree, but its kids stand one behind
// the other without those below them.
func levelByLevel() []impl.Node {
	return []impl.Node{
		{Kids: []int64{1, 2}}, {Kids: []int64{3, 4}}, {Kids: []int64{5, 6}},
		{Pairs: pairsOf("a", "b")}, {Pairs: pairsOf("c", "d")}, {Pairs: pairsOf("e", "f")}, {Pairs: pairsOf("g", "h")},
	}
}

// hundredKids has a first node over a hundred: one node too many, as there are
// too many kids.
func hundredKids() []impl.Node {
	return layered([]int{100}, slices.Repeat([]int{2}, 100))
}

// layered is a tree of which each level has as many nodes as the one above has
// kids: counts tells, level by level, how many kids each has, one behind the
// other, and last how many pairs. Its first key is b, the others are longer
// ones that rise.
func layered(counts ...[]int) []impl.Node {
	var t []impl.Node
	at := make([]int, len(counts))
	pairs := 0
	var lay func(level int) int64
	lay = func(level int) int64 {
		place := len(t)
		t = append(t, impl.Node{})
		n := counts[level][at[level]]
		at[level]++
		for range n {
			if level == len(counts)-1 {
				k := "k" + strconv.Itoa(100+pairs)
				t[place].Pairs = append(t[place].Pairs, impl.Pair{Key: k, Val: strconv.Itoa(pairs)})
				pairs++
				continue
			}
			kid := lay(level + 1)
			t[place].Kids = append(t[place].Kids, kid)
		}
		return int64(place)
	}
	lay(0)
	for place := range t {
		if len(t[place].Pairs) > 0 {
			t[place].Pairs[0].Key = "b"
			break
		}
	}
	return t
}

// times is n times a and m times b.
func times(n int, a int, m int, b int) []int {
	return append(slices.Repeat([]int{a}, n), slices.Repeat([]int{b}, m)...)
}

// manyNodes has five levels, two pairs in each of the lowest nodes: 81 nodes
// and one for each that is told to have three kids.
func manyNodes(threes int) []impl.Node {
	return layered([]int{2}, []int{3, 3}, times(6, 4, 0, 0), times(threes, 3, 24-threes, 2), times(48+threes, 2, 0, 0))
}

// wide has three levels and four kids in each node.
func wide(pairs int) []impl.Node {
	return layered([]int{4}, []int{4, 4, 4, 4}, times(pairs-48, 4, 64-pairs, 3))
}

func pairsIn(t []impl.Node) []impl.Pair {
	var m []impl.Pair
	for _, n := range t {
		m = append(m, n.Pairs...)
	}
	return m
}

// treesOfMany are right trees with more than 60 pairs.
func treesOfMany() map[string][]impl.Node {
	return map[string][]impl.Node{
		"61 pairs":            wide(61),
		"64 pairs":            wide(64),
		"61 pairs, unlike":    layered([]int{4}, []int{4, 4, 4, 4}, append(times(14, 4, 1, 3), 2)),
		"99 nodes":            manyNodes(18),
		"100 nodes":           manyNodes(19),
		"100 nodes, all full": layered([]int{2}, []int{3, 2}, times(4, 4, 1, 3), times(16, 4, 3, 3), times(73, 4, 0, 0)),
	}
}

func TestTheLimitOfNodes(t *testing.T) {
	for threes := 15; threes <= 24; threes++ {
		x := manyNodes(threes)
		if want := len(x) <= 100; len(x) != 81+threes || impl.TreeOk(x) != want || (impl.Height(x) == 5) != want {
			t.Error(len(x), "nodes:", impl.TreeOk(x), impl.Height(x))
		}
	}
}

func TestTreesOfManyPairsAreRight(t *testing.T) {
	for name, x := range treesOfMany() {
		m := pairsIn(x)
		if problem := problemOf(x); problem != "" || len(m) <= 60 {
			t.Fatal(name, problem, len(m))
		}
		if !impl.TreeOk(x) || impl.Height(x) < 3 || !slices.Equal(impl.TreeMap(x), m) {
			t.Error(name, impl.TreeOk(x), impl.Height(x), impl.TreeMap(x))
		}
		for _, p := range m {
			if v, ok := impl.TreeGet(x, p.Key); !ok || v != p.Val {
				t.Error(name, p, v, ok)
			}
			if y, ok := impl.TreePut(x, p.Key, "1"); ok || len(y) != 0 {
				t.Error(name, "with", p.Key, y)
			}
			y, ok := impl.TreeDrop(x, p.Key)
			if want := modelFrom(x, 0).withoutKey(p.Key).nodes(); !ok || !sameTree(y, want) {
				t.Error(name, "without", p.Key, y, want)
			}
		}
		for _, k := range []string{"", "a", "bb", "k100", "k1000", "z", "too long a key"} {
			if v, ok := impl.TreeGet(x, k); ok || v != "" {
				t.Error(name, k, v, ok)
			}
			if y, ok := impl.TreePut(x, k, "1"); ok || len(y) != 0 {
				t.Error(name, "with", k, y)
			}
			if y, ok := impl.TreeDrop(x, k); ok || len(y) != 0 {
				t.Error(name, "without", k, y)
			}
		}
	}
}

// TestTreesOfManyPairsShrink drops one key behind the other: a pair is put
// again as soon as there are no more than 60.
func TestTreesOfManyPairsShrink(t *testing.T) {
	for name, x := range treesOfMany() {
		r := rand.New(rand.NewSource(3))
		for m := pairsIn(x); len(m) > 0; {
			k := m[r.Intn(len(m))].Key
			var ok, there bool
			if x, ok = impl.TreeDrop(x, k); !ok {
				t.Fatal(name, len(m), k)
			}
			m = slices.DeleteFunc(m, func(p impl.Pair) bool { return p.Key == k })
			checkTree(t, x, m)
			_, ok = impl.TreePut(x, "new", "1")
			if len(m) > 0 {
				_, there = impl.TreePut(x, m[len(m)/2].Key, "1")
			}
			if ok != (len(m) < 60) || there != (len(m) <= 60 && len(m) > 0) {
				t.Fatal(name, len(m), ok, there)
			}
		}
	}
}

func TestRightTrees(t *testing.T) {
	for _, s := range []string{
		"()",
		"(a)",
		"(a b)",
		"(a b c d)",
		"((a b)(c d))",
		"((a b c d)(e f))",
		"((a b)(c d)(e f)(g h))",
		"(((a b)(c d))((e f)(g h)))",
		"(((a b)(c d)(e f)(g h))((i j k l)(m n)))",
		"((((a b)(c d))((e f)(g h)))(((i j)(k l))((m n)(o p))))",
	} {
		x := treeFrom(s)
		if problem := problemOf(x); problem != "" {
			t.Fatal(s, problem)
		}
		if !impl.TreeOk(x) {
			t.Error(s, "is right")
		}
	}
	if !impl.TreeOk([]impl.Node{{Pairs: []impl.Pair{}, Kids: []int64{}}}) {
		t.Error("empty lists are as nil")
	}
	if impl.MaxFan != 4 || impl.MaxNodes != 100 {
		t.Error("limits", impl.MaxFan, impl.MaxNodes)
	}
}

func TestWrongTreesAreRefused(t *testing.T) {
	wrong := wrongTrees()
	wrong["no nodes"] = nil
	wrong["no nodes, not nil"] = []impl.Node{}
	for name, x := range wrong {
		if impl.TreeOk(x) {
			t.Error(name, "TreeOk")
		}
		if m := impl.TreeMap(x); len(m) != 0 {
			t.Error(name, "TreeMap", m)
		}
		if v, ok := impl.TreeGet(x, "b"); ok || v != "" {
			t.Error(name, "TreeGet", v)
		}
		for _, k := range []string{"b", "bb", "z"} {
			if y, ok := impl.TreePut(x, k, "1"); ok || len(y) != 0 {
				t.Error(name, "TreePut", k, y)
			}
		}
		if y, ok := impl.TreeDrop(x, "b"); ok || len(y) != 0 {
			t.Error(name, "TreeDrop", y)
		}
		if h := impl.Height(x); h != 0 {
			t.Error(name, "Height", h)
		}
	}
}

// TestBendingARightTree changes each number and list of a right tree, and holds
// TreeOk against what the test knows of right trees.
func TestBendingARightTree(t *testing.T) {
	whole := treeFrom("(((a b)(c d e))((f g h i)(j k)(l m)))")
	look := func(x []impl.Node) {
		if got, want := impl.TreeOk(x), problemOf(x) == ""; got != want {
			t.Errorf("%v: %v, but %q", x, got, problemOf(x))
		}
	}
	for place := range whole {
		for i := range whole[place].Kids {
			for to := int64(-1); to <= int64(len(whole)); to++ {
				x := copyOf(whole)
				x[place].Kids[i] = to
				look(x)
			}
			x := copyOf(whole)
			x[place].Kids = slices.Delete(x[place].Kids, i, i+1)
			look(x)
		}
		for i := range whole[place].Pairs {
			for _, k := range []string{"", "a", "aa", "c", "cc", "f", "ff", "kk", "m", "z", "abcdefg", "a=", "\x7f"} {
				x := copyOf(whole)
				x[place].Pairs[i].Key = k
				look(x)
				x = copyOf(whole)
				x[place].Pairs[i].Val = k
				look(x)
			}
			x := copyOf(whole)
			x[place].Pairs = slices.Delete(x[place].Pairs, i, i+1)
			look(x)
		}
		look(slices.Delete(copyOf(whole), place, place+1))
		look(slices.Insert(copyOf(whole), place, impl.Node{}))
		x := copyOf(whole)
		x[place] = impl.Node{}
		look(x)
		x = copyOf(whole)
		x[place].Pairs = append(x[place].Pairs, pairsOf("z")...)
		look(x)
	}
}

// shape writes how many pairs stand in each node.
func shape(t []impl.Node, place int64) string {
	if len(t[place].Kids) == 0 {
		return strconv.Itoa(len(t[place].Pairs))
	}
	s := "("
	for i, kid := range t[place].Kids {
		if i > 0 {
			s += " "
		}
		s += shape(t, kid)
	}
	return s + ")"
}

func TestTreeOf(t *testing.T) {
	want := map[int]string{
		0: "0", 1: "1", 2: "2", 3: "3", 4: "4",
		5: "(3 2)", 6: "(4 2)", 7: "(4 3)", 8: "(4 4)", 9: "(4 3 2)", 10: "(4 4 2)",
		13: "(4 4 3 2)", 16: "(4 4 4 4)",
		17: "((4 4 4) (3 2))", 18: "((4 4 4) (4 2))", 20: "((4 4 4) (4 4))",
		21: "((4 4 4 4) (3 2))", 32: "((4 4 4 4) (4 4 4 4))",
		33: "((4 4 4 4) (4 4 4) (3 2))", 37: "((4 4 4 4) (4 4 4 4) (3 2))",
		49: "((4 4 4 4) (4 4 4 4) (4 4 4) (3 2))", 53: "((4 4 4 4) (4 4 4 4) (4 4 4 4) (3 2))",
		59: "((4 4 4 4) (4 4 4 4) (4 4 4 4) (4 4 3))", 60: "((4 4 4 4) (4 4 4 4) (4 4 4 4) (4 4 4))",
	}
	for n := range 61 {
		m := numbered(n)
		x, ok := impl.TreeOf(m)
		if !ok || problemOf(x) != "" || !impl.TreeOk(x) || !slices.Equal(impl.TreeMap(x), m) {
			t.Fatal(n, x, ok)
		}
		if s, told := want[n]; told && shape(x, 0) != s {
			t.Errorf("%d pairs: %s, not %s", n, shape(x, 0), s)
		}
	}
	x, _ := impl.TreeOf(pairsOf("a", "b", "c", "d", "e"))
	if !sameTree(x, treeFrom("((a b c)(d e))")) {
		t.Error(x)
	}
	for name, m := range wrongMaps() {
		if x, ok := impl.TreeOf(m); ok || len(x) != 0 {
			t.Error(name, x)
		}
	}
}

func TestTreeMapGetAndHeight(t *testing.T) {
	for _, c := range []struct {
		tree   string
		keys   []string
		height int64
	}{
		{"()", nil, 1},
		{"(a)", []string{"a"}, 1},
		{"(a b c d)", []string{"a", "b", "c", "d"}, 1},
		{"((a b)(d e f))", []string{"a", "b", "d", "e", "f"}, 2},
		{"(((a b)(d e))((f g)(h i)))", []string{"a", "b", "d", "e", "f", "g", "h", "i"}, 3},
		{"((((a b)(d e))((f g)(h i)))(((j k)(l m))((n o)(p q))))", []string{"a", "b", "d", "e", "f", "g", "h", "i", "j", "k", "l", "m", "n", "o", "p", "q"}, 4},
	} {
		x := treeFrom(c.tree)
		if m := impl.TreeMap(x); !slices.Equal(m, pairsOf(c.keys...)) {
			t.Error(c.tree, m)
		}
		if h := impl.Height(x); h != c.height {
			t.Error(c.tree, h)
		}
		for _, k := range c.keys {
			if v, ok := impl.TreeGet(x, k); !ok || v != "v"+k {
				t.Error(c.tree, k, v, ok)
			}
		}
		for _, k := range []string{"", "A", "aa", "cc", "z", "va", "abcdefgh", "\xff"} {
			if v, ok := impl.TreeGet(x, k); ok || v != "" {
				t.Error(c.tree, k, v, ok)
			}
		}
	}
}

func TestTreePut(t *testing.T) {
	for _, c := range []struct{ name, from, put, want string }{
		{"into nothing", "()", "a", "(a)"},
		{"ahead", "(b)", "a", "(a b)"},
		{"behind", "(b)", "c", "(b c)"},
		{"a fourth one", "(a b d)", "c", "(a b c d)"},
		{"a first node that becomes two", "(b c d e)", "a", "((a b c)(d e))"},
		{"likewise, in the middle", "(a b d e)", "c", "((a b c)(d e))"},
		{"likewise, at the end", "(a b c d)", "e", "((a b c)(d e))"},
		{"a key that is there", "(a b c d)", "c:9", "(a b c:9 d)"},
		{"a key that is there, below", "((a b c d)(e f g h))", "e:9", "((a b c d)(e:9 f g h))"},
		{"ahead of all: the first kid", "((b c)(e f))", "a", "((a b c)(e f))"},
		{"between kids: the one ahead", "((b c)(e f))", "d", "((b c d)(e f))"},
		{"behind the least key of the last", "((b c)(e f))", "ee", "((b c)(e ee f))"},
		{"behind all", "((b c)(e f))", "g", "((b c)(e f g))"},
		{"the kid in the middle", "((a b)(d e)(g h))", "f", "((a b)(d e f)(g h))"},
		{"a node of five becomes two", "((b c d e)(f g))", "a", "((a b c)(d e)(f g))"},
		{"likewise, the last one", "((a b)(c d e f))", "g", "((a b)(c d e)(f g))"},
		{"likewise, between others", "((a b)(c d e g)(h i))", "f", "((a b)(c d e)(f g)(h i))"},
		{"though the kid behind has room", "((a b c d)(f g))", "e", "((a b c)(d e)(f g))"},
		{"a first node with five kids", "((a b)(c d)(e f)(g h i j))", "k", "(((a b)(c d)(e f))((g h i)(j k)))"},
		{"likewise, split at its first kid", "((a b c d)(f g)(h i)(j k))", "e", "(((a b c)(d e)(f g))((h i)(j k)))"},
		{"a node below with five kids", "(((a b)(c d)(e f)(g h i j))((l m)(n o)))", "k", "(((a b)(c d)(e f))((g h i)(j k))((l m)(n o)))"},
		{"a pair more below two levels", "(((a b)(c d))((f g)(h i)))", "e", "(((a b)(c d e))((f g)(h i)))"},
		{"the least of all, two levels down", "(((b c)(d e))((f g)(h i)))", "a", "(((a b c)(d e))((f g)(h i)))"},
		{"the long way up",
			"(((a b)(c d))((e f)(g h))((i j)(k l))((m n)(o p)(q r)(s t u v)))", "w",
			"((((a b)(c d))((e f)(g h))((i j)(k l)))(((m n)(o p)(q r))((s t u)(v w))))"},
	} {
		p := pairsOf(c.put)[0]
		x, ok := impl.TreePut(treeFrom(c.from), p.Key, p.Val)
		if !ok || !sameTree(x, treeFrom(c.want)) {
			t.Errorf("%s: %s with %s is %v, not %s", c.name, c.from, c.put, x, c.want)
		}
	}
}

// TestTheWayDownGoesByLeastKeys drops a least key: what once led to the second
// kid leads to the first one then.
func TestTheWayDownGoesByLeastKeys(t *testing.T) {
	x, _ := impl.TreeDrop(treeFrom("((a b c)(d e f))"), "d")
	if !sameTree(x, treeFrom("((a b c)(e f))")) {
		t.Fatal(x)
	}
	x, _ = impl.TreePut(x, "d", "vd")
	if !sameTree(x, treeFrom("((a b c d)(e f))")) {
		t.Error(x)
	}
}

func TestTreePutRefusals(t *testing.T) {
	for _, s := range []string{"", " ", "abcdefg", "a b", "=", "a=", "\x7f", "\x1f"} {
		for _, from := range []string{"()", "(a b)", "((a b)(c d))"} {
			if x, ok := impl.TreePut(treeFrom(from), s, "1"); ok || len(x) != 0 {
				t.Errorf("%s with the key %q: %v", from, s, x)
			}
			if x, ok := impl.TreePut(treeFrom(from), "a", s); ok || len(x) != 0 {
				t.Errorf("%s with the value %q: %v", from, s, x)
			}
			if x, ok := impl.TreePut(treeFrom(from), "e", s); ok || len(x) != 0 {
				t.Errorf("%s with the value %q: %v", from, s, x)
			}
		}
	}
}

func TestTreePutAtTheLimit(t *testing.T) {
	x, _ := impl.TreeOf(numbered(59))
	full, ok := impl.TreePut(x, "z", "1")
	if !ok || len(impl.TreeMap(full)) != 60 || !impl.TreeOk(full) {
		t.Fatal("the 60th", full, ok)
	}
	for _, k := range []string{"a", "k2", "zz"} {
		if x, ok := impl.TreePut(full, k, "1"); ok || len(x) != 0 {
			t.Error("the 61st", k, x)
		}
	}
	for _, k := range []string{"k10", "k40", "z"} {
		x, ok := impl.TreePut(full, k, "new")
		if v, _ := impl.TreeGet(x, k); !ok || v != "new" || len(impl.TreeMap(x)) != 60 {
			t.Error(k, "is there already", x, ok)
		}
	}
}

func TestTreeDrop(t *testing.T) {
	for _, c := range []struct{ name, from, drop, want string }{
		{"the only one", "(a)", "a", "()"},
		{"from the first node", "(a b)", "b", "(a)"},
		{"two are left", "((a b c)(d e))", "b", "((a c)(d e))"},
		{"two are left beside more", "((a b c d)(e f g)(h i j))", "f", "((a b c d)(e g)(h i j))"},
		{"the kid ahead has three", "((a b c)(d e))", "e", "((a b)(c d))"},
		{"likewise, the least one goes", "((a b c)(d e))", "d", "((a b)(c e))"},
		{"the kid ahead has four", "((a b c d)(e f))", "f", "((a b c)(d e))"},
		{"both beside have more: the one ahead", "((a b c)(d e)(f g h))", "d", "((a b)(c e)(f g h))"},
		{"the one behind has yet more", "((a b c)(d e)(f g h i))", "e", "((a b)(c d)(f g h i))"},
		{"the kid ahead has just two", "((a b)(c d)(e f g))", "c", "((a b)(d e)(f g))"},
		{"the kid ahead has just two, behind four", "((a b)(c d)(e f g h))", "d", "((a b)(c e)(f g h))"},
		{"no kid ahead, the one behind has three", "((a b)(c d e))", "a", "((b c)(d e))"},
		{"both beside have just two", "((a b)(c d)(e f))", "c", "((a b d)(e f))"},
		{"the last one, ahead just two", "((a b)(c d)(e f))", "f", "((a b)(c d e))"},
		{"the first one, behind just two", "((a b)(c d)(e f))", "a", "((b c d)(e f))"},
		{"more stands ahead of the kid ahead", "((a b c)(d e)(f g))", "f", "((a b c)(d e g))"},
		{"more stands behind the kid behind", "((a b)(c d)(e f g))", "a", "((b c d)(e f g))"},
		{"a first node with one kid", "((a b)(c d))", "d", "(a b c)"},
		{"likewise, out of the first kid", "((a b)(c d))", "a", "(b c d)"},
		{"three levels become two", "(((a b)(c d))((e f)(g h)))", "a", "((b c d)(e f)(g h))"},
		{"likewise, out of the last kid", "(((a b)(c d))((e f)(g h)))", "h", "((a b)(c d)(e f g))"},
		{"four levels become three",
			"((((a b)(c d))((e f)(g h)))(((i j)(k l))((m n)(o p))))", "i",
			"(((a b)(c d))((e f)(g h))((j k l)(m n)(o p)))"},
		{"four levels stay",
			"((((a b)(c d))((e f)(g h))((i j)(k l)))(((m n)(o p))((q r)(s t))))", "t",
			"((((a b)(c d))((e f)(g h)))(((i j)(k l))((m n)(o p)(q r s))))"},
		{"a kid of the node ahead", "(((a b)(c d)(e f))((g h)(i j)))", "j", "(((a b)(c d))((e f)(g h i)))"},
		{"nodes on both sides have more: the one ahead",
			"(((a b)(c d)(e f))((g h)(i j))((k l)(m n)(o p)))", "g",
			"(((a b)(c d))((e f)(h i j))((k l)(m n)(o p)))"},
		{"the node ahead has just two: one of the node behind",
			"(((a b)(c d))((e f)(g h))((i j)(k l)(m n)))", "e",
			"(((a b)(c d))((f g h)(i j))((k l)(m n)))"},
		{"no node ahead: one of the node behind",
			"(((a b)(c d))((e f)(g h)(i j)))", "d",
			"(((a b c)(e f))((g h)(i j)))"},
		{"nodes become one with the one ahead",
			"(((a b)(c d))((e f)(g h))((i j)(k l)))", "h",
			"(((a b)(c d)(e f g))((i j)(k l)))"},
		{"the first node below with the one behind",
			"(((a b)(c d))((e f)(g h))((i j)(k l)))", "b",
			"(((a c d)(e f)(g h))((i j)(k l)))"},
		{"a node with three kids keeps two",
			"(((a b)(c d)(e f))((g h)(i j)))", "e",
			"(((a b)(c d f))((g h)(i j)))"},
		{"a pair goes over no node's end",
			"(((a b)(c d e))((f g)(h i)))", "f",
			"((a b)(c d e)(g h i))"},
	} {
		x, ok := impl.TreeDrop(treeFrom(c.from), c.drop)
		if !ok || !sameTree(x, treeFrom(c.want)) {
			t.Errorf("%s: %s without %s is %v, not %s", c.name, c.from, c.drop, x, c.want)
		}
	}
}

func TestTreeDropOfWhatIsNotThere(t *testing.T) {
	for _, from := range []string{"()", "(b d)", "((b d)(f h))", "(((b d)(f h))((j l)(n p)))"} {
		for _, k := range []string{"", "a", "c", "e", "g", "i", "m", "q", "vb", "abcdefgh", "\xff"} {
			if x, ok := impl.TreeDrop(treeFrom(from), k); ok || len(x) != 0 {
				t.Errorf("%s without %q: %v", from, k, x)
			}
		}
	}
}

// TestTreesAgainstMapsAndAModel changes trees many times over. Each has to be
// right, to have the pairs that a map has, to be low enough, and to be node for
// node what the model makes.
func TestTreesAgainstMapsAndAModel(t *testing.T) {
	for seed := range int64(6) {
		r := rand.New(rand.NewSource(seed))
		var m []impl.Pair
		x, _ := impl.TreeOf(nil)
		tallest := int64(0)
		for i := range 1500 {
			k := string([]byte{byte('a' + r.Intn(10)), byte('0' + r.Intn(9))})
			// It grows and shrinks by turns, so that each height is come to.
			grows := i/150%2 == 0
			if r.Intn(5) == 0 {
				grows = !grows
			}
			before := modelFrom(x, 0)
			var wantMap []impl.Pair
			var want, ok bool
			var y []impl.Node
			if grows {
				wantMap, want = impl.Put(m, k, "1")
				y, ok = impl.TreePut(x, k, "1")
				before = before.withPair(impl.Pair{Key: k, Val: "1"})
			} else {
				wantMap, want = impl.Drop(m, k)
				y, ok = impl.TreeDrop(x, k)
				before = before.withoutKey(k)
			}
			if ok != want || !ok && len(y) != 0 {
				t.Fatal(seed, i, k, grows, ok, want)
			}
			if !ok {
				continue
			}
			if !sameTree(y, before.nodes()) {
				t.Fatalf("%d %d: %v with or without %s is %v, not %v", seed, i, x, k, y, before.nodes())
			}
			m, x = wantMap, y
			checkTree(t, x, m)
			tallest = max(tallest, impl.Height(x))
		}
		if tallest < 4 {
			t.Error(seed, "no tree was higher than", tallest)
		}
	}
}

// checkTree is promise 2, of one tree.
func checkTree(t *testing.T, x []impl.Node, m []impl.Pair) {
	t.Helper()
	if problem := problemOf(x); problem != "" || !impl.TreeOk(x) {
		t.Fatal(x, "is not right:", problem)
	}
	if !slices.Equal(impl.TreeMap(x), m) {
		t.Fatal(x, "has not", m)
	}
	for i := 0; i < len(m); i += 7 {
		if v, ok := impl.TreeGet(x, m[i].Key); !ok || v != m[i].Val {
			t.Fatal(x, m[i], v, ok)
		}
	}
	h := impl.Height(x)
	if h < 1 || h > 1 && len(m) < 1<<h {
		t.Fatal(x, "is too high", h)
	}
}

// TestSmallestTreesShrinkToNothing drops every key, from the front, from the
// back and from the middle, from trees with two of all in each node.
func TestSmallestTreesShrinkToNothing(t *testing.T) {
	for name, next := range map[string]func(n int) int{
		"front":  func(n int) int { return 0 },
		"back":   func(n int) int { return n - 1 },
		"middle": func(n int) int { return n / 2 },
	} {
		x := treeFrom("((((a b)(c d))((e f)(g h)))(((i j)(k l))((m n)(o p))))")
		m := impl.TreeMap(x)
		for len(m) > 0 {
			k := m[next(len(m))].Key
			var ok, there bool
			x, ok = impl.TreeDrop(x, k)
			m, there = impl.Drop(m, k)
			if !ok || !there {
				t.Fatal(name, k, ok, there)
			}
			checkTree(t, x, m)
		}
		if !sameTree(x, treeFrom("()")) {
			t.Error(name, x)
		}
	}
}
