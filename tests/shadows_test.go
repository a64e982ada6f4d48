package tests

import (
	"fmt"
	"math"
	"math/rand"
	"slices"
	"strconv"
	"strings"
	"testing"

	"loop.example/g00573/impl"
)

// pagesFrom has a page for each text: "4 leaf a b" is page 4 with these pairs
// (words as for pairsOf), "6 kids 4 5" is page 6 with these kids.
func pagesFrom(texts ...string) []impl.Page {
	var l []impl.Page
	for _, text := range texts {
		words := strings.Fields(text)
		id, _ := strconv.ParseInt(words[0], 10, 64)
		p := impl.Page{Id: id}
		if words[1] == "leaf" {
			p.Pairs = pairsOf(words[2:]...)
		} else {
			for _, w := range words[2:] {
				kid, _ := strconv.ParseInt(w, 10, 64)
				p.Kids = append(p.Kids, kid)
			}
		}
		l = append(l, p)
	}
	return l
}

// superOf reads Gen, Root and Next.
func superOf(s string) impl.Super {
	var super impl.Super
	fmt.Sscan(s, &super.Gen, &super.Root, &super.Next)
	return super
}

// storeOf is the store with that Super and these pages, as superOf and pagesFrom
// read them.
func storeOf(super string, pages ...string) impl.Shadow {
	return impl.Shadow{Pages: pagesFrom(pages...), Super: superOf(super)}
}

// changesOf has a change for each word: "a" puts the key a with the value va,
// "a:9" with the value 9, "-a" drops it.
func changesOf(words ...string) []impl.Change {
	var l []impl.Change
	for _, w := range words {
		if k, gone := strings.CutPrefix(w, "-"); gone {
			l = append(l, impl.Change{Key: k, Gone: true})
			continue
		}
		p := pairsOf(w)[0]
		l = append(l, impl.Change{Key: p.Key, Val: p.Val})
	}
	return l
}

// storeFrom has a page for each node: the one at place i has the i-th of ids.
func storeFrom(t []impl.Node, ids []int64, next int64) impl.Shadow {
	s := impl.Shadow{Super: impl.Super{Gen: 1, Root: ids[0], Next: next}}
	for i, n := range t {
		p := impl.Page{Id: ids[i], Pairs: n.Pairs}
		for _, kid := range n.Kids {
			p.Kids = append(p.Kids, ids[kid])
		}
		s.Pages = append(s.Pages, p)
	}
	slices.SortFunc(s.Pages, func(a impl.Page, b impl.Page) int { return int(a.Id - b.Id) })
	return s
}

// rising is n ids from one on.
func rising(from int64, n int) []int64 {
	var l []int64
	for i := range int64(n) {
		l = append(l, from+i)
	}
	return l
}

func falling(from int64, n int) []int64 {
	l := rising(from, n)
	slices.Reverse(l)
	return l
}

func rightShadows() map[string]impl.Shadow {
	full, _ := impl.TreeOf(numbered(60))
	deep := treeFrom("((((a b)(c d))((e f)(g h)))(((i j)(k l))((m n)(o p))))")
	return map[string]impl.Shadow{
		"new":                       storeOf("1 1 2", "1 leaf"),
		"empty, with a high id":     storeOf("9 7 8", "7 leaf"),
		"ids are used up":           storeOf("9 999999 1000000", "999999 leaf a"),
		"Gen is at its end":         storeOf("1000000 2 5", "2 leaf a"),
		"one page":                  storeOf("2 2 3", "2 leaf a"),
		"one page, full":            storeOf("3 4 9", "4 leaf a b c d"),
		"two levels":                storeOf("3 3 6", "3 kids 4 5", "4 leaf a b", "5 leaf c d"),
		"two levels, four kids":     storeOf("3 3 8", "3 kids 4 5 6 7", "4 leaf a b", "5 leaf c d", "6 leaf e f g", "7 leaf h i j k"),
		"the first one has the end": storeOf("3 9 10", "2 leaf a b c", "5 leaf d e", "9 kids 2 5"),
		"kids by falling ids":       storeOf("3 3 12", "3 kids 9 5 4", "4 leaf e f g", "5 leaf c d", "9 leaf a b"),
		"a gap up to Next":          storeOf("3 3 1000000", "3 kids 4 5", "4 leaf a b c", "5 leaf d e"),
		"three levels":              storeFrom(treeFrom("(((a b)(c d))((e f)(g h)))"), rising(2, 7), 9),
		"three levels, falling":     storeFrom(treeFrom("(((a b)(c d))((e f)(g h)(i j k l)))"), falling(2, 8), 10),
		"four levels":               storeFrom(deep, rising(20, 15), 40),
		"60 pairs":                  storeFrom(full, rising(1, len(full)), 30),
		"60 pairs, falling":         storeFrom(wide(60), falling(3, 21), 24),
		"60 pairs, two in a page":   storeFrom(twoInEach(), rising(1, 56), 57),
	}
}

// twoInEach has 60 pairs in as many nodes as there can be.
func twoInEach() []impl.Node {
	return layered([]int{3}, []int{2, 2, 3}, times(6, 2, 1, 3), times(15, 2, 0, 0), times(30, 2, 0, 0))
}

// wrongShadows are stores that are not right. Nearly each has the key b.
func wrongShadows() map[string]impl.Shadow {
	w := map[string]impl.Shadow{
		"nothing at all":            {},
		"no pages":                  storeOf("1 1 2"),
		"Gen 0":                     storeOf("0 2 3", "2 leaf b"),
		"Gen too great":             storeOf("1000001 2 3", "2 leaf b"),
		"Root 0":                    storeOf("1 0 3", "2 leaf b"),
		"Root is Next":              storeOf("1 3 3", "2 leaf b"),
		"Root is Next, and there":   storeOf("1 2 2", "2 leaf b"),
		"Next 1":                    storeOf("1 1 1", "1 leaf b"),
		"Next too great":            storeOf("1 2 1000001", "2 leaf b"),
		"Root is not there":         storeOf("1 2 5", "3 leaf b"),
		"a page with the id Next":   storeOf("1 2 4", "2 kids 3 4", "3 leaf a b", "4 leaf c d"),
		"a page with a greater id":  storeOf("1 2 4", "2 kids 3 5", "3 leaf a b", "5 leaf c d"),
		"ids fall":                  storeOf("1 2 5", "2 kids 4 3", "4 leaf a b", "3 leaf c d"),
		"ids fall at the end":       storeOf("1 2 6", "2 kids 3 4 5", "3 leaf a b", "5 leaf e f", "4 leaf c d"),
		"the first one stands last": storeOf("1 2 5", "3 leaf a b", "4 leaf c d", "2 kids 3 4"),
		"ids alike":                 storeOf("1 2 5", "2 kids 3 4", "3 leaf a b", "3 leaf a b", "4 leaf c d"),
		"ids alike, a kid missing":  storeOf("1 2 5", "2 kids 3 4", "3 leaf a b", "3 leaf c d"),
		"a page twice":              storeOf("1 2 3", "2 leaf b", "2 leaf b"),
		"an id 0":                   storeOf("1 2 5", "0 leaf x y", "2 leaf b"),
		"Root's id 0":               storeOf("1 0 5", "0 leaf b"),
		"an id too great":           storeOf("1 2 1000000", "2 leaf b", "1000001 leaf c"),
		"a page nobody leads to":    storeOf("1 2 5", "2 leaf b", "3 leaf c d"),
		"an empty page more":        storeOf("1 2 5", "2 leaf b", "3 leaf"),
		"a page above Root":         storeOf("1 2 5", "2 kids 3 4", "3 leaf a b", "4 leaf c d", "5 kids 2 3"),
		"a parent more":             storeOf("1 2 6", "2 kids 3 4", "3 leaf a b", "4 leaf c d", "5 kids 3 4"),
		"Root is a kid":             storeOf("1 3 5", "2 kids 3 4", "3 leaf a b", "4 leaf c d"),
		"a kid not there":           storeOf("1 2 6", "2 kids 3 4 5", "3 leaf a b", "4 leaf c d"),
		"the first kid not there":   storeOf("1 2 6", "2 kids 5 3 4", "3 leaf a b", "4 leaf c d"),
		"no kid there":              storeOf("1 2 6", "2 kids 3 4"),
		"a kid behind Next":         storeOf("1 2 5", "2 kids 3 4 9", "3 leaf a b", "4 leaf c d"),
		"a kid twice":               storeOf("1 2 5", "2 kids 3 3", "3 leaf a b"),
		"a page met twice":          storeOf("1 2 9", "2 kids 3 4", "3 kids 5 6", "4 kids 6 7", "5 leaf a b", "6 leaf c d", "7 leaf e f"),
		"a page met at two depths":  storeOf("1 2 9", "2 kids 3 4", "3 leaf a b", "4 kids 3 5", "5 leaf c d"),
		"its own kid":               storeOf("1 2 9", "2 kids 2 3", "3 leaf a b"),
		"a kid leads to Root":       storeOf("1 2 9", "2 kids 3 4", "3 leaf a b", "4 kids 2 3"),
		"two that lead round":       storeOf("1 2 9", "2 kids 3 4", "3 kids 4 5", "4 kids 3 5", "5 leaf a b"),
		"two apart that lead round": storeOf("1 2 9", "2 leaf b", "3 kids 4 5", "4 kids 3 5", "5 leaf c d"),
		"one pair below":            storeOf("1 2 5", "2 kids 3 4", "3 leaf b", "4 leaf c d"),
		"one pair below, last":      storeOf("1 2 5", "2 kids 3 4", "3 leaf a b", "4 leaf c"),
		"no pair below":             storeOf("1 2 5", "2 kids 3 4", "3 leaf a b", "4 leaf"),
		"no pair at all":            storeOf("1 2 5", "2 kids 3 4", "3 leaf", "4 leaf"),
		"unlike depths":             storeOf("1 2 7", "2 kids 3 4", "3 leaf a b", "4 kids 5 6", "5 leaf c d", "6 leaf e f"),
		"unlike depths, deep first": storeOf("1 2 7", "2 kids 4 3", "3 leaf e f", "4 kids 5 6", "5 leaf a b", "6 leaf c d"),
		"keys fall in a page":       storeOf("1 2 3", "2 leaf b a"),
		"keys fall between pages":   storeOf("1 2 5", "2 kids 3 4", "3 leaf c d", "4 leaf a b"),
		"keys between keys":         storeOf("1 2 5", "2 kids 3 4", "3 leaf a c", "4 leaf b d"),
		"a key in two pages":        storeOf("1 2 5", "2 kids 3 4", "3 leaf a b", "4 leaf b c"),
		"five pairs":                storeOf("1 2 3", "2 leaf a b c d e"),
		"five kids":                 storeOf("1 2 8", "2 kids 3 4 5 6 7", "3 leaf a b", "4 leaf c d", "5 leaf e f", "6 leaf g h", "7 leaf i j"),
		"one kid":                   storeOf("1 2 4", "2 kids 3", "3 leaf a b"),
		"a wrong key":               storeOf("1 2 4", "2 leaf b toolong:1"),
		"a wrong value":             storeOf("1 2 4", "2 leaf a: b"),
		"pairs and kids":            storeOf("1 2 5", "2 kids 3 4", "3 leaf b c", "4 leaf d e"),
		"61 pairs":                  storeFrom(wide(61), rising(1, 21), 30),
		"64 pairs":                  storeFrom(wide(64), falling(1, 21), 30),
		"100 pages":                 storeFrom(manyNodes(19), rising(1, 100), 200),
		"101 pages":                 storeFrom(manyNodes(20), rising(1, 101), 200),
		"101 pages, none led to":    {Pages: manyPages(101), Super: impl.Super{Gen: 1, Root: 1, Next: 200}},
		"the least numbers":         {Pages: []impl.Page{leaf(math.MinInt64, "b")}, Super: impl.Super{Gen: math.MinInt64, Root: math.MinInt64, Next: math.MinInt64}},
		"the greatest numbers":      {Pages: []impl.Page{leaf(math.MaxInt64, "b")}, Super: impl.Super{Gen: math.MaxInt64, Root: math.MaxInt64, Next: math.MaxInt64}},
	}
	w["pairs and kids"].Pages[0].Pairs = pairsOf("a")
	return w
}

func manyPages(n int) []impl.Page {
	var l []impl.Page
	for i := range n {
		l = append(l, leaf(int64(i+1), "b", "c"))
	}
	return l
}

// nodesOf lays the tree below a page as a list; none when pages are missing, or
// lead on without end.
func nodesOf(s impl.Shadow) []impl.Node {
	var t []impl.Node
	good := true
	var lay func(id int64) int64
	lay = func(id int64) int64 {
		i := slices.IndexFunc(s.Pages, func(p impl.Page) bool { return p.Id == id })
		if i < 0 || len(t) > 200 {
			good = false
			return 0
		}
		place := len(t)
		t = append(t, impl.Node{Pairs: s.Pages[i].Pairs})
		for _, kid := range s.Pages[i].Kids {
			t[place].Kids = append(t[place].Kids, lay(kid))
		}
		return int64(place)
	}
	lay(s.Super.Root)
	if !good {
		return nil
	}
	return t
}

// storeProblem tells why s is not right; "" when it is right.
func storeProblem(s impl.Shadow) string {
	super := s.Super
	if super.Gen < 1 || super.Gen > 1000000 || super.Next < 2 || super.Next > 1000000 || super.Root < 1 || super.Root >= super.Next {
		return "its Super"
	}
	seen := map[int64]int{}
	for i, p := range s.Pages {
		if i > 0 && p.Id <= s.Pages[i-1].Id || !pageIsRight(p) || p.Id >= super.Next {
			return "a page or its place"
		}
		for _, kid := range p.Kids {
			seen[kid]++
		}
	}
	for _, p := range s.Pages {
		want := 1
		if p.Id == super.Root {
			want = 0
		}
		if seen[p.Id] != want {
			return "how often a page is a kid"
		}
	}
	t := nodesOf(s)
	if len(t) != len(s.Pages) {
		return "pages that are not there, or nobody leads to"
	}
	if len(pairsIn(t)) > 60 {
		return "too many pairs"
	}
	return problemOf(t)
}

func TestRightStores(t *testing.T) {
	for name, s := range rightShadows() {
		if problem := storeProblem(s); problem != "" {
			t.Fatal(name, problem)
		}
		if !impl.ShadowOk(s) {
			t.Error(name, "is right")
		}
		if x := impl.ShadowTree(s); !sameTree(x, nodesOf(s)) || !impl.TreeOk(x) {
			t.Error(name, x)
		}
	}
	if s := impl.ShadowNew(); shown(s) != shown(storeOf("1 1 2", "1 leaf")) {
		t.Error("new:", s)
	}
	x := impl.ShadowTree(storeOf("3 3 12", "3 kids 9 5 4", "4 leaf e f g", "5 leaf c d", "9 leaf a b"))
	if !sameTree(x, treeFrom("((a b)(c d)(e f g))")) {
		t.Error(x)
	}
}

func TestWrongStoresAreRefused(t *testing.T) {
	for name, s := range wrongShadows() {
		if storeProblem(s) == "" {
			t.Fatal(name, "is right")
		}
		if impl.ShadowOk(s) {
			t.Error(name, "ShadowOk")
		}
		if x := impl.ShadowTree(s); len(x) != 0 {
			t.Error(name, "ShadowTree", x)
		}
		for _, l := range [][]impl.Change{nil, changesOf("b:1"), changesOf("z"), changesOf("-b"), changesOf("-z")} {
			checkRefused(t, name, s, l)
		}
	}
}

func checkRefused(t *testing.T, name string, s impl.Shadow, l []impl.Change) {
	t.Helper()
	n, made, gone, ok := impl.ShadowApply(s, l)
	if ok || shown(n) != shown(impl.Shadow{}) || len(made) != 0 || len(gone) != 0 {
		t.Error(name, "with", l, "is taken:", n, made, gone)
	}
}

// TestBendingAStore changes each number and list of right stores, and holds
// ShadowOk against what the test knows of right stores.
func TestBendingAStore(t *testing.T) {
	numbers := []int64{-1, 0, 1, 2, 3, 4, 5, 6, 7, 8, 9, 10, 11, 999999, 1000000, 1000001, math.MaxInt64, math.MinInt64}
	look := func(x impl.Shadow) {
		if got, want := impl.ShadowOk(x), storeProblem(x) == ""; got != want {
			t.Errorf("%v: %v, but %q", x, got, storeProblem(x))
		}
	}
	for _, name := range []string{"one page", "two levels", "kids by falling ids", "three levels", "three levels, falling"} {
		whole := rightShadows()[name]
		for _, n := range numbers {
			for i := range 3 {
				x := rightShadows()[name]
				*[]*int64{&x.Super.Gen, &x.Super.Root, &x.Super.Next}[i] = n
				look(x)
			}
			for place, p := range whole.Pages {
				x := rightShadows()[name]
				x.Pages[place].Id = n
				look(x)
				for i := range p.Kids {
					x := rightShadows()[name]
					x.Pages[place].Kids[i] = n
					look(x)
				}
			}
		}
		for place, p := range whole.Pages {
			x := rightShadows()[name]
			x.Pages = slices.Delete(x.Pages, place, place+1)
			look(x)
			for i := range p.Kids {
				x := rightShadows()[name]
				x.Pages[place].Kids = slices.Delete(x.Pages[place].Kids, i, i+1)
				look(x)
			}
			for i := range p.Pairs {
				x := rightShadows()[name]
				x.Pages[place].Pairs = slices.Delete(x.Pages[place].Pairs, i, i+1)
				look(x)
				for _, k := range []string{"", "a", "aa", "c", "cc", "f", "z", "toolong", "="} {
					x := rightShadows()[name]
					x.Pages[place].Pairs[i].Key = k
					look(x)
					x = rightShadows()[name]
					x.Pages[place].Pairs[i].Val = k
					look(x)
				}
			}
			for other := range whole.Pages {
				x := rightShadows()[name]
				x.Pages[place], x.Pages[other] = x.Pages[other], x.Pages[place]
				look(x)
			}
		}
	}
}

// applied is what ShadowApply answers, made by the model of trees: a page is
// found by holding all that is below it against all that is below a node.
func applied(s impl.Shadow, l []impl.Change) (impl.Shadow, []int64, []int64, bool) {
	if s.Super.Gen >= 1000000 || len(l) > 30 {
		return impl.Shadow{}, nil, nil, false
	}
	a := modelFrom(nodesOf(s), 0)
	for _, c := range l {
		if !impl.KeyOk(c.Key) || c.Gone && c.Val != "" || !c.Gone && !impl.KeyOk(c.Val) {
			return impl.Shadow{}, nil, nil, false
		}
		there := slices.ContainsFunc(pairsIn(a.nodes()), func(p impl.Pair) bool { return p.Key == c.Key })
		if !c.Gone {
			a = a.withPair(impl.Pair{Key: c.Key, Val: c.Val})
		} else if there {
			a = a.withoutKey(c.Key)
		}
	}
	if len(pairsIn(a.nodes())) > 60 {
		return impl.Shadow{}, nil, nil, false
	}
	n := impl.Shadow{Super: s.Super}
	n.Super.Gen++
	var made, gone []int64
	var lay func(a model) int64
	lay = func(a model) int64 {
		p := impl.Page{Id: pageWith(s, a), Pairs: a.pairs}
		if p.Id == 0 {
			p.Id = n.Super.Next
			n.Super.Next++
			made = append(made, p.Id)
		}
		for _, kid := range a.kids {
			p.Kids = append(p.Kids, lay(kid))
		}
		n.Pages = append(n.Pages, p)
		return p.Id
	}
	n.Super.Root = lay(a)
	slices.SortFunc(n.Pages, func(a impl.Page, b impl.Page) int { return int(a.Id - b.Id) })
	for _, p := range s.Pages {
		if !slices.ContainsFunc(n.Pages, func(q impl.Page) bool { return p.Id == q.Id }) {
			gone = append(gone, p.Id)
		}
	}
	if n.Super.Next > 1000000 {
		return impl.Shadow{}, nil, nil, false
	}
	return n, made, gone, true
}

// pageWith is the page of s below which, and in which, there is just what a
// has; 0 when there is none.
func pageWith(s impl.Shadow, a model) int64 {
	for _, p := range s.Pages {
		s.Super.Root = p.Id
		if sameTree(nodesOf(s), a.nodes()) {
			return p.Id
		}
	}
	return 0
}

// checkApply calls ShadowApply, holds its answer against the model's and against
// the promise, and gives the store that there is then.
func checkApply(t *testing.T, name string, s impl.Shadow, l []impl.Change) (impl.Shadow, []int64, []int64, bool) {
	t.Helper()
	n, made, gone, ok := impl.ShadowApply(s, l)
	want, wantMade, wantGone, wantOk := applied(s, l)
	if ok != wantOk || shown(n) != shown(want) || !slices.Equal(made, wantMade) || !slices.Equal(gone, wantGone) {
		t.Fatalf("%s: %v with %v is\n%v %v %v %v, not\n%v %v %v %v", name, s, l, n, made, gone, ok, want, wantMade, wantGone, wantOk)
	}
	if !ok {
		return s, made, gone, false
	}
	if problem := storeProblem(n); problem != "" || !impl.ShadowOk(n) {
		t.Fatal(name, n, "is not right:", problem)
	}
	checkPages(t, name, s, n, made, gone)
	if most := 2*impl.Height(impl.ShadowTree(s)) + 1; len(l) == 1 && int64(len(made)) > most {
		t.Fatal(name, "makes", made, "but may only make", most)
	}
	return n, made, gone, true
}

// checkPages looks whether no page that stays is another one than it was, and
// whether just what is told is new and gone, in order.
func checkPages(t *testing.T, name string, s impl.Shadow, n impl.Shadow, made []int64, gone []int64) {
	t.Helper()
	before, behind := map[int64]string{}, map[int64]string{}
	for _, p := range s.Pages {
		before[p.Id] = shown(p)
	}
	for _, p := range n.Pages {
		behind[p.Id] = shown(p)
		if text, stays := before[p.Id]; stays && text != shown(p) {
			t.Fatal(name, "page", p.Id, "was", text)
		}
		if _, stays := before[p.Id]; stays == slices.Contains(made, p.Id) {
			t.Fatal(name, "page", p.Id, "is told wrongly as new or not:", made)
		}
	}
	for _, p := range s.Pages {
		if _, stays := behind[p.Id]; stays == slices.Contains(gone, p.Id) {
			t.Fatal(name, "page", p.Id, "is told wrongly as gone or not:", gone)
		}
	}
	for _, l := range [][]int64{made, gone} {
		if !slices.IsSorted(l) || len(slices.Compact(slices.Clone(l))) != len(l) {
			t.Fatal(name, l, "does not rise")
		}
	}
	if len(made)-len(gone) != len(n.Pages)-len(s.Pages) || len(made) != int(n.Super.Next-s.Super.Next) {
		t.Fatal(name, made, gone, "are too many or too few")
	}
}

func TestApply(t *testing.T) {
	two := []string{"3 kids 4 5", "4 leaf a b", "5 leaf c d"}
	for _, c := range []struct {
		name    string
		from    impl.Shadow
		changes string
		want    impl.Shadow
		made    []int64
		gone    []int64
	}{
		{"nothing to a new store", storeOf("1 1 2", "1 leaf"), "", storeOf("2 1 2", "1 leaf"), nil, nil},
		{"nothing to more", storeOf("3 3 6", two...), "", storeOf("4 3 6", two...), nil, nil},
		{"the first key", storeOf("1 1 2", "1 leaf"), "a", storeOf("2 2 3", "2 leaf a"), rising(2, 1), rising(1, 1)},
		{"the last key", storeOf("4 2 9", "2 leaf a"), "-a", storeOf("5 9 10", "9 leaf"), rising(9, 1), rising(2, 1)},
		{"a key that is not there", storeOf("3 3 6", two...), "-aa", storeOf("4 3 6", two...), nil, nil},
		{"keys that are not there", storeOf("1 1 2", "1 leaf"), "-a -b", storeOf("2 1 2", "1 leaf"), nil, nil},
		{"what is there already", storeOf("3 3 6", two...), "d a b", storeOf("4 3 6", two...), nil, nil},
		{"another value", storeOf("3 3 6", two...), "c:9", storeOf("4 6 8", "4 leaf a b", "6 kids 4 7", "7 leaf c:9 d"), rising(6, 2), []int64{3, 5}},
		{"a value there and back", storeOf("3 3 6", two...), "c:9 c", storeOf("4 3 6", two...), nil, nil},
		{"put and dropped again", storeOf("3 3 6", two...), "e -e", storeOf("4 3 6", two...), nil, nil},
		{"dropped and put again", storeOf("3 3 7", "3 kids 4 5", "4 leaf a b c", "5 leaf d e"), "-b b", storeOf("4 3 7", "3 kids 4 5", "4 leaf a b c", "5 leaf d e"), nil, nil},
		{"one page comes back, one does not", storeOf("3 3 6", two...), "e a:9 -e", storeOf("4 6 8", "5 leaf c d", "6 kids 7 5", "7 leaf a:9 b"), rising(6, 2), []int64{3, 4}},
		{"the first page becomes a kid", storeOf("2 2 3", "2 leaf a b c"), "d e", storeOf("3 3 5", "2 leaf a b c", "3 kids 2 4", "4 leaf d e"), rising(3, 2), nil},
		{"a kid becomes the first page", storeOf("3 3 6", two...), "-a -b", storeOf("4 5 6", "5 leaf c d"), nil, []int64{3, 4}},
		{"the first kid becomes the first page", storeOf("3 3 6", two...), "-d -c", storeOf("4 4 6", "4 leaf a b"), nil, []int64{3, 5}},
		{"all gone and put again", storeOf("2 2 5", "2 leaf a b"), "-a -b b a", storeOf("3 2 5", "2 leaf a b"), nil, nil},
		{"a full page", storeOf("2 2 3", "2 leaf a b c d"), "e", storeOf("3 3 6", "3 kids 4 5", "4 leaf a b c", "5 leaf d e"), rising(3, 3), rising(2, 1)},
		{"the long way up", storeOf("3 3 9", "3 kids 4 5 6 7", "4 leaf a b", "5 leaf c d", "6 leaf e f", "7 leaf g h i j"), "k",
			storeOf("4 9 14", "4 leaf a b", "5 leaf c d", "6 leaf e f", "9 kids 10 11", "10 kids 4 5 6", "11 kids 12 13", "12 leaf g h i", "13 leaf j k"),
			rising(9, 5), []int64{3, 7}},
		{"the first node first, then its kids, in order", storeFrom(treeFrom("(((a b)(c d))((e f)(g h)))"), rising(2, 7), 20), "g:9 a:9",
			storeOf("2 20 25", "5 leaf c d", "7 leaf e f", "20 kids 21 23", "21 kids 22 5", "22 leaf a:9 b", "23 kids 7 24", "24 leaf g:9 h"),
			rising(20, 5), []int64{2, 3, 4, 6, 8}},
		{"two pages below, none between", storeOf("3 9 30", "2 leaf g h", "5 leaf e f", "7 leaf c d", "8 leaf a b", "9 kids 8 7 5 2"), "h:9 c:9",
			storeOf("4 30 33", "5 leaf e f", "8 leaf a b", "30 kids 8 31 5 32", "31 leaf c:9 d", "32 leaf g h:9"),
			rising(30, 3), []int64{2, 7, 9}},
		{"pages that are joined", storeOf("3 3 12", "3 kids 4 5 6", "4 leaf a b", "5 leaf c d", "6 leaf e f"), "-e",
			storeOf("4 12 14", "4 leaf a b", "12 kids 4 13", "13 leaf c d f"), rising(12, 2), []int64{3, 5, 6}},
		{"three levels become two", storeFrom(treeFrom("(((a b)(c d))((e f)(g h)))"), rising(2, 7), 9), "-a",
			storeOf("2 9 11", "7 leaf e f", "8 leaf g h", "9 kids 10 7 8", "10 leaf b c d"), rising(9, 2), rising(2, 5)},
	} {
		n, made, gone, ok := checkApply(t, c.name, c.from, changesOf(strings.Fields(c.changes)...))
		if !ok || shown(n) != shown(c.want) || !slices.Equal(made, c.made) || !slices.Equal(gone, c.gone) {
			t.Errorf("%s: %v %v %v %v, not %v", c.name, n, made, gone, ok, c.want)
		}
	}
}

func TestApplyRefusesWrongChanges(t *testing.T) {
	wrong := map[string]impl.Change{
		"nothing at all":              {},
		"an empty key":                {Val: "1"},
		"a key of 7":                  {Key: "abcdefg", Val: "1"},
		"a blank in a key":            {Key: "a b", Val: "1"},
		"= in a key":                  {Key: "a=", Val: "1"},
		"an empty value":              {Key: "a"},
		"a value of 7":                {Key: "a", Val: "abcdefg"},
		"= in a value":                {Key: "a", Val: "=1"},
		"byte 127 in a value":         {Key: "a", Val: "\x7f"},
		"gone, an empty key":          {Gone: true},
		"gone, a key of 7":            {Key: "abcdefg", Gone: true},
		"gone, = in a key":            {Key: "=", Gone: true},
		"gone, with a value":          {Key: "a", Val: "1", Gone: true},
		"gone, with its value":        {Key: "a", Val: "va", Gone: true},
		"gone, not there, a value":    {Key: "zz", Val: "1", Gone: true},
		"gone, with a wrong value":    {Key: "a", Val: "a=", Gone: true},
		"gone, with a blank as value": {Key: "a", Val: " ", Gone: true},
	}
	for _, s := range []impl.Shadow{impl.ShadowNew(), storeOf("3 3 6", "3 kids 4 5", "4 leaf a b", "5 leaf c d")} {
		for name, c := range wrong {
			checkRefused(t, name, s, []impl.Change{c})
			checkRefused(t, name, s, append(changesOf("x", "-y"), c))
			checkRefused(t, name, s, append([]impl.Change{c}, changesOf("x", "-y")...))
		}
	}
}

func TestApplyAtMost30Changes(t *testing.T) {
	s := storeOf("3 3 6", "3 kids 4 5", "4 leaf a b", "5 leaf c d")
	for _, words := range [][]string{{"a"}, {"e"}, {"-a", "a"}, {"-zz"}, {"e", "-e"}} {
		l := changesOf(slices.Repeat(words, 30/len(words))...)
		if _, _, _, ok := checkApply(t, "30 changes", s, l); !ok {
			t.Error(words, "30 times")
		}
		checkRefused(t, "31 changes", s, append(l, l[0]))
		checkRefused(t, "60 changes", s, append(l, l...))
	}
	var fresh []impl.Change
	for _, p := range numbered(31) {
		fresh = append(fresh, impl.Change{Key: p.Key, Val: p.Val})
	}
	n, _, _, ok := checkApply(t, "30 new keys", impl.ShadowNew(), fresh[:30])
	if !ok || !slices.Equal(impl.TreeMap(impl.ShadowTree(n)), numbered(30)) {
		t.Error("30 new keys", n)
	}
	checkRefused(t, "31 new keys", impl.ShadowNew(), fresh)
}

// TestApplyAtTheLimitOfPairs has more pairs on the way than there may be in the
// end.
func TestApplyAtTheLimitOfPairs(t *testing.T) {
	news := func(n int) []impl.Change {
		var l []impl.Change
		for i := range n {
			l = append(l, impl.Change{Key: "n" + strconv.Itoa(10+i), Val: "1"})
		}
		return l
	}
	drops := func(keys []impl.Pair) []impl.Change {
		var l []impl.Change
		for _, p := range keys {
			l = append(l, impl.Change{Key: p.Key, Gone: true})
		}
		return l
	}
	for _, name := range []string{"60 pairs", "60 pairs, falling", "60 pairs, two in a page"} {
		s := rightShadows()[name]
		m := pairsIn(nodesOf(s))
		for _, c := range []struct {
			name string
			l    []impl.Change
			ok   bool
		}{
			{"one more", news(1), false},
			{"another value", []impl.Change{{Key: m[30].Key, Val: "new"}}, true},
			{"one more and one less", append(news(1), drops(m[:1])...), true},
			{"one less and one more", append(drops(m[59:]), news(1)...), true},
			{"two more and one less", append(news(2), drops(m[5:6])...), false},
			{"one more, dropped again", append(news(1), changesOf("-n10")...), true},
			{"15 more and 15 less", append(news(15), drops(m[20:35])...), true},
			{"16 more and 14 less", append(news(16), drops(m[20:34])...), false},
			{"15 more, dropped again", append(news(15), drops(pairsOf("n10", "n11", "n12", "n13", "n14", "n15", "n16", "n17", "n18", "n19", "n20", "n21", "n22", "n23", "n24"))...), true},
			{"30 more", news(30), false},
			{"29 more and one that is not there", append(news(29), changesOf("-zz")...), false},
			{"30 less", drops(m[15:45]), true},
		} {
			if _, _, _, ok := checkApply(t, name+": "+c.name, s, c.l); ok != c.ok {
				t.Error(name, c.name, ok)
			}
		}
	}
	s := storeFrom(layered([]int{4}, []int{4, 4, 4, 4}, append(times(12, 4, 3, 3), 2)), rising(1, 21), 22)
	if n, _, _, ok := checkApply(t, "the 60th", s, news(1)); !ok || len(pairsIn(nodesOf(n))) != 60 {
		t.Error("the 60th", n, ok)
	}
	checkRefused(t, "the 61st", s, news(2))
}

func TestApplyAtTheLimitOfIds(t *testing.T) {
	for next := int64(999990); next <= 1000000; next++ {
		s := storeOf(fmt.Sprint("3 3 ", next), "3 kids 4 5", "4 leaf a b c d", "5 leaf e f g h")
		for changes, news := range map[string]int64{"": 0, "-zz": 0, "a": 0, "a:9 a": 0, "a:9": 2, "i": 3, "b1": 3, "a:9 h:9": 3, "b1 i": 5, "-a": 2, "-a -b -c": 3} {
			n, made, _, ok := checkApply(t, changes, s, changesOf(strings.Fields(changes)...))
			if ok != (next+news <= 1000000) || ok && (n.Super.Next != next+news || int64(len(made)) != news) {
				t.Error(next, changes, n, made, ok)
			}
		}
	}
	n, made, _, ok := checkApply(t, "the last id", storeOf("3 999998 999999", "999998 leaf a"), changesOf("b"))
	if !ok || !slices.Equal(made, rising(999999, 1)) || n.Super.Next != 1000000 {
		t.Error(n, made, ok)
	}
	if !impl.ShadowOk(n) {
		t.Error("Next may be 1000000")
	}
	checkRefused(t, "an id too many", n, changesOf("c"))
	if _, _, _, ok := checkApply(t, "no new id", n, changesOf("-c")); !ok {
		t.Error("no new id is wanted")
	}
}

func TestApplyAtTheLimitOfGen(t *testing.T) {
	for gen := int64(999998); gen <= 1000000; gen++ {
		s := storeOf(fmt.Sprint(gen, " 2 5"), "2 leaf a b")
		if !impl.ShadowOk(s) {
			t.Error(gen, "is right")
		}
		for _, l := range [][]impl.Change{nil, changesOf("a:9"), changesOf("c"), changesOf("-a"), changesOf("-c")} {
			n, _, _, ok := checkApply(t, "Gen", s, l)
			if ok != (gen < 1000000) || ok && n.Super.Gen != gen+1 {
				t.Error(gen, l, n, ok)
			}
		}
	}
}

// TestEveryOneChange drops each key of each right store, gives it another
// value, and puts one ahead of it.
func TestEveryOneChange(t *testing.T) {
	for name, s := range rightShadows() {
		for _, p := range pairsIn(nodesOf(s)) {
			for _, l := range [][]impl.Change{
				changesOf("-" + p.Key),
				changesOf(p.Key + ":other"),
				changesOf(p.Key + ":" + p.Val),
				changesOf(p.Key + "!"),
				changesOf("-" + p.Key + "!"),
				changesOf("-"+p.Key, p.Key+":"+p.Val),
				changesOf(p.Key+"!", "-"+p.Key+"!"),
			} {
				checkApply(t, name, s, l)
			}
		}
	}
}

// TestStoresAgainstMapsAndAModel changes stores many times over. What one has
// is held against a map; stores of before are looked at again later.
func TestStoresAgainstMapsAndAModel(t *testing.T) {
	for seed := range int64(6) {
		r := rand.New(rand.NewSource(seed))
		s := impl.ShadowNew()
		var m []impl.Pair
		var old impl.Shadow
		var oldText string
		taken, tallest := 0, int64(0)
		for i := range 500 {
			l := someWords(r, i/50%2 == 0)
			n, made, _, ok := checkApply(t, fmt.Sprint(seed, i), s, l)
			if ok {
				m = changedMap(m, l)
				tallest = max(tallest, impl.Height(impl.ShadowTree(n)))
				taken += len(n.Pages) - len(made)
				s = n
			}
			if !slices.Equal(impl.TreeMap(impl.ShadowTree(s)), m) {
				t.Fatal(seed, i, s, "has not", m)
			}
			if i%50 == 10 {
				old, oldText = s, shown(s)
			}
			if i > 10 && shown(old) != oldText {
				t.Fatal(seed, i, "an old store is", old, "and was", oldText)
			}
		}
		if tallest < 3 || taken < 500 {
			t.Error(seed, "too little is tried:", tallest, taken)
		}
	}
}

// someWords are a few changes, mostly puts or mostly drops, some of which undo
// each other.
func someWords(r *rand.Rand, grows bool) []impl.Change {
	var l []impl.Change
	for range r.Intn(6) {
		k := string([]byte{byte('a' + r.Intn(10)), byte('0' + r.Intn(8))})
		first, other := impl.Change{Key: k, Val: strconv.Itoa(r.Intn(3))}, impl.Change{Key: k, Gone: true}
		if grows != (r.Intn(5) > 0) {
			first, other = other, first
		}
		l = append(l, first)
		if r.Intn(4) == 0 {
			l = append(l, other)
		}
	}
	return l
}

func changedMap(m []impl.Pair, l []impl.Change) []impl.Pair {
	have := valuesIn(m)
	for _, c := range l {
		if c.Gone {
			delete(have, c.Key)
		} else {
			have[c.Key] = c.Val
		}
	}
	return pairsFrom(have)
}
