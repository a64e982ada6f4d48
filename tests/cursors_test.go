package tests

import (
	"math"
	"math/rand"
	"slices"
	"strconv"
	"strings"
	"testing"

	"loop.example/g00573/impl"
)

// cursorTrees are right trees of all heights.
func cursorTrees() map[string][]impl.Node {
	l := treesOfMany()
	for _, s := range []string{
		"()",
		"(a)",
		"(b d f h)",
		"(a aa aaa)",
		"(! A Z ~~~~~~:9)",
		"((b d)(f h))",
		"((b d f)(h j k l)(n p))",
		"(((b d)(f h))((j l m)(n p q r)))",
		"((((a b)(c d))((e f)(g h)))(((i j)(k l))((m n)(o p))))",
	} {
		l[s] = treeFrom(s)
	}
	for _, n := range []int{1, 5, 17, 59, 60} {
		l[strconv.Itoa(n)+" pairs, by TreeOf"], _ = impl.TreeOf(numbered(n))
	}
	return l
}

// cursorKeys are texts on either side of each key, and such as no key can be.
func cursorKeys(m []impl.Pair) []string {
	l := []string{"", "\x00", " ", "!", "=", "a", "c", "g", "i9", "k", "z", "~", "~~~~~~~", "\x7f", "\xff", "\xc3\xa9", strings.Repeat("k", 1000), strings.Repeat("\xff", 1000)}
	for _, p := range m {
		k := p.Key
		l = append(l, k, k+"\x00", k+"=", k+"\xff", k[:len(k)-1], k[:len(k)-1]+string([]byte{k[len(k)-1] - 1}), k[:len(k)-1]+string([]byte{k[len(k)-1] + 1}), p.Val)
	}
	return l
}

func TestCursors(t *testing.T) {
	x := treeFrom("((b d)(f h j)(l ll))")
	for _, c := range []struct {
		name, k, seek, after, before string
		rank                         int64
	}{
		{"there", "f", "f", "h", "d", 2},
		{"there, the first of a node", "l", "l", "ll", "j", 5},
		{"there, the last of a node", "d", "d", "f", "b", 1},
		{"there, the first of all", "b", "b", "d", "", 0},
		{"there, the last of all", "ll", "ll", "", "l", 6},
		{"not there, in a node", "g", "h", "h", "f", 3},
		{"not there, between nodes", "e", "f", "f", "d", 2},
		{"not there, though one begins so", "lk", "ll", "ll", "l", 6},
		{"ahead of the first one", "a", "b", "b", "", 0},
		{"behind the last one", "m", "", "", "ll", 7},
		{"behind the last one, longer", "lll", "", "", "ll", 7},
		{"empty", "", "b", "b", "", 0},
		{"longer than 6 bytes", "fffffffffffff", "h", "h", "f", 3},
		{"longer than 6 bytes, ahead of all", "aaaaaaaaa", "b", "b", "", 0},
		{"longer than 6 bytes, behind all", "zzzzzzzzz", "", "", "ll", 7},
		{"a byte that no key has, ahead of all", "\x00", "b", "b", "", 0},
		{"a byte that no key has, behind all", "\xff", "", "", "ll", 7},
		{"a byte that no key has, behind a key", "f\x00", "h", "h", "f", 3},
		{"a blank behind a key", "f ", "h", "h", "f", 3},
		{"= behind a key", "b=vb", "d", "d", "b", 1},
		{"a great letter", "F", "b", "b", "", 0},
		{"a value", "vf", "", "", "ll", 7},
	} {
		checkCursor(t, c.name, "Seek", impl.Seek, x, c.k, c.seek)
		checkCursor(t, c.name, "After", impl.After, x, c.k, c.after)
		checkCursor(t, c.name, "Before", impl.Before, x, c.k, c.before)
		if got := impl.Rank(x, c.k); got != c.rank {
			t.Errorf("%s: Rank of %q: %d", c.name, c.k, got)
		}
	}
}

// checkCursor looks whether f finds the pair with the key want, or, where want
// is empty, none.
func checkCursor(t *testing.T, name string, call string, f func(x []impl.Node, k string) (impl.Pair, bool), x []impl.Node, k string, want string) {
	t.Helper()
	var p impl.Pair
	if want != "" {
		p = pairsOf(want)[0]
	}
	if got, ok := f(x, k); got != p || ok != (want != "") {
		t.Errorf("%s: %s of %q: %v %v, not %q", name, call, k, got, ok, want)
	}
}

func TestNth(t *testing.T) {
	for name, x := range cursorTrees() {
		m := pairsIn(x)
		for i, p := range m {
			if got, ok := impl.Nth(x, int64(i)); !ok || got != p {
				t.Error(name, i, got, ok)
			}
		}
		for _, i := range []int64{-1, -2, -int64(len(m)), math.MinInt64, int64(len(m)), int64(len(m)) + 1, 1000, 1 << 32, math.MaxInt64} {
			if got, ok := impl.Nth(x, i); ok || got != (impl.Pair{}) {
				t.Error(name, len(m), "pairs, place", i, got, ok)
			}
		}
	}
}

func TestCursorsOfATreeWithoutPairs(t *testing.T) {
	for _, x := range [][]impl.Node{treeFrom("()"), {{Pairs: []impl.Pair{}, Kids: []int64{}}}} {
		checkNothingFound(t, "no pairs", x)
	}
}

func TestCursorsOfTreesThatAreNotRight(t *testing.T) {
	for name, x := range wrongTrees() {
		checkNothingFound(t, name, x)
	}
	checkNothingFound(t, "no nodes", nil)
	checkNothingFound(t, "no nodes, not nil", []impl.Node{})
}

func checkNothingFound(t *testing.T, name string, x []impl.Node) {
	t.Helper()
	for _, k := range []string{"", "a", "b", "bb", "k150", "z", "\xff", "too long a key"} {
		checkCursor(t, name, "Seek", impl.Seek, x, k, "")
		checkCursor(t, name, "After", impl.After, x, k, "")
		checkCursor(t, name, "Before", impl.Before, x, k, "")
		if n := impl.Rank(x, k); n != 0 {
			t.Error(name, "Rank", k, n)
		}
	}
	for _, i := range []int64{-1, 0, 1, 2} {
		if p, ok := impl.Nth(x, i); ok || p != (impl.Pair{}) {
			t.Error(name, "Nth", i, p)
		}
	}
}

// lookedUp is what the cursors have to find of m, by a look at every pair from
// behind.
func lookedUp(m []impl.Pair, k string) (seek []impl.Pair, after []impl.Pair, before []impl.Pair) {
	for i := len(m) - 1; i >= 0; i-- {
		p := m[i]
		switch strings.Compare(p.Key, k) {
		case -1:
			before = append(before, p)
		case 0:
			seek = []impl.Pair{p}
		case 1:
			seek, after = []impl.Pair{p}, []impl.Pair{p}
		}
	}
	return seek, after, before
}

func checkFound(t *testing.T, name string, got impl.Pair, ok bool, want []impl.Pair) {
	t.Helper()
	if ok != (len(want) > 0) || ok && got != want[0] || !ok && got != (impl.Pair{}) {
		t.Fatal(name, got, ok, want)
	}
}

func checkPromise8(t *testing.T, x []impl.Node, m []impl.Pair, k string) {
	t.Helper()
	seek, after, before := lookedUp(m, k)
	p, ok := impl.Seek(x, k)
	checkFound(t, "Seek "+k, p, ok, seek)
	p, ok = impl.After(x, k)
	checkFound(t, "After "+k, p, ok, after)
	p, ok = impl.Before(x, k)
	checkFound(t, "Before "+k, p, ok, before)
	rank := impl.Rank(x, k)
	if rank != int64(len(before)) {
		t.Fatal("Rank", k, rank, len(before))
	}
	p, ok = impl.Nth(x, rank)
	checkFound(t, "Nth at the rank of "+k, p, ok, seek)
	p, ok = impl.Nth(x, rank-1)
	checkFound(t, "Nth ahead of the rank of "+k, p, ok, before)
}

func TestPromise8(t *testing.T) {
	for name, x := range cursorTrees() {
		if problem := problemOf(x); problem != "" {
			t.Fatal(name, problem)
		}
		m := pairsIn(x)
		for _, k := range cursorKeys(m) {
			checkPromise8(t, x, m, k)
		}
	}
}

// TestGoingThroughATree goes from pair to pair, both ways.
func TestGoingThroughATree(t *testing.T) {
	for name, x := range cursorTrees() {
		var up, down []impl.Pair
		for p, ok := impl.Seek(x, ""); ok; p, ok = impl.After(x, p.Key) {
			up = append(up, p)
		}
		for p, ok := impl.Before(x, "\xff"); ok; p, ok = impl.Before(x, p.Key) {
			down = append(down, p)
		}
		slices.Reverse(down)
		if m := pairsIn(x); !slices.Equal(up, m) || !slices.Equal(down, m) {
			t.Error(name, up, down)
		}
	}
}

// TestCursorsOfTreesThatChange looks at trees whose nodes have lost and got
// pairs, so that no key tells any more what once led to it.
func TestCursorsOfTreesThatChange(t *testing.T) {
	r := rand.New(rand.NewSource(8))
	x := treeFrom("()")
	tallest := int64(0)
	for i := range 3000 {
		k := string([]byte{byte('a' + r.Intn(10)), byte('0' + r.Intn(9))})
		change := func() ([]impl.Node, bool) { return impl.TreePut(x, k, "1") }
		if (i/200%2 == 0) == (r.Intn(5) == 0) {
			change = func() ([]impl.Node, bool) { return impl.TreeDrop(x, k) }
		}
		if y, ok := change(); ok {
			x = y
		}
		checkPromise8(t, x, pairsIn(x), k)
		checkPromise8(t, x, pairsIn(x), k[:1])
		tallest = max(tallest, impl.Height(x))
	}
	if tallest < 4 {
		t.Error("no tree was higher than", tallest)
	}
}
