package tests

import (
	"math"
	"math/rand"
	"slices"
	"strconv"
	"strings"
	"testing"

	"loop.example/g00573/impl"
)

func keysIn(m []impl.Pair) string {
	var l []string
	for _, p := range m {
		l = append(l, p.Key)
	}
	return strings.Join(l, " ")
}

// looked is what Range has of any pairs, by a look at each.
func looked(m []impl.Pair, low string, high string) []impl.Pair {
	var l []impl.Pair
	for _, p := range m {
		if strings.Compare(p.Key, low) >= 0 && (high == "" || strings.Compare(p.Key, high) < 0) {
			l = append(l, p)
		}
	}
	return l
}

// checkScans looks at one call of each of the scans of a right tree.
func checkScans(t *testing.T, x []impl.Node, low string, high string, most int64) {
	t.Helper()
	in, below := looked(pairsIn(x), low, high), looked(pairsIn(x), "", high)
	slices.Reverse(below)
	if n := impl.CountIn(x, low, high); n != int64(len(in)) {
		t.Fatal("CountIn", low, high, n, in)
	}
	var up, down []impl.Pair
	next := ""
	if most >= 0 {
		for i, p := range in {
			if int64(i) < most {
				up = append(up, p)
			} else if next == "" {
				next = p.Key
			}
		}
		down = below[:min(uint64(most), uint64(len(below)))]
	}
	if l, k := impl.ScanUp(x, low, high, most); !slices.Equal(l, up) || k != next {
		t.Fatal("ScanUp", low, high, most, l, k, up, next)
	}
	if l := impl.ScanDown(x, high, most); !slices.Equal(l, down) {
		t.Fatal("ScanDown", high, most, l, down)
	}
}

func TestScanUp(t *testing.T) {
	x := treeFrom("((b d)(f h j)(l ll))")
	const great = math.MaxInt64
	for _, c := range []struct {
		name, low, high string
		most            int64
		want, next      string
	}{
		{"all", "", "", great, "b d f h j l ll", ""},
		{"all, just as many", "", "", 7, "b d f h j l ll", ""},
		{"all, one more", "", "", 8, "b d f h j l ll", ""},
		{"all, one less", "", "", 6, "b d f h j l", "ll"},
		{"all, one", "", "", 1, "b", "d"},
		{"all, none", "", "", 0, "", "b"},
		{"below 0", "", "", -1, "", ""},
		{"the least", "", "", math.MinInt64, "", ""},
		{"a range", "d", "l", great, "d f h j", ""},
		{"a range, just as many", "d", "l", 4, "d f h j", ""},
		{"a range, one more", "d", "l", 5, "d f h j", ""},
		{"a range, one less", "d", "l", 3, "d f h", "j"},
		{"a range, one", "d", "l", 1, "d", "f"},
		{"a range, none", "d", "l", 0, "", "d"},
		{"a range, below 0", "d", "l", -1, "", ""},
		{"from between two", "e", "", 2, "f h", "j"},
		{"up to between two", "", "e", 2, "b d", ""},
		{"the next one is high", "b", "f", 2, "b d", ""},
		{"alike", "d", "d", 9, "", ""},
		{"alike, not there", "e", "e", 9, "", ""},
		{"the wrong way round", "h", "d", 9, "", ""},
		{"the wrong way round, none", "h", "d", 0, "", ""},
		{"ahead of all", "", "b", 9, "", ""},
		{"ahead of all, none", "", "b", 0, "", ""},
		{"ahead of all, by a", "a", "aa", 9, "", ""},
		{"behind all", "m", "", 9, "", ""},
		{"behind all, up to z", "lll", "z", 0, "", ""},
		{"between two", "e", "ez", 9, "", ""},
		{"between two, none", "e", "ez", 0, "", ""},
		{"the last one", "ll", "", 1, "ll", ""},
		{"the last one, none", "ll", "", 0, "", "ll"},
		{"one begins so", "l", "ll", 9, "l", ""},
		{"long ones", "ddddddddd", "jjjjjjjjj", 2, "f h", "j"},
		{"a low longer than a key", "lllllllll", "", 9, "", ""},
		{"a high longer than a key", "", "bbbbbbbbb", 9, "b", ""},
		{"bytes that no key has", "d\x00", "j\x00", 9, "f h j", ""},
		{"a high that is 0", "", "\x00", 9, "", ""},
		{"a low that is 0", "\x00", "", 1, "b", "d"},
		{"a low behind all bytes", "\xff", "", 9, "", ""},
		{"a high behind all bytes", "h", "\xff", 2, "h j", "l"},
		{"= behind keys", "b=vb", "d=vd", 9, "d", ""},
	} {
		l, next := impl.ScanUp(x, c.low, c.high, c.most)
		if keysIn(l) != c.want || next != c.next || !slices.Equal(l, pairsOf(strings.Fields(c.want)...)) {
			t.Errorf("%s: %v %q", c.name, l, next)
		}
	}
}

func TestScanDown(t *testing.T) {
	x := treeFrom("((b d)(f h j)(l ll))")
	for _, c := range []struct {
		name, high string
		most       int64
		want       string
	}{
		{"all", "", math.MaxInt64, "ll l j h f d b"},
		{"all, just as many", "", 7, "ll l j h f d b"},
		{"all, one more", "", 8, "ll l j h f d b"},
		{"all, one less", "", 6, "ll l j h f d"},
		{"all, one", "", 1, "ll"},
		{"all, none", "", 0, ""},
		{"below 0", "", -1, ""},
		{"the least", "", math.MinInt64, ""},
		{"ahead of a key", "h", 9, "f d b"},
		{"ahead of a key, just as many", "h", 3, "f d b"},
		{"ahead of a key, one less", "h", 2, "f d"},
		{"ahead of a key, one more", "h", 4, "f d b"},
		{"ahead of a key, none", "h", 0, ""},
		{"ahead of a key, below 0", "h", -1, ""},
		{"between two", "g", 2, "f d"},
		{"ahead of the first one", "b", 9, ""},
		{"ahead of all", "a", 9, ""},
		{"behind the first one", "b\x00", 9, "b"},
		{"the last one", "ll", 2, "l j"},
		{"behind all", "m", 2, "ll l"},
		{"longer than a key", "jjjjjjjjj", 2, "j h"},
		{"a byte ahead of all", "\x00", 9, ""},
		{"a byte behind all", "\xff", 1, "ll"},
	} {
		l := impl.ScanDown(x, c.high, c.most)
		if keysIn(l) != c.want || !slices.Equal(l, pairsOf(strings.Fields(c.want)...)) {
			t.Errorf("%s: %v", c.name, l)
		}
	}
}

func TestCountIn(t *testing.T) {
	x := treeFrom("((b d)(f h j)(l ll))")
	for _, c := range []struct {
		name, low, high string
		want            int64
	}{
		{"all", "", "", 7},
		{"from the first one on", "b", "", 7},
		{"from behind it on", "c", "", 6},
		{"from the last one on", "ll", "", 1},
		{"behind all", "m", "", 0},
		{"ahead of the last one", "", "ll", 6},
		{"ahead of the first one", "", "b", 0},
		{"a range", "d", "l", 4},
		{"between keys", "c", "k", 4},
		{"one", "f", "g", 1},
		{"alike", "f", "f", 0},
		{"the wrong way round", "l", "d", 0},
		{"between two", "g", "gz", 0},
		{"long ones", "ddddddddd", "lllllllll", 5},
		{"bytes that no key has", "\x00", "\xff", 7},
		{"bytes that no key has, the wrong way round", "\xff", "\x00", 0},
	} {
		if n := impl.CountIn(x, c.low, c.high); n != c.want {
			t.Error(c.name, n)
		}
	}
}

// TestScansOfAny takes any low, high and most with trees of all heights.
func TestScansOfAny(t *testing.T) {
	r := rand.New(rand.NewSource(14))
	for _, x := range cursorTrees() {
		keys := cursorKeys(pairsIn(x))
		n := int64(len(pairsIn(x)))
		for range 700 {
			low, high := keys[r.Intn(len(keys))], keys[r.Intn(len(keys))]
			in := int64(len(looked(pairsIn(x), low, high)))
			for _, most := range []int64{0, 1, in - 1, in, in + 1, n, r.Int63n(n + 2), -1 - r.Int63n(9), math.MaxInt64, math.MinInt64} {
				checkScans(t, x, low, high, most)
			}
		}
	}
}

func TestScansOfATreeWithoutPairs(t *testing.T) {
	for _, x := range [][]impl.Node{treeFrom("()"), {{Pairs: []impl.Pair{}, Kids: []int64{}}}} {
		checkNothingScanned(t, "no pairs", x)
	}
}

func TestScansOfTreesThatAreNotRight(t *testing.T) {
	for name, x := range wrongTrees() {
		checkNothingScanned(t, name, x)
	}
	checkNothingScanned(t, "no nodes", nil)
	checkNothingScanned(t, "no nodes, not nil", []impl.Node{})
}

func checkNothingScanned(t *testing.T, name string, x []impl.Node) {
	t.Helper()
	for _, most := range []int64{-1, 0, 1, 9, math.MaxInt64} {
		for _, low := range []string{"", "a", "b"} {
			for _, high := range []string{"", "c", "z", "\xff"} {
				if l, k := impl.ScanUp(x, low, high, most); len(l) != 0 || k != "" {
					t.Error(name, "ScanUp", low, high, most, l, k)
				}
				if l := impl.ScanDown(x, high, most); len(l) != 0 {
					t.Error(name, "ScanDown", high, most, l)
				}
				if n := impl.CountIn(x, low, high); n != 0 {
					t.Error(name, "CountIn", low, high, n)
				}
			}
		}
	}
}

// TestPromise14 looks trees over bit by bit, both ways, with bits of each size.
func TestPromise14(t *testing.T) {
	r := rand.New(rand.NewSource(15))
	for _, x := range cursorTrees() {
		keys := append(cursorKeys(pairsIn(x)), "", "", "", "")
		for range 12 {
			low, high := keys[r.Intn(len(keys))], keys[r.Intn(len(keys))]
			want := looked(pairsIn(x), low, high)
			for most := int64(1); most <= int64(len(want))+2; most++ {
				checkUp(t, x, low, high, most, want)
				checkDown(t, x, high, most)
			}
			checkUp(t, x, low, high, math.MaxInt64, want)
			checkDown(t, x, high, math.MaxInt64)
		}
	}
}

// checkUp goes on from the key that ScanUp told until it tells none.
func checkUp(t *testing.T, x []impl.Node, low string, high string, most int64, want []impl.Pair) {
	t.Helper()
	var all []impl.Pair
	total := impl.CountIn(x, low, high)
	for from := low; ; {
		l, next := impl.ScanUp(x, from, high, most)
		all = append(all, l...)
		if int64(len(l)) > most || next != "" && (int64(len(l)) < most || next <= from) {
			t.Fatal(from, high, most, l, next)
		}
		if next == "" {
			break
		}
		if n := impl.CountIn(x, next, high); n != total-int64(len(all)) {
			t.Fatal("from", next, "on there are", n, "of", total, all)
		}
		from = next
	}
	if !slices.Equal(all, want) {
		t.Fatal(low, high, most, all, want)
	}
}

// checkDown goes on ahead of the last key that ScanDown told until there is none.
func checkDown(t *testing.T, x []impl.Node, high string, most int64) {
	t.Helper()
	var all []impl.Pair
	for to := high; ; {
		l := impl.ScanDown(x, to, most)
		all = append(all, l...)
		if len(l) == 0 {
			break
		}
		to = l[len(l)-1].Key
	}
	slices.Reverse(all)
	if want := looked(pairsIn(x), "", high); !slices.Equal(all, want) {
		t.Fatal(high, most, all, want)
	}
}

// unlikeIn is the least key of which two trees have not the same, by a look at all keys.
func unlikeIn(a []impl.Node, b []impl.Node) (string, bool) {
	l := unlikeKeys(pairsIn(a), pairsIn(b))
	if len(l) == 0 {
		return "", false
	}
	return slices.Min(l), true
}

func checkUnlike(t *testing.T, name string, a []impl.Node, b []impl.Node) {
	t.Helper()
	want, wantOk := unlikeIn(a, b)
	if problemOf(a) != "" || problemOf(b) != "" {
		want, wantOk = "", false
	}
	if k, ok := impl.FirstUnlike(a, b); k != want || ok != wantOk {
		t.Fatalf("%s: %q %v, not %q", name, k, ok, want)
	}
	if k, ok := impl.FirstUnlike(b, a); k != want || ok != wantOk {
		t.Fatalf("%s, the other way round: %q %v, not %q", name, k, ok, want)
	}
}

func TestFirstUnlike(t *testing.T) {
	for _, c := range []struct{ name, a, b, want string }{
		{"alike", "((a b)(c d e))", "((a b)(c d e))", ""},
		{"alike in pairs, not in nodes", "((a b)(c d e))", "((a b c)(d e))", ""},
		{"alike in pairs, not in levels", "(a b c d)", "((a b)(c d))", ""},
		{"alike in pairs, one level more", "((a b)(c d)(e f)(g h))", "(((a b)(c d))((e f)(g h)))", ""},
		{"both have none", "()", "()", ""},
		{"one has none", "()", "((b c)(d e))", "b"},
		{"the first key missing", "(a b c)", "(b c)", "a"},
		{"another first key", "(a b c)", "(aa b c)", "a"},
		{"the last key missing", "(a b c)", "(a b)", "c"},
		{"another last key", "(a b d)", "(a b c)", "c"},
		{"a key between missing", "((a b)(c d e))", "((a b)(d e))", "c"},
		{"the first value", "(a b c)", "(a:1 b c)", "a"},
		{"the last value", "((a b)(c d))", "((a b)(c d:1))", "d"},
		{"a value between", "((a b)(c d))", "((a b:1)(c d))", "b"},
		{"one is the other's beginning", "((a b)(c d))", "(a b)", "c"},
		{"one is the other's end", "((a b)(c d))", "(c d)", "a"},
		{"a value ahead of a key missing", "(a b:1 c)", "(a b)", "b"},
		{"a key missing ahead of a value", "(a c:1 d)", "(a b c)", "b"},
		{"nothing alike", "(b d)", "(a c)", "a"},
		{"keys and values swapped", "(a:b)", "(b:a)", "a"},
		{"a key that begins another one", "(a ab)", "(a b)", "ab"},
	} {
		a, b := treeFrom(c.a), treeFrom(c.b)
		if k, ok := impl.FirstUnlike(a, b); k != c.want || ok != (c.want != "") {
			t.Error(c.name, k, ok)
		}
		checkUnlike(t, c.name, a, b)
	}
}

func TestFirstUnlikeWhereOneIsNotRight(t *testing.T) {
	for name, x := range wrongTrees() {
		for _, s := range []string{"()", "(a)", "(b)", "((a b)(c d))"} {
			checkUnlike(t, name, x, treeFrom(s))
		}
		checkUnlike(t, name+", both", x, x)
		checkUnlike(t, name+", no nodes", x, nil)
	}
	checkUnlike(t, "no nodes", nil, treeFrom("()"))
	checkUnlike(t, "no nodes", nil, treeFrom("(a)"))
	checkUnlike(t, "no nodes, both", nil, nil)
}

func TestFirstUnlikeOfAny(t *testing.T) {
	all := cursorTrees()
	for name, a := range all {
		for other, b := range all {
			checkUnlike(t, name+" and "+other, a, b)
		}
	}
}

// TestFirstUnlikeOfTreesThatChange changes a tree a little, and sometimes back.
func TestFirstUnlikeOfTreesThatChange(t *testing.T) {
	r := rand.New(rand.NewSource(16))
	x, _ := impl.TreeOf(numbered(30))
	alike := 0
	for range 3000 {
		y := x
		for range r.Intn(4) {
			k := "k" + strconv.Itoa(10+r.Intn(50))
			if z, ok := impl.TreeDrop(y, k); ok {
				y = z
			}
			if z, ok := impl.TreePut(y, k, strconv.Itoa(r.Intn(2)*(r.Intn(50)))); ok && r.Intn(3) > 0 {
				y = z
			}
			if v, ok := impl.TreeGet(x, k); ok && r.Intn(2) == 0 {
				if z, ok := impl.TreePut(y, k, v); ok {
					y = z
				}
			}
		}
		checkUnlike(t, "a few changes", x, y)
		if _, ok := impl.FirstUnlike(x, y); !ok && !sameTree(x, y) {
			alike++
		}
		if r.Intn(5) == 0 {
			x = y
		}
	}
	if alike < 10 {
		t.Error("only", alike, "were alike in pairs, but not in nodes")
	}
}
