package tests

import (
	"fmt"
	"maps"
	"math"
	"math/rand"
	"slices"
	"strconv"
	"strings"
	"testing"

	"loop.example/g00573/impl"
)

// takenOf has a snapshot for each word: "one:4" is one with the root 4.
func takenOf(s string) []impl.Snap {
	var l []impl.Snap
	for _, w := range strings.Fields(s) {
		name, root, _ := strings.Cut(w, ":")
		id, _ := strconv.ParseInt(root, 10, 64)
		l = append(l, impl.Snap{Name: name, Root: id})
	}
	return l
}

func snapsOf(super string, taken string, pages ...string) impl.Snaps {
	return impl.Snaps{Pages: pagesFrom(pages...), Super: superOf(super), Taken: takenOf(taken)}
}

// sevenStores has that many pages, 56 of them for each of seven roots: no two
// share any. The names are s1 .. s6, and the last root is Super's.
func sevenStores() impl.Snaps {
	s := impl.Snaps{Super: impl.Super{Gen: 9, Root: 337, Next: 393}}
	for i := range int64(7) {
		s.Pages = append(s.Pages, storeFrom(twoInEach(), rising(56*i+1, 56), 393).Pages...)
		if i < 6 {
			s.Taken = append(s.Taken, impl.Snap{Name: "s" + strconv.Itoa(int(i)+1), Root: 56*i + 1})
		}
	}
	return s
}

// shared has the store that one has too, but for one pair and the pages above it.
func shared() impl.Snaps {
	return snapsOf("4 6 8", "one:3", "3 kids 4 5", "4 leaf a b", "5 leaf c d", "6 kids 4 7", "7 leaf c:9 d")
}

func rightSnaps() map[string]impl.Snaps {
	return map[string]impl.Snaps{
		"new":                           snapsOf("1 1 2", "", "1 leaf"),
		"empty, and taken":              snapsOf("1 1 2", "one:1", "1 leaf"),
		"taken while empty":             snapsOf("2 2 3", "one:1", "1 leaf", "2 leaf a"),
		"empty again":                   snapsOf("3 3 4", "one:2", "2 leaf a b", "3 leaf"),
		"one page":                      snapsOf("2 2 3", "", "2 leaf a"),
		"nothing taken":                 snapsOf("3 3 12", "", "3 kids 9 5 4", "4 leaf e f g", "5 leaf c d", "9 leaf a b"),
		"taken as it is":                snapsOf("2 3 6", "one:3", "3 kids 4 5", "4 leaf a b", "5 leaf c d"),
		"two names with one root":       snapsOf("5 6 8", "one:3 two:3", "3 kids 4 5", "4 leaf a b", "5 leaf c d", "6 kids 4 7", "7 leaf c:9 d"),
		"six names with one root":       snapsOf("9 5 6", "a:5 b:5 c:5 d:5 e:5 f:5", "5 leaf a b c"),
		"names by falling bytes":        snapsOf("9 5 6", "~~~~~~:5 z:4 Z:4 0:5 !:4", "4 leaf a", "5 leaf a b c"),
		"a leaf that two lead to":       shared(),
		"a leaf at another place":       snapsOf("4 8 9", "one:3", "3 kids 4 5", "4 leaf c d", "5 leaf e f", "6 leaf a b", "8 kids 6 4 5"),
		"a part that two lead to":       snapsOf("4 10 13", "one:2", "2 kids 3 6", "3 kids 4 5", "4 leaf a b", "5 leaf c d", "6 kids 7 8", "7 leaf e f", "8 leaf g h", "10 kids 3 11", "11 kids 7 12", "12 leaf g h:9"),
		"a root below another one":      snapsOf("3 3 6", "one:4", "3 kids 4 5", "4 leaf a b", "5 leaf c d"),
		"Super's root below another":    snapsOf("3 4 6", "one:3", "3 kids 4 5", "4 leaf a b", "5 leaf c d"),
		"pages that no two lead to":     snapsOf("7 9 10", "one:2 two:5", "2 leaf a", "5 leaf c d", "9 leaf b"),
		"two with the same pairs":       snapsOf("7 9 10", "one:5", "5 leaf a b", "9 leaf a b"),
		"unlike pairs of one key":       snapsOf("7 9 10", "one:5", "5 leaf a:1 b", "9 leaf a:2 b"),
		"one pair, as no kid has":       snapsOf("7 9 20", "one:2 two:3", "2 leaf z", "3 kids 4 5", "4 leaf a b", "5 leaf c d", "9 leaf"),
		"unlike heights":                snapsOf("7 9 20", "one:10", "2 leaf a b", "3 leaf c d", "4 leaf e f", "5 leaf g h", "9 kids 2 3", "10 kids 9 11", "11 kids 4 5"),
		"three, one behind the other":   snapsOf("6 10 12", "one:3 two:6 three:8", "3 kids 4 5", "4 leaf a b", "5 leaf c d", "6 kids 4 7", "7 leaf c:9 d", "8 kids 9 7", "9 leaf a b:8", "10 kids 9 11", "11 leaf c d e"),
		"Gen is one less than MaxId":    snapsOf("999999 6 8", "one:3", "3 kids 4 5", "4 leaf a b", "5 leaf c d", "6 kids 4 7", "7 leaf c:9 d"),
		"Gen is MaxId":                  snapsOf("1000000 6 8", "one:3", "3 kids 4 5", "4 leaf a b", "5 leaf c d", "6 kids 4 7", "7 leaf c:9 d"),
		"one id is left":                snapsOf("4 6 999999", "one:3", "3 kids 4 5", "4 leaf a b", "5 leaf c d", "6 kids 4 7", "7 leaf c:9 d"),
		"no id is left":                 snapsOf("4 999999 1000000", "one:3", "3 leaf a", "999999 leaf a b"),
		"two roots with 60 pairs":       {Pages: slices.Concat(storeFrom(wide(60), rising(1, 21), 1).Pages, storeFrom(wide(60), falling(22, 21), 1).Pages), Super: impl.Super{Gen: 1, Root: 42, Next: 43}, Taken: takenOf("one:1")},
		"seven roots, 392 pages":        sevenStores(),
		"one's root is above Super's":   snapsOf("4 3 8", "one:6", "3 kids 4 5", "4 leaf a b", "5 leaf c d", "6 kids 4 7", "7 leaf c:9 d"),
		"a name of Super's pairs' keys": snapsOf("1 1 2", "a:1", "1 leaf a b"),
	}
}

// wrongSnaps are those that are not right. Nearly each has a snapshot one, or is
// a store that is not right.
func wrongSnaps() map[string]impl.Snaps {
	two := []string{"3 kids 4 5", "4 leaf a b", "5 leaf c d", "6 kids 4 7", "7 leaf c:9 d"}
	with := func(more ...string) []string { return append(slices.Clone(two), more...) }
	many := impl.Snaps{Pages: manyPages(401), Super: impl.Super{Gen: 1, Root: 1, Next: 402}, Taken: takenOf("one:1")}
	w := map[string]impl.Snaps{
		"a page in none":                 snapsOf("4 6 9", "one:3", with("8 leaf e f")...),
		"an empty page in none":          snapsOf("4 6 9", "one:3", with("8 leaf")...),
		"a page above a root":            snapsOf("4 6 9", "one:3", with("8 kids 3 6")...),
		"a root that is no more taken":   snapsOf("4 6 8", "", two...),
		"a root that two is, not one":    snapsOf("4 6 8", "one:6 two:4", two...),
		"pages fall":                     snapsOf("4 6 8", "one:3", "3 kids 4 5", "5 leaf c d", "4 leaf a b", "6 kids 4 7", "7 leaf c:9 d"),
		"pages fall at the end":          snapsOf("4 6 8", "one:3", "3 kids 4 5", "4 leaf a b", "5 leaf c d", "7 leaf c:9 d", "6 kids 4 7"),
		"a page twice":                   snapsOf("4 6 8", "one:3", "3 kids 4 5", "4 leaf a b", "4 leaf a b", "5 leaf c d", "6 kids 4 7", "7 leaf c:9 d"),
		"ids alike":                      snapsOf("4 6 8", "one:3", "3 kids 4 5", "4 leaf a b", "4 leaf a b:1", "5 leaf c d", "6 kids 4 7", "7 leaf c:9 d"),
		"an id that is Next":             snapsOf("4 6 7", "one:3", two...),
		"an id behind Next":              snapsOf("4 5 6", "one:3", "3 kids 4 9", "4 leaf a b", "5 leaf c", "9 leaf c d"),
		"a snapshot's root is Next":      snapsOf("4 3 8", "one:8", "3 kids 4 5", "4 leaf a b", "5 leaf c d", "8 leaf a"),
		"an id 0":                        snapsOf("4 6 8", "one:3", append([]string{"0 leaf x y"}, two...)...),
		"a root with the id 0":           snapsOf("4 6 8", "one:3 two:0", append([]string{"0 leaf x y"}, two...)...),
		"Gen 0":                          snapsOf("0 6 8", "one:3", two...),
		"Gen too great":                  snapsOf("1000001 6 8", "one:3", two...),
		"Next too great":                 snapsOf("4 6 1000001", "one:3", two...),
		"Root 0":                         snapsOf("4 0 8", "one:3 two:6", two...),
		"Root is Next":                   snapsOf("4 8 8", "one:3 two:6", two...),
		"Root is no page":                snapsOf("4 8 9", "one:3 two:6", two...),
		"a snapshot's root is no page":   snapsOf("4 6 9", "one:3 two:8", two...),
		"a first root that is no page":   snapsOf("4 6 9", "two:1 one:3", two...),
		"a snapshot's root 0":            snapsOf("4 6 8", "one:3 two:0", two...),
		"a snapshot's root below 0":      snapsOf("4 6 8", "one:3 two:-3", two...),
		"the greatest root":              snapsOf("4 6 8", "one:3 two:9223372036854775807", two...),
		"the least root":                 snapsOf("4 6 8", "one:3 two:-9223372036854775808", two...),
		"a root that turns into right":   snapsOf("4 6 8", "one:3 two:4294967299", two...),
		"names alike":                    snapsOf("4 6 8", "one:3 one:6", two...),
		"names alike, roots too":         snapsOf("4 6 8", "one:3 one:3", two...),
		"names alike, not side by side":  snapsOf("4 6 8", "one:3 two:3 one:3", two...),
		"an empty name":                  snapsOf("4 6 8", "one:3 :3", two...),
		"an empty name, Super's root":    snapsOf("4 6 8", "one:3 :6", two...),
		"two empty names":                snapsOf("4 6 8", ":3 :6", two...),
		"a name of 7":                    snapsOf("4 6 8", "one:3 abcdefg:3", two...),
		"= in a name":                    snapsOf("4 6 8", "one:3 a=:3", two...),
		"byte 127 in a name":             snapsOf("4 6 8", "one:3 a\x7f:3", two...),
		"seven names":                    snapsOf("4 6 8", "one:3 b:3 c:3 d:3 e:3 f:3 g:3", two...),
		"seven names, seven roots":       snapsOf("9 9 10", "one:1 b:2 c:3 d:4 e:5 f:6 g:7", "1 leaf", "2 leaf", "3 leaf", "4 leaf", "5 leaf", "6 leaf", "7 leaf", "9 leaf"),
		"Super's root meets one twice":   snapsOf("4 6 8", "one:3", "3 kids 4 5", "4 leaf a b", "5 leaf c d", "6 kids 4 4"),
		"it meets one twice, far apart":  snapsOf("4 2 9", "one:7", "2 kids 3 4", "3 kids 5 6", "4 kids 6 7", "5 leaf a b", "6 leaf c d", "7 leaf e f"),
		"a snapshot meets one twice":     snapsOf("4 7 9", "one:2", "2 kids 3 4", "3 kids 5 6", "4 kids 6 7", "5 leaf a b", "6 leaf c d", "7 leaf e f"),
		"a snapshot leads round":         snapsOf("4 6 9", "one:2", "2 kids 3 4", "3 kids 2 6", "4 leaf a b", "6 leaf c d"),
		"a root is its own kid":          snapsOf("4 6 9", "one:2", "2 kids 2 6", "6 leaf c d"),
		"a kid not there":                snapsOf("4 6 8", "one:3", "3 kids 4 5", "4 leaf a b", "6 kids 4 7", "7 leaf c:9 d"),
		"a kid not there, Super's":       snapsOf("4 6 8", "one:3", "3 kids 4 5", "4 leaf a b", "5 leaf c d", "6 kids 4 7"),
		"a kid behind Next":              snapsOf("4 6 8", "one:3", "3 kids 4 5 9", "4 leaf a b", "5 leaf c d", "6 kids 4 7", "7 leaf c:9 d"),
		"a snapshot's keys fall":         snapsOf("4 6 8", "one:3", "3 kids 5 4", "4 leaf a b", "5 leaf c d", "6 kids 4 7", "7 leaf c:9 d"),
		"a snapshot's key twice":         snapsOf("4 6 8", "one:3", "3 kids 4 5 7", "4 leaf a b", "5 leaf c d", "6 kids 4 7", "7 leaf c:9 d"),
		"a snapshot's kid with one pair": snapsOf("4 6 8", "one:3", "3 kids 4 5", "4 leaf a b", "5 leaf c", "6 kids 4 7", "7 leaf c:9 d"),
		"a snapshot's kid with none":     snapsOf("4 6 8", "one:3", "3 kids 4 5", "4 leaf a b", "5 leaf", "6 kids 4 7", "7 leaf c:9 d"),
		"a snapshot with unlike depths":  snapsOf("4 6 9", "one:3", "3 kids 6 8", "4 leaf a b", "6 kids 4 7", "7 leaf c:9 d", "8 leaf e f"),
		"a snapshot's page has five":     snapsOf("4 6 8", "one:3", "3 leaf a b c d e", "4 leaf a b", "6 kids 4 7", "7 leaf c:9 d"),
		"a snapshot's page has one kid":  snapsOf("4 6 8", "one:3", "3 kids 4", "4 leaf a b", "6 kids 4 7", "7 leaf c:9 d"),
		"a snapshot's wrong value":       snapsOf("4 6 8", "one:3", "3 kids 4 5", "4 leaf a b", "5 leaf c: d", "6 kids 4 7", "7 leaf c:9 d"),
		"a snapshot with pairs and kids": snapsOf("4 6 8", "one:3", two...),
		"a snapshot has 61 pairs":        {Pages: slices.Concat(storeFrom(wide(61), rising(1, 21), 1).Pages, pagesFrom("30 leaf a")), Super: impl.Super{Gen: 1, Root: 30, Next: 31}, Taken: takenOf("one:1")},
		"a snapshot has 100 pages":       {Pages: slices.Concat(storeFrom(manyNodes(19), rising(1, 100), 1).Pages, pagesFrom("130 leaf a")), Super: impl.Super{Gen: 1, Root: 130, Next: 131}, Taken: takenOf("one:1")},
		"401 pages":                      many,
		"no pages":                       snapsOf("4 6 8", "one:3"),
		"no pages, nothing taken":        snapsOf("1 1 2", ""),
	}
	w["a snapshot with pairs and kids"].Pages[0].Pairs = pairsOf("a")
	for name, s := range wrongShadows() {
		w["a store: "+name] = impl.Snaps{Pages: s.Pages, Super: s.Super}
	}
	return w
}

// below has the pages of s to which root leads, found by going on until there
// are no more of them.
func below(s impl.Snaps, root int64) []impl.Page {
	in := map[int64]bool{root: true}
	for more := true; more; {
		more = false
		for _, p := range s.Pages {
			for _, kid := range p.Kids {
				if in[p.Id] && !in[kid] {
					in[kid], more = true, true
				}
			}
		}
	}
	var l []impl.Page
	for _, p := range s.Pages {
		if in[p.Id] {
			l = append(l, p)
		}
	}
	return l
}

// snapStore is the store of s from root down.
func snapStore(s impl.Snaps, root int64) impl.Shadow {
	super := s.Super
	super.Root = root
	return impl.Shadow{Pages: below(s, root), Super: super}
}

func rootsIn(s impl.Snaps) []int64 {
	l := []int64{s.Super.Root}
	for _, taken := range s.Taken {
		l = append(l, taken.Root)
	}
	return l
}

// inSome is the pages of s to which any of its roots leads.
func inSome(s impl.Snaps) []impl.Page {
	in := map[int64]bool{}
	for _, root := range rootsIn(s) {
		for _, p := range below(s, root) {
			in[p.Id] = true
		}
	}
	return slices.DeleteFunc(slices.Clone(s.Pages), func(p impl.Page) bool { return !in[p.Id] })
}

// snapsProblem tells why s is not right; "" when it is right.
func snapsProblem(s impl.Snaps) string {
	names := map[string]bool{}
	for _, taken := range s.Taken {
		if !impl.KeyOk(taken.Name) || names[taken.Name] {
			return "a name"
		}
		names[taken.Name] = true
	}
	if len(s.Taken) > 6 || len(s.Pages) > 400 {
		return "too many"
	}
	for i, p := range s.Pages {
		if i > 0 && p.Id <= s.Pages[i-1].Id || !pageIsRight(p) || p.Id >= s.Super.Next {
			return "a page or its place"
		}
	}
	for _, root := range rootsIn(s) {
		if problem := storeProblem(snapStore(s, root)); problem != "" {
			return "from " + strconv.Itoa(int(root)) + " down: " + problem
		}
	}
	if len(inSome(s)) < len(s.Pages) {
		return "a page that is in none"
	}
	return ""
}

// checkRight looks whether s is right, also in the eyes of the test.
func checkRight(t *testing.T, name string, s impl.Snaps) {
	t.Helper()
	if problem := snapsProblem(s); problem != "" || !impl.SnapsOk(s) {
		t.Fatal(name, s, "is not right:", problem)
	}
}

func TestSnapsNew(t *testing.T) {
	if s := impl.SnapsNew(); shown(s) != shown(snapsOf("1 1 2", "", "1 leaf")) {
		t.Error(s)
	}
}

func TestRightSnaps(t *testing.T) {
	for name, s := range rightSnaps() {
		checkRight(t, name, s)
	}
}

func TestWrongSnapsAreRefused(t *testing.T) {
	for name, s := range wrongSnaps() {
		if snapsProblem(s) == "" {
			t.Fatal(name, "is right")
		}
		if impl.SnapsOk(s) {
			t.Error(name, "SnapsOk")
		}
		for _, word := range []string{"", "one", "two", "new", "toolong", "a="} {
			checkRefusedSnaps(t, name+": SnapTake "+word)(impl.SnapTake(s, word))
			checkRefusedSnaps(t, name+": SnapDrop "+word)(impl.SnapDrop(s, word))
			checkRefusedSnaps(t, name+": SnapBack "+word)(impl.SnapBack(s, word))
			if m, ok := impl.SnapView(s, word); ok || len(m) != 0 {
				t.Error(name, "SnapView", word, m, ok)
			}
		}
		for _, l := range [][]impl.Change{nil, changesOf("b:1"), changesOf("z"), changesOf("-b"), changesOf("-z")} {
			checkRefusedSnaps(t, name+": SnapApply")(impl.SnapApply(s, l))
		}
	}
}

func checkRefusedSnaps(t *testing.T, name string) func(n impl.Snaps, ok bool) {
	t.Helper()
	return func(n impl.Snaps, ok bool) {
		t.Helper()
		if ok || shown(n) != shown(impl.Snaps{}) {
			t.Error(name, "is taken:", n, ok)
		}
	}
}

// TestBendingSnaps changes each number, name and list of right snapshots, and
// holds SnapsOk against what the test knows of them.
func TestBendingSnaps(t *testing.T) {
	numbers := []int64{-1, 0, 1, 2, 3, 4, 5, 6, 7, 8, 9, 10, 11, 12, 999999, 1000000, 1000001, math.MaxInt64, math.MinInt64}
	for _, name := range []string{"taken while empty", "a leaf that two lead to", "a part that two lead to", "unlike heights", "three, one behind the other", "two names with one root", "a root below another one"} {
		whole := rightSnaps()[name]
		bend := func(change func(x *impl.Snaps)) {
			x := rightSnaps()[name]
			change(&x)
			if got, want := impl.SnapsOk(x), snapsProblem(x) == ""; got != want {
				t.Errorf("%s: %v: %v, but %q", name, x, got, snapsProblem(x))
			}
		}
		for _, n := range numbers {
			bend(func(x *impl.Snaps) { x.Super.Gen = n })
			bend(func(x *impl.Snaps) { x.Super.Root = n })
			bend(func(x *impl.Snaps) { x.Super.Next = n })
			for i := range whole.Taken {
				bend(func(x *impl.Snaps) { x.Taken[i].Root = n })
			}
			bend(func(x *impl.Snaps) { x.Taken = append(x.Taken, impl.Snap{Name: "more", Root: n}) })
			bend(func(x *impl.Snaps) { x.Taken = append([]impl.Snap{{Name: "more", Root: n}}, x.Taken...) })
			for place, p := range whole.Pages {
				bend(func(x *impl.Snaps) { x.Pages[place].Id = n })
				for i := range p.Kids {
					bend(func(x *impl.Snaps) { x.Pages[place].Kids[i] = n })
				}
			}
		}
		for i := range whole.Taken {
			bend(func(x *impl.Snaps) { x.Taken = slices.Delete(x.Taken, i, i+1) })
			for _, s := range []string{"", "one", "two", "more", "seven77", "a b", "a="} {
				bend(func(x *impl.Snaps) { x.Taken[i].Name = s })
			}
		}
		for place, p := range whole.Pages {
			bend(func(x *impl.Snaps) { x.Pages = slices.Delete(x.Pages, place, place+1) })
			for other := range whole.Pages {
				bend(func(x *impl.Snaps) { x.Pages[place], x.Pages[other] = x.Pages[other], x.Pages[place] })
			}
			for i := range p.Kids {
				bend(func(x *impl.Snaps) { x.Pages[place].Kids = slices.Delete(x.Pages[place].Kids, i, i+1) })
			}
			for i := range p.Pairs {
				bend(func(x *impl.Snaps) { x.Pages[place].Pairs = slices.Delete(x.Pages[place].Pairs, i, i+1) })
				for _, k := range []string{"", "a", "aa", "c", "cc", "h", "z", "toolong", "="} {
					bend(func(x *impl.Snaps) { x.Pages[place].Pairs[i].Key = k })
					bend(func(x *impl.Snaps) { x.Pages[place].Pairs[i].Val = k })
				}
			}
		}
	}
}

// without is s without that snapshot, and without the pages that are in none then.
func without(s impl.Snaps, name string) impl.Snaps {
	s.Taken = slices.DeleteFunc(slices.Clone(s.Taken), func(taken impl.Snap) bool { return taken.Name == name })
	s.Pages = inSome(s)
	return s
}

func rootNamed(s impl.Snaps, name string) (int64, bool) {
	for _, taken := range s.Taken {
		if taken.Name == name {
			return taken.Root, true
		}
	}
	return 0, false
}

// appliedTo is what SnapApply answers, made with the model of ShadowApply.
func appliedTo(s impl.Snaps, l []impl.Change) (impl.Snaps, bool) {
	next, made, _, ok := applied(snapStore(s, s.Super.Root), l)
	if !ok || len(s.Pages)+len(made) > 400 {
		return impl.Snaps{}, false
	}
	n := impl.Snaps{Super: next.Super, Taken: s.Taken, Pages: slices.Clone(s.Pages)}
	for _, p := range next.Pages {
		if slices.Contains(made, p.Id) {
			n.Pages = append(n.Pages, p)
		}
	}
	n.Pages = inSome(n)
	return n, true
}

func backTo(s impl.Snaps, name string) (impl.Snaps, bool) {
	root, there := rootNamed(s, name)
	if !there || s.Super.Gen >= 1000000 {
		return impl.Snaps{}, false
	}
	s.Super.Root = root
	s.Super.Gen++
	s.Pages = inSome(s)
	return s, true
}

// checkStep holds what a function answers against what it has to, and gives what
// there is then.
func checkStep(t *testing.T, name string, s impl.Snaps, n impl.Snaps, ok bool, want impl.Snaps, wantOk bool) (impl.Snaps, bool) {
	t.Helper()
	if ok != wantOk || shown(n) != shown(want) {
		t.Fatalf("%s: of %v comes\n%v %v, not\n%v %v", name, s, n, ok, want, wantOk)
	}
	if !ok {
		return s, false
	}
	checkRight(t, name, n)
	return n, true
}

func checkTake(t *testing.T, s impl.Snaps, name string) (impl.Snaps, bool) {
	t.Helper()
	n, ok := impl.SnapTake(s, name)
	var want impl.Snaps
	_, there := rootNamed(s, name)
	wantOk := impl.KeyOk(name) && !there && len(s.Taken) < 6
	if wantOk {
		want = s
		want.Taken = append(slices.Clone(s.Taken), impl.Snap{Name: name, Root: s.Super.Root})
	}
	return checkStep(t, "SnapTake "+name, s, n, ok, want, wantOk)
}

func checkDrop(t *testing.T, s impl.Snaps, name string) (impl.Snaps, bool) {
	t.Helper()
	n, ok := impl.SnapDrop(s, name)
	var want impl.Snaps
	_, there := rootNamed(s, name)
	if there {
		want = without(s, name)
	}
	return checkStep(t, "SnapDrop "+name, s, n, ok, want, there)
}

func checkChange(t *testing.T, s impl.Snaps, l []impl.Change) (impl.Snaps, bool) {
	t.Helper()
	n, ok := impl.SnapApply(s, l)
	want, wantOk := appliedTo(s, l)
	return checkStep(t, "SnapApply "+deltaText(l), s, n, ok, want, wantOk)
}

func checkBack(t *testing.T, s impl.Snaps, name string) (impl.Snaps, bool) {
	t.Helper()
	n, ok := impl.SnapBack(s, name)
	want, wantOk := backTo(s, name)
	return checkStep(t, "SnapBack "+name, s, n, ok, want, wantOk)
}

func checkView(t *testing.T, s impl.Snaps, name string) []impl.Pair {
	t.Helper()
	root, there := rootNamed(s, name)
	if name == "" {
		root, there = s.Super.Root, true
	}
	var want []impl.Pair
	if there {
		want = pairsIn(nodesOf(snapStore(s, root)))
	}
	m, ok := impl.SnapView(s, name)
	if ok != there || !slices.Equal(m, want) {
		t.Fatalf("SnapView %q of %v is %v %v, not %v", name, s, m, ok, want)
	}
	return m
}

func TestSnapTake(t *testing.T) {
	s := shared()
	n, ok := checkTake(t, s, "two")
	if !ok || shown(n.Taken) != shown(takenOf("one:3 two:6")) {
		t.Error(n, ok)
	}
	n, ok = checkTake(t, n, "again")
	if !ok || shown(n.Taken) != shown(takenOf("one:3 two:6 again:6")) || shown(n.Pages) != shown(s.Pages) || n.Super != s.Super {
		t.Error("the same root twice:", n, ok)
	}
	for _, name := range []string{"one", "two", "again", "", "abcdefg", "a b", "a=", "\x7f", "\x00", "é"} {
		if n, ok := checkTake(t, n, name); ok {
			t.Errorf("%q: %v", name, n)
		}
	}
	for _, name := range []string{"One", "on", "onee", "!", "~~~~~~", "abcdef"} {
		if _, ok := checkTake(t, n, name); !ok {
			t.Errorf("%q is refused", name)
		}
	}
}

func TestSnapTakeAtMostSix(t *testing.T) {
	s := shared()
	for i, name := range []string{"z", "a", "m", "b", "y"} {
		n, ok := checkTake(t, s, name)
		if !ok {
			t.Fatal(name, i)
		}
		s = n
	}
	if shown(s.Taken) != shown(takenOf("one:3 z:6 a:6 m:6 b:6 y:6")) {
		t.Error(s.Taken)
	}
	for _, name := range []string{"c", "one", "y", ""} {
		if n, ok := checkTake(t, s, name); ok {
			t.Error("a seventh one:", n)
		}
	}
	s, _ = checkDrop(t, s, "m")
	if s, ok := checkTake(t, s, "m"); !ok || shown(s.Taken) != shown(takenOf("one:3 z:6 a:6 b:6 y:6 m:6")) {
		t.Error(s.Taken, ok)
	}
}

func TestSnapDrop(t *testing.T) {
	three := rightSnaps()["three, one behind the other"]
	for _, c := range []struct {
		name string
		s    impl.Snaps
		drop string
		want impl.Snaps
	}{
		{"the first one, shares some", three, "one", snapsOf("6 10 12", "two:6 three:8", "4 leaf a b", "6 kids 4 7", "7 leaf c:9 d", "8 kids 9 7", "9 leaf a b:8", "10 kids 9 11", "11 leaf c d e")},
		{"one between, shares all but its root", three, "two", snapsOf("6 10 12", "one:3 three:8", "3 kids 4 5", "4 leaf a b", "5 leaf c d", "7 leaf c:9 d", "8 kids 9 7", "9 leaf a b:8", "10 kids 9 11", "11 leaf c d e")},
		{"the last one", three, "three", snapsOf("6 10 12", "one:3 two:6", "3 kids 4 5", "4 leaf a b", "5 leaf c d", "6 kids 4 7", "7 leaf c:9 d", "9 leaf a b:8", "10 kids 9 11", "11 leaf c d e")},
		{"the only one", shared(), "one", snapsOf("4 6 8", "", "4 leaf a b", "6 kids 4 7", "7 leaf c:9 d")},
		{"one that shares all with Super's", snapsOf("2 3 6", "one:3", "3 kids 4 5", "4 leaf a b", "5 leaf c d"), "one", snapsOf("2 3 6", "", "3 kids 4 5", "4 leaf a b", "5 leaf c d")},
		{"one of two with one root", snapsOf("7 9 10", "one:5 two:5", "5 leaf a b", "9 leaf c"), "one", snapsOf("7 9 10", "two:5", "5 leaf a b", "9 leaf c")},
		{"the other one of two", snapsOf("7 9 10", "one:5 two:5", "5 leaf a b", "9 leaf c"), "two", snapsOf("7 9 10", "one:5", "5 leaf a b", "9 leaf c")},
		{"one that shares nothing", snapsOf("7 9 10", "one:5", "5 leaf a b", "9 leaf c"), "one", snapsOf("7 9 10", "", "9 leaf c")},
		{"one whose root is below Super's", rightSnaps()["a root below another one"], "one", snapsOf("3 3 6", "", "3 kids 4 5", "4 leaf a b", "5 leaf c d")},
		{"one whose root is above Super's", rightSnaps()["Super's root below another"], "one", snapsOf("3 4 6", "", "4 leaf a b")},
		{"one whose root is above another's", snapsOf("4 7 8", "one:3 two:4", "3 kids 4 5", "4 leaf a b", "5 leaf c d", "7 leaf"), "one", snapsOf("4 7 8", "two:4", "4 leaf a b", "7 leaf")},
	} {
		if n, ok := checkDrop(t, c.s, c.drop); !ok || shown(n) != shown(c.want) {
			t.Error(c.name, n, ok)
		}
	}
	for name, s := range rightSnaps() {
		for _, no := range []string{"", "no", "One", "toolong", "one ", "\xff"} {
			if n, ok := checkDrop(t, s, no); ok {
				t.Errorf("%s: %q: %v", name, no, n)
			}
		}
	}
}

// TestAPageThatTwoRootsLeadTo drops both in either order: it stays while one of
// them is there.
func TestAPageThatTwoRootsLeadTo(t *testing.T) {
	s := snapsOf("9 9 12", "one:3 two:6", "3 kids 4 5", "4 leaf a b", "5 leaf c d", "6 kids 4 7", "7 leaf c:9 d", "9 leaf z")
	has := func(s impl.Snaps) bool {
		return slices.ContainsFunc(s.Pages, func(p impl.Page) bool { return p.Id == 4 && shown(p) == shown(leaf(4, "a", "b")) })
	}
	for _, order := range [][]string{{"one", "two"}, {"two", "one"}} {
		first, _ := checkDrop(t, s, order[0])
		both, _ := checkDrop(t, first, order[1])
		if !has(s) || !has(first) || has(both) || len(first.Pages) != 4 || len(both.Pages) != 1 {
			t.Error(order, first, both)
		}
		checkView(t, first, order[1])
	}
	// Super's root is one of those that keep it.
	s = shared()
	dropped, _ := checkDrop(t, s, "one")
	changed, _ := checkChange(t, s, changesOf("a:7"))
	gone, _ := checkChange(t, dropped, changesOf("a:7"))
	back, _ := checkBack(t, changed, "one")
	if !has(s) || !has(dropped) || !has(changed) || has(gone) || !has(back) {
		t.Error(dropped, changed, gone, back)
	}
}

func TestSnapApply(t *testing.T) {
	taken := snapsOf("3 3 6", "one:3", "3 kids 4 5", "4 leaf a b", "5 leaf c d")
	for _, c := range []struct {
		name    string
		s       impl.Snaps
		changes string
		want    impl.Snaps
	}{
		{"nothing", taken, "", snapsOf("4 3 6", "one:3", "3 kids 4 5", "4 leaf a b", "5 leaf c d")},
		{"nothing that makes a change", taken, "a -zz", snapsOf("4 3 6", "one:3", "3 kids 4 5", "4 leaf a b", "5 leaf c d")},
		{"the root that was taken stays", taken, "c:9", snapsOf("4 6 8", "one:3", "3 kids 4 5", "4 leaf a b", "5 leaf c d", "6 kids 4 7", "7 leaf c:9 d")},
		{"the root that was not taken goes", snapsOf("3 3 6", "", "3 kids 4 5", "4 leaf a b", "5 leaf c d"), "c:9", snapsOf("4 6 8", "", "4 leaf a b", "6 kids 4 7", "7 leaf c:9 d")},
		{"another one's pages are not taken", shared(), "c", snapsOf("5 8 10", "one:3", "3 kids 4 5", "4 leaf a b", "5 leaf c d", "8 kids 4 9", "9 leaf c d")},
		{"another one's pages stay", shared(), "a:7 c:7", snapsOf("5 8 11", "one:3", "3 kids 4 5", "4 leaf a b", "5 leaf c d", "8 kids 9 10", "9 leaf a:7 b", "10 leaf c:7 d")},
		{"the first page becomes a kid", snapsOf("2 2 3", "one:2", "2 leaf a b c"), "d e", snapsOf("3 3 5", "one:2", "2 leaf a b c", "3 kids 2 4", "4 leaf d e")},
		{"a kid becomes the first page", taken, "-a -b", snapsOf("4 5 6", "one:3", "3 kids 4 5", "4 leaf a b", "5 leaf c d")},
		{"all gone", taken, "-a -b -c -d", snapsOf("4 6 7", "one:3", "3 kids 4 5", "4 leaf a b", "5 leaf c d", "6 leaf")},
		{"all gone, none taken", snapsOf("3 2 6", "", "2 leaf a"), "-a", snapsOf("4 6 7", "", "6 leaf")},
		{"the first key", snapsOf("1 1 2", "one:1", "1 leaf"), "a", snapsOf("2 2 3", "one:1", "1 leaf", "2 leaf a")},
		{"the same as all of another one", snapsOf("7 9 10", "one:5", "5 leaf a b", "9 leaf a b:1"), "b", snapsOf("8 10 11", "one:5", "5 leaf a b", "10 leaf a b")},
		{"a part that two lead to", rightSnaps()["a part that two lead to"], "e:9",
			snapsOf("5 13 16", "one:2", "2 kids 3 6", "3 kids 4 5", "4 leaf a b", "5 leaf c d", "6 kids 7 8", "7 leaf e f", "8 leaf g h", "12 leaf g h:9", "13 kids 3 14", "14 kids 15 12", "15 leaf e:9 f")},
	} {
		if n, ok := checkChange(t, c.s, changesOf(strings.Fields(c.changes)...)); !ok || shown(n) != shown(c.want) {
			t.Error(c.name, n, ok)
		}
	}
}

func TestSnapApplyRefusals(t *testing.T) {
	s := shared()
	for name, l := range map[string][]impl.Change{
		"a change of nothing":      {{}},
		"an empty value":           {{Key: "a"}},
		"a long key":               changesOf("toolong:1"),
		"gone, with a value":       {{Key: "a", Val: "1", Gone: true}},
		"a wrong one behind right": append(changesOf("a:1", "-b"), impl.Change{Key: "a="}),
		"a wrong one ahead":        append([]impl.Change{{Gone: true}}, changesOf("a:1")...),
		"31 changes":               changesOf(slices.Repeat([]string{"a"}, 31)...),
		"more than 60 pairs":       puts(pairsFor("n", 30)),
	} {
		base := s
		if name == "more than 60 pairs" {
			base, _ = checkChange(t, s, puts(pairsFor("m", 30)))
		}
		if n, ok := checkChange(t, base, l); ok {
			t.Error(name, n)
		}
		checkRefusedSnaps(t, name)(impl.SnapApply(base, l))
	}
	if n, ok := checkChange(t, s, changesOf(slices.Repeat([]string{"a"}, 30)...)); !ok {
		t.Error("30 changes", n)
	}
	for gen := int64(999998); gen <= 1000000; gen++ {
		s.Super.Gen = gen
		for _, l := range [][]impl.Change{nil, changesOf("a:1"), changesOf("-zz")} {
			if n, ok := checkChange(t, s, l); ok != (gen < 1000000) {
				t.Error("Gen", gen, n, ok)
			}
		}
	}
	s = shared()
	for next := int64(999995); next <= 1000000; next++ {
		s.Super.Next = next
		for changes, news := range map[string]int64{"": 0, "-zz": 0, "a": 0, "a:1": 2, "a:1 c:1": 3} {
			if n, ok := checkChange(t, s, changesOf(strings.Fields(changes)...)); ok != (next+news <= 1000000) {
				t.Error("Next", next, changes, n, ok)
			}
		}
	}
}

// TestSnapApplyAtTheLimitOfPages has stores with no page in common, the most
// that there can be. What is counted is what there is ahead of the pages that go.
func TestSnapApplyAtTheLimitOfPages(t *testing.T) {
	s := sevenStores()
	m := checkView(t, s, "")
	// One value makes five new pages, from the root down to a leaf. The more two
	// keys are apart, the fewer of these they share.
	other := func(places ...int) []impl.Change {
		var l []impl.Change
		for _, i := range places {
			l = append(l, impl.Change{Key: m[i].Key, Val: "other"})
		}
		return l
	}
	for _, c := range []struct {
		name   string
		places []int
		made   int64
		ok     bool
	}{
		{"none", nil, 0, true},
		{"5 more", []int{0}, 5, true},
		{"5 more, two of a leaf", []int{0, 1}, 5, true},
		{"8 more: 400", []int{0, 12}, 8, true},
		{"9 more: 401", []int{0, 59}, 9, false},
		{"13 more", []int{0, 25, 59}, 13, false},
		{"56 more", []int{0, 2, 4, 6, 8, 10, 12, 14, 16, 18, 20, 22, 24, 26, 28, 30, 32, 34, 36, 38, 40, 42, 44, 46, 48, 50, 52, 54, 56, 58}, 56, false},
	} {
		l := other(c.places...)
		_, made, _, _ := impl.ShadowApply(snapStore(s, s.Super.Root), l)
		if int64(len(made)) != c.made {
			t.Fatal(c.name, "makes", len(made))
		}
		n, ok := checkChange(t, s, l)
		if ok != c.ok || ok && (len(n.Pages) != 392 || n.Super.Next != 393+c.made) {
			t.Error(c.name, len(n.Pages), n.Super, ok)
		}
	}
	less, _ := checkDrop(t, s, "s3")
	if n, ok := checkChange(t, less, other(0, 59)); !ok || len(n.Pages) != 336 {
		t.Error("345 pages on the way:", ok)
	}
	// What Super's root leads to goes, or stays with a snapshot.
	back, ok := checkBack(t, s, "s6")
	if !ok || len(back.Pages) != 336 {
		t.Error(len(back.Pages), ok)
	}
	if n, ok := checkChange(t, back, other(0, 25, 59)); !ok || len(n.Pages) != 336+13 {
		t.Error("349 pages:", len(n.Pages), ok)
	}
	for _, name := range []string{"", "s1", "s2", "s3", "s4", "s5", "s6", "s7"} {
		checkView(t, s, name)
	}
}

func TestSnapBack(t *testing.T) {
	three := rightSnaps()["three, one behind the other"]
	for _, c := range []struct {
		name string
		s    impl.Snaps
		back string
		want impl.Snaps
	}{
		{"to one that shares some", shared(), "one", snapsOf("5 3 8", "one:3", "3 kids 4 5", "4 leaf a b", "5 leaf c d")},
		{"to what there is already", snapsOf("2 3 6", "one:3", "3 kids 4 5", "4 leaf a b", "5 leaf c d"), "one", snapsOf("3 3 6", "one:3", "3 kids 4 5", "4 leaf a b", "5 leaf c d")},
		{"to one that shares nothing", snapsOf("7 9 10", "one:2 two:5", "2 leaf a", "5 leaf c d", "9 leaf b"), "two", snapsOf("8 5 10", "one:2 two:5", "2 leaf a", "5 leaf c d")},
		{"to the first one", three, "one", snapsOf("7 3 12", "one:3 two:6 three:8", "3 kids 4 5", "4 leaf a b", "5 leaf c d", "6 kids 4 7", "7 leaf c:9 d", "8 kids 9 7", "9 leaf a b:8")},
		{"to the last one", three, "three", snapsOf("7 8 12", "one:3 two:6 three:8", "3 kids 4 5", "4 leaf a b", "5 leaf c d", "6 kids 4 7", "7 leaf c:9 d", "8 kids 9 7", "9 leaf a b:8")},
		{"what others have stays", snapsOf("9 5 6", "one:5 two:4", "4 leaf a", "5 leaf a b c"), "two", snapsOf("10 4 6", "one:5 two:4", "4 leaf a", "5 leaf a b c")},
		{"to an empty one", snapsOf("2 2 3", "one:1", "1 leaf", "2 leaf a"), "one", snapsOf("3 1 3", "one:1", "1 leaf")},
		{"to one below", rightSnaps()["a root below another one"], "one", snapsOf("4 4 6", "one:4", "4 leaf a b")},
		{"to one above", rightSnaps()["Super's root below another"], "one", snapsOf("4 3 6", "one:3", "3 kids 4 5", "4 leaf a b", "5 leaf c d")},
		{"Gen is one less than MaxId", rightSnaps()["Gen is one less than MaxId"], "one", snapsOf("1000000 3 8", "one:3", "3 kids 4 5", "4 leaf a b", "5 leaf c d")},
		{"no id is left", rightSnaps()["no id is left"], "one", snapsOf("5 3 1000000", "one:3", "3 leaf a")},
	} {
		if n, ok := checkBack(t, c.s, c.back); !ok || shown(n) != shown(c.want) {
			t.Error(c.name, n, ok)
		}
	}
	for name, s := range rightSnaps() {
		for _, no := range []string{"", "no", "One", "toolong", "one ", "\xff"} {
			if n, ok := checkBack(t, s, no); ok {
				t.Errorf("%s: %q: %v", name, no, n)
			}
		}
	}
	if n, ok := checkBack(t, rightSnaps()["Gen is MaxId"], "one"); ok {
		t.Error("Gen is MaxId:", n)
	}
}

func TestSnapView(t *testing.T) {
	s := rightSnaps()["three, one behind the other"]
	for name, want := range map[string]string{"": "a b:8 c d e", "one": "a b c d", "two": "a b c:9 d", "three": "a b:8 c:9 d"} {
		if m := checkView(t, s, name); !slices.Equal(m, mapOf(want)) {
			t.Error(name, m)
		}
	}
	for name, s := range rightSnaps() {
		for _, taken := range s.Taken {
			checkView(t, s, taken.Name)
		}
		for _, other := range []string{"", "no", "One", "toolong", "one ", "\xff", "a b"} {
			if m := checkView(t, s, other); other != "" && len(m) != 0 {
				t.Error(name, other, m)
			}
		}
	}
	if m := checkView(t, rightSnaps()["taken while empty"], "one"); len(m) != 0 {
		t.Error(m)
	}
}

// TestEveryStepOfRightSnapshots makes each step with each of them.
func TestEveryStepOfRightSnapshots(t *testing.T) {
	for _, s := range rightSnaps() {
		for _, name := range []string{"", "one", "two", "three", "new", "s1", "s6", "a", "f", "!", "~~~~~~", "toolong"} {
			checkTake(t, s, name)
			checkDrop(t, s, name)
			checkBack(t, s, name)
			checkView(t, s, name)
		}
		for _, words := range []string{"", "a", "a:9", "-a", "-zz", "c", "c d", "e f g h", "-a -b", "-c", "b:1 d:2", "x -x"} {
			checkChange(t, s, changesOf(strings.Fields(words)...))
		}
	}
}

// walk makes steps of all kinds, one behind the other, and knows what each
// snapshot had when it was taken.
type walk struct {
	s     impl.Snaps
	has   []impl.Pair
	taken map[string][]impl.Pair
	// pages has what each page was when it was new: none is written over.
	pages map[int64]string
	// done counts what was not refused.
	done map[string]int
}

func (w *walk) step(t *testing.T, r *rand.Rand, grows bool) {
	t.Helper()
	name := string([]byte{byte('a' + r.Intn(9))})
	ok := false
	kind := []string{"apply", "apply", "apply", "apply", "apply", "take", "take", "drop", "back"}[r.Intn(9)]
	switch kind {
	case "apply":
		l := someWords(r, grows)
		if w.s, ok = checkChange(t, w.s, l); ok {
			w.has = changedMap(w.has, l)
		}
	case "take":
		if w.s, ok = checkTake(t, w.s, name); ok {
			w.taken[name] = w.has
		}
	case "drop":
		if w.s, ok = checkDrop(t, w.s, name); ok {
			delete(w.taken, name)
		}
	case "back":
		if w.s, ok = checkBack(t, w.s, name); ok {
			w.has = w.taken[name]
		}
	}
	if ok {
		w.done[kind]++
	}
}

func (w *walk) look(t *testing.T) {
	t.Helper()
	if m := checkView(t, w.s, ""); !slices.Equal(m, w.has) {
		t.Fatal("the store has", m, "and not", w.has)
	}
	for name, want := range w.taken {
		if m := checkView(t, w.s, name); !slices.Equal(m, want) {
			t.Fatal(name, "has", m, "and had", want)
		}
	}
	if len(w.s.Taken) != len(w.taken) {
		t.Fatal(w.s.Taken, "are more than", w.taken)
	}
	for _, p := range w.s.Pages {
		if was, old := w.pages[p.Id]; old && was != shown(p) {
			t.Fatal("page", p, "was", was)
		}
		w.pages[p.Id] = shown(p)
	}
}

// TestPromise13 looks at each snapshot again behind each of many steps.
func TestPromise13(t *testing.T) {
	done := map[string]int{}
	most, tallest := 0, int64(0)
	for seed := range int64(5) {
		r := rand.New(rand.NewSource(seed))
		w := walk{s: impl.SnapsNew(), taken: map[string][]impl.Pair{}, pages: map[int64]string{}, done: done}
		for i := range 300 {
			w.step(t, r, i/50%2 == 0)
			w.look(t)
			most = max(most, len(w.s.Taken))
			tallest = max(tallest, impl.Height(impl.ShadowTree(snapStore(w.s, w.s.Super.Root))))
		}
		for _, name := range slices.Sorted(maps.Keys(w.taken)) {
			n, ok := checkBack(t, w.s, name)
			if m := checkView(t, n, ""); !ok || !slices.Equal(m, w.taken[name]) {
				t.Fatal("back to", name, m)
			}
		}
	}
	for _, kind := range []string{"apply", "take", "drop", "back"} {
		if done[kind] < 50 {
			t.Error("too little is tried:", kind, done[kind])
		}
	}
	if most < 6 || tallest < 3 {
		t.Error("too little is tried:", most, tallest)
	}
}

// TestSnapshotsOfBefore keeps what there was ahead of each step: no step changes
// what another answer has.
func TestSnapshotsOfBefore(t *testing.T) {
	r := rand.New(rand.NewSource(17))
	w := walk{s: impl.SnapsNew(), taken: map[string][]impl.Pair{}, pages: map[int64]string{}, done: map[string]int{}}
	var before []impl.Snaps
	var texts []string
	for i := range 200 {
		w.step(t, r, i/50%2 == 0)
		before, texts = append(before, w.s), append(texts, shown(w.s))
	}
	for i, s := range before {
		if shown(s) != texts[i] {
			t.Fatal(fmt.Sprint(s), "was", texts[i])
		}
	}
}
