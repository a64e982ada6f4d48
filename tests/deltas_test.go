package tests

import (
	"maps"
	"math/rand"
	"slices"
	"strconv"
	"strings"
	"testing"

	"loop.example/g00573/impl"
)

// deltaOf has a change for each word of s: "a:1 -b".
func deltaOf(s string) []impl.Change { return changesOf(strings.Fields(s)...) }

func mapOf(s string) []impl.Pair { return pairsOf(strings.Fields(s)...) }

// deltaText writes changes as deltaOf reads them.
func deltaText(l []impl.Change) string {
	var words []string
	for _, c := range l {
		if c.Gone {
			words = append(words, "-"+c.Key)
		} else {
			words = append(words, c.Key+":"+c.Val)
		}
	}
	return strings.Join(words, " ")
}

// pairsFor has n pairs whose keys are the letter and 10, 11 ..
func pairsFor(letter string, n int) []impl.Pair {
	var m []impl.Pair
	for i := range n {
		m = append(m, impl.Pair{Key: letter + strconv.Itoa(10+i), Val: letter})
	}
	return m
}

// puts are the changes that put these pairs, drops those that take them out.
func puts(m []impl.Pair) []impl.Change {
	var l []impl.Change
	for _, p := range m {
		l = append(l, impl.Change{Key: p.Key, Val: p.Val})
	}
	return l
}

func drops(m []impl.Pair) []impl.Change {
	var l []impl.Change
	for _, p := range m {
		l = append(l, impl.Change{Key: p.Key, Gone: true})
	}
	return l
}

func rightDeltas() map[string][]impl.Change {
	return map[string][]impl.Change{
		"none":                   nil,
		"none, not nil":          {},
		"one put":                deltaOf("a:1"),
		"one gone":               deltaOf("-a"),
		"some of both":           deltaOf("a:1 -b c:3 -d -e f:6"),
		"keys and values of 6":   deltaOf("abcdef:ABCDEF -abcdeg"),
		"a key that begins so":   deltaOf("a:1 aa:1 -ab b:1"),
		"rising as bytes":        deltaOf("-! 10:1 9:1 B:1 a:1 ~:~"),
		"59":                     manyChanges(59),
		"60":                     manyChanges(60),
		"60 gone":                drops(numbered(60)),
		"30 that are more":       puts(pairsFor("m", 30)),
		"60 of the keys of maps": puts(numbered(60)),
	}
}

// wrongDeltas are changes that are no delta.
func wrongDeltas() map[string][]impl.Change {
	return map[string][]impl.Change{
		"61 changes":            manyChanges(61),
		"61 gone":               drops(numbered(61)),
		"keys fall":             deltaOf("b a"),
		"keys fall, gone":       deltaOf("-b -a"),
		"the last key falls":    deltaOf("a c -b"),
		"two alike":             deltaOf("a a"),
		"two gone alike":        deltaOf("a -b -b"),
		"put and gone":          deltaOf("a -a"),
		"gone and put":          deltaOf("-a a"),
		"an empty change":       {{}},
		"an empty key":          {{Val: "1"}},
		"an empty value":        {{Key: "a"}},
		"a key of 7":            deltaOf("abcdefg:1"),
		"a value of 7":          deltaOf("a:abcdefg"),
		"a blank in a key":      {{Key: "a a", Val: "1"}},
		"= in a value":          {{Key: "a", Val: "1=1"}},
		"gone, with a value":    {{Key: "a", Val: "1", Gone: true}},
		"gone, with no key":     {{Gone: true}},
		"gone, of a key of 7":   deltaOf("-abcdefg"),
		"the last one, wrong":   deltaOf("a b c="),
		"the last has a value":  append(deltaOf("a -b"), impl.Change{Key: "c", Val: "1", Gone: true}),
		"the first one is gone": append([]impl.Change{{Key: "a", Val: "1", Gone: true}}, deltaOf("b c")...),
	}
}

func TestDeltaOk(t *testing.T) {
	for name, l := range rightDeltas() {
		if !impl.DeltaOk(l) {
			t.Error(name, "is right")
		}
	}
	for name, l := range wrongDeltas() {
		if impl.DeltaOk(l) {
			t.Error(name, "is not right")
		}
	}
}

func TestDeltaOf(t *testing.T) {
	for _, c := range []struct{ a, b, want string }{
		{"", "", ""},
		{"a:1", "a:1", ""},
		{"", "a:1", "a:1"},
		{"a:1", "", "-a"},
		{"a:1", "a:2", "a:2"},
		{"a:1 b:2", "b:3 c:4", "-a b:3 c:4"},
		{"a:1 b:2 c:3", "a:1 c:3", "-b"},
		{"a:1 c:3", "a:1 b:2 c:3", "b:2"},
		{"b:1 d:1", "a:2 c:2 e:2", "a:2 -b c:2 -d e:2"},
		{"a:1 c:1 e:1", "b:2 d:2", "-a b:2 -c d:2 -e"},
		{"a:1 b:1", "c:1 d:1", "-a -b c:1 d:1"},
		{"c:1 d:1", "a:1 b:1", "a:1 b:1 -c -d"},
		{"a:b b:a", "a:a b:b", "a:a b:b"},
		{"a:1 ab:1", "a:1 aa:1", "aa:1 -ab"},
		{"9:1", "10:1 9:1", "10:1"},
		{"a:1 b:2 c:3", "a:1 b:2 c:4", "c:4"},
		{"a:1 b:2 c:3", "a:4 b:2 c:3", "a:4"},
	} {
		if l, ok := impl.DeltaOf(mapOf(c.a), mapOf(c.b)); !ok || deltaText(l) != c.want {
			t.Errorf("%q to %q: %q %v, not %q", c.a, c.b, deltaText(l), ok, c.want)
		}
	}
}

func TestDeltaOfAtTheLimit(t *testing.T) {
	for _, c := range []struct {
		name string
		a, b []impl.Pair
		n    int
	}{
		{"60 are gone", pairsFor("x", 60), nil, 60},
		{"60 are put", nil, pairsFor("x", 60), 60},
		{"60 have another value", numbered(60), pairsFor("k", 60), 60},
		{"60 alike", numbered(60), numbered(60), 0},
		{"30 gone, 30 put", pairsFor("x", 30), pairsFor("m", 30), 60},
		{"one gone, 59 put", pairsFor("x", 1), pairsFor("m", 59), 60},
		{"one gone, 60 put", pairsFor("x", 1), pairsFor("m", 60), 61},
		{"60 gone, one put", pairsFor("m", 60), pairsFor("x", 1), 61},
		{"31 gone, 30 put", pairsFor("x", 31), pairsFor("m", 30), 61},
		{"60 and 60, no key in both", numbered(60), pairsFor("m", 60), 120},
		{"60 and 60, no key in both, the other way", pairsFor("m", 60), numbered(60), 120},
	} {
		l, ok := impl.DeltaOf(c.a, c.b)
		if want := c.n <= 60; ok != want || !want && len(l) != 0 || want && len(l) != c.n || want && !impl.DeltaOk(l) {
			t.Error(c.name, len(l), ok)
		}
	}
}

func TestDeltaOfMapsThatAreNotRight(t *testing.T) {
	for name, m := range wrongMaps() {
		for _, other := range [][]impl.Pair{nil, m, pairsOf("b"), numbered(60)} {
			if l, ok := impl.DeltaOf(m, other); ok || len(l) != 0 {
				t.Error(name, "first", l)
			}
			if l, ok := impl.DeltaOf(other, m); ok || len(l) != 0 {
				t.Error(name, "second", l)
			}
		}
	}
}

func TestChanged(t *testing.T) {
	for _, c := range []struct{ m, l, want string }{
		{"", "", ""},
		{"a:1", "", "a:1"},
		{"", "a:1", "a:1"},
		{"a:1", "-a", ""},
		{"a:1", "a:2", "a:2"},
		{"a:1", "a:1", "a:1"},
		{"a:1 b:2", "-a b:3 c:4", "b:3 c:4"},
		{"", "-a b:3 c:4", "b:3 c:4"},
		{"", "-a", ""},
		{"b:1", "-a", "b:1"},
		{"b:1", "-c", "b:1"},
		{"b:1 d:1", "-a -bb -c -e", "b:1 d:1"},
		{"b:1 d:1", "a:2 c:2 e:2", "a:2 b:1 c:2 d:1 e:2"},
		{"a:1 b:1 c:1", "-a -b -c", ""},
	} {
		m, ok := impl.Changed(mapOf(c.m), deltaOf(c.l))
		if !ok || !slices.Equal(m, mapOf(c.want)) {
			t.Errorf("%q with %q: %v %v, not %q", c.m, c.l, m, ok, c.want)
		}
	}
}

func TestChangedAtTheLimit(t *testing.T) {
	full := numbered(60)
	for _, c := range []struct {
		name string
		m    []impl.Pair
		l    string
		n    int
	}{
		{"the 60th", numbered(59), "z", 60},
		{"the 61st", full, "z", 61},
		{"the 61st, ahead of all", full, "a", 61},
		{"60, each with another value", full, "k10:z k69:z", 60},
		{"one more at the end though not between", full, "-k10 k101 z", 61},
		{"likewise, with gone of what is not there", full, "-a -k10 k101 -k9 z", 61},
		{"61 between, 60 at the end", full, "a -k10", 60},
		{"61 between, 60 at the end, the last one goes", full, "k101 -k69", 60},
		{"62 between, 60 at the end", full, "a aa -k10 -k11", 60},
		{"61 between, 59 at the end", full, "a -k10 -k11", 59},
		{"61 between and at the end", full, "a aa -k10", 61},
		{"gone of what is not there", full, "a -b -c -k1", 61},
	} {
		l := deltaOf(c.l)
		m, ok := impl.Changed(c.m, l)
		if want := c.n <= 60; ok != want || want && (len(m) != c.n || !slices.Equal(m, changedMap(c.m, l))) || !want && len(m) != 0 {
			t.Error(c.name, len(m), ok)
		}
	}
	others := pairsFor("m", 60)
	if m, ok := impl.Changed(full, puts(others)); ok || len(m) != 0 {
		t.Error("60 and 60 more", m)
	}
	if m, ok := impl.Changed(nil, puts(others)); !ok || !slices.Equal(m, others) {
		t.Error("none and 60 more", m, ok)
	}
	if m, ok := impl.Changed(full, drops(full)); !ok || len(m) != 0 {
		t.Error("60 go", m, ok)
	}
}

func TestChangedOfWhatIsNotRight(t *testing.T) {
	for name, m := range wrongMaps() {
		for _, l := range [][]impl.Change{nil, deltaOf("b:9"), deltaOf("-b"), deltaOf("-zz")} {
			if x, ok := impl.Changed(m, l); ok || len(x) != 0 {
				t.Error(name, "with", l, x)
			}
		}
	}
	for name, l := range wrongDeltas() {
		for _, m := range [][]impl.Pair{nil, pairsOf("a"), pairsOf("a", "b", "c"), numbered(60)} {
			if x, ok := impl.Changed(m, l); ok || len(x) != 0 {
				t.Error(name, m, x)
			}
		}
	}
}

func TestJoined(t *testing.T) {
	for _, c := range []struct{ a, b, want string }{
		{"", "", ""},
		{"a:1", "", "a:1"},
		{"", "a:1", "a:1"},
		{"a:1", "a:2", "a:2"},
		{"a:1", "-a", "-a"},
		{"-a", "a:1", "a:1"},
		{"-a", "-a", "-a"},
		{"-a b:3", "-b d:1", "-a -b d:1"},
		{"b:1 d:1", "a:2 c:2 e:2", "a:2 b:1 c:2 d:1 e:2"},
		{"a:1 c:1 e:1", "b:2 d:2", "a:1 b:2 c:1 d:2 e:1"},
		{"a:1 -b", "c:1 -d", "a:1 -b c:1 -d"},
		{"c:1 -d", "a:1 -b", "a:1 -b c:1 -d"},
		{"a:1 b:1 c:1", "-a -b -c", "-a -b -c"},
		{"a:1 b:1 c:1", "b:2", "a:1 b:2 c:1"},
		{"b:2", "a:1 b:1 c:1", "a:1 b:1 c:1"},
		{"a:1 ab:1", "aa:1 ab:2", "a:1 aa:1 ab:2"},
	} {
		if l, ok := impl.Joined(deltaOf(c.a), deltaOf(c.b)); !ok || deltaText(l) != c.want {
			t.Errorf("%q and %q: %q %v, not %q", c.a, c.b, deltaText(l), ok, c.want)
		}
	}
}

func TestJoinedAtTheLimit(t *testing.T) {
	x, y := puts(pairsFor("x", 60)), puts(pairsFor("y", 60))
	for _, c := range []struct {
		name string
		a, b []impl.Change
		n    int
	}{
		{"60 and none", x, nil, 60},
		{"none and 60", nil, x, 60},
		{"59 and one more", x[:59], y[:1], 60},
		{"60 and one more", x, y[:1], 61},
		{"one and 60 more", y[:1], x, 61},
		{"60 and one ahead", x, deltaOf("-a"), 61},
		{"30 and 30", x[:30], y[:30], 60},
		{"30 and 31", x[:30], y[:31], 61},
		{"60 and 60", x, y, 120},
		{"60 and the same", x, x, 60},
		{"60 that go", x, drops(pairsFor("x", 60)), 60},
		{"60 and one that is there", x, deltaOf("-x10"), 60},
		{"40 and 40 that have 20 in common", x[:40], x[20:], 60},
		{"40 and 41, one of them another one", x[:40], append(slices.Clone(x[20:]), y[0]), 61},
	} {
		l, ok := impl.Joined(c.a, c.b)
		if want := c.n <= 60; ok != want || want && (len(l) != c.n || !impl.DeltaOk(l)) || !want && len(l) != 0 {
			t.Error(c.name, len(l), ok)
		}
	}
}

func TestJoinedOfWhatIsNotRight(t *testing.T) {
	for name, l := range wrongDeltas() {
		for _, other := range [][]impl.Change{nil, l, deltaOf("a:9"), deltaOf("-a b:9 -c"), deltaOf("zz")} {
			if x, ok := impl.Joined(l, other); ok || len(x) != 0 {
				t.Error(name, "first", x)
			}
			if x, ok := impl.Joined(other, l); ok || len(x) != 0 {
				t.Error(name, "second", x)
			}
		}
	}
}

func TestMerged(t *testing.T) {
	for _, c := range []struct{ name, base, a, b, want, unlike string }{
		{"nothing", "", "", "", "", ""},
		{"no change", "a:1", "a:1", "a:1", "a:1", ""},
		{"a alone puts", "b:2", "a:1 b:2", "b:2", "a:1 b:2", ""},
		{"b alone puts", "b:2", "b:2", "b:2 c:3", "b:2 c:3", ""},
		{"a alone drops", "a:1 b:2", "b:2", "a:1 b:2", "b:2", ""},
		{"b alone drops", "a:1 b:2", "a:1 b:2", "a:1", "a:1", ""},
		{"a alone has another value", "a:1 b:2", "a:9 b:2", "a:1 b:2", "a:9 b:2", ""},
		{"b alone has another value", "a:1 b:2", "a:1 b:2", "a:1 b:9", "a:1 b:9", ""},
		{"each another key", "a:1 b:2 c:3", "a:9 b:2 c:3", "a:1 c:4", "a:9 c:4", ""},
		{"each another one of each kind", "a:1 b:2 c:3 d:4", "b:2 c:9 d:4 e:5", "a:1 c:3 d:8 f:6", "c:9 d:8 e:5 f:6", ""},
		{"both put alike", "b:2", "a:1 b:2", "a:1 b:2", "a:1 b:2", ""},
		{"both drop", "a:1 b:2", "b:2", "b:2", "b:2", ""},
		{"both have the same other value", "a:1 b:2", "a:9 b:2", "a:9 b:2", "a:9 b:2", ""},
		{"both all alike", "a:1 b:2 c:3", "a:9 c:3 d:4", "a:9 c:3 d:4", "a:9 c:3 d:4", ""},
		{"put and put, unlike", "b:2", "a:8 b:2", "a:9 b:2", "a:8 b:2", "a"},
		{"drop and another value", "a:1 b:2", "b:2", "a:9 b:2", "b:2", "a"},
		{"another value and drop", "a:1 b:2", "a:9 b:2", "b:2", "a:9 b:2", "a"},
		{"other values, unlike", "a:1 b:2", "a:8 b:2", "a:9 b:2", "a:8 b:2", "a"},
		{"several unlike", "a:1 b:2 c:3", "a:9 b:2", "a:8 b:2 c:5 d:1", "a:9 b:2 d:1", "a c"},
		{"each kind of unlike", "b:1 c:1 d:1", "a:8 b:8 d:8", "a:9 c:9 d:9", "a:8 b:8 d:8", "a b c d"},
		{"unlike ones among others", "b:1 d:1 f:1", "a:2 b:3 c:4 d:1 f:1", "b:5 c:6 d:7 g:8", "a:2 b:3 c:4 d:7 g:8", "b c"},
		{"a is as b, base is empty", "", "a:1 b:2", "a:1 b:2", "a:1 b:2", ""},
		{"base is empty", "", "a:1 b:2", "b:3 c:4", "a:1 b:2 c:4", "b"},
		{"a is empty", "a:1 b:2", "", "a:1 b:3 c:4", "c:4", "b"},
		{"b is empty", "a:1 b:2", "a:1 b:3 c:4", "", "b:3 c:4", "b"},
		{"all go", "a:1 b:2", "a:1", "b:2", "", ""},
		{"another value, and back", "a:1", "a:2", "a:1", "a:2", ""},
		{"a value that goes to another key", "a:1 b:2", "a:2 b:2", "a:1 b:1", "a:2 b:1", ""},
	} {
		m, unlike, ok := impl.Merged(mapOf(c.base), mapOf(c.a), mapOf(c.b))
		if !ok || !slices.Equal(m, mapOf(c.want)) || strings.Join(unlike, " ") != c.unlike {
			t.Errorf("%s: %v %v %v, not %q %q", c.name, m, unlike, ok, c.want, c.unlike)
		}
	}
}

func TestMergedAtTheLimit(t *testing.T) {
	x, y, z := pairsFor("x", 60), pairsFor("y", 60), pairsFor("z", 60)
	join := func(l ...[]impl.Pair) []impl.Pair { return slices.Concat(l...) }
	for _, c := range []struct {
		name             string
		base, a, b, want []impl.Pair
	}{
		{"120 changes make b of base", x, x, y, y},
		{"120 changes make a of base", x, y, x, y},
		{"120 changes make either of base", x, y, y, y},
		{"61 changes make b of base", x, x, y[:1], y[:1]},
		{"61 changes make a of base", x, y[:1], x, y[:1]},
		{"both drop all, 30 and 30 are put", x, y[:30], z[:30], join(y[:30], z[:30])},
		{"59, and one of a", x[:59], join(x[:59], y[:1]), x[:59], join(x[:59], y[:1])},
		{"59, and the same one of each", x[:59], join(x[:59], y[:1]), join(x[:59], y[:1]), join(x[:59], y[:1])},
		{"58, and one of each", x[:58], join(x[:58], y[:1]), join(x[:58], z[:1]), join(x[:58], y[:1], z[:1])},
		{"60, one goes and one comes", x, x[1:], join(x[:59], z[:1]), join(x[1:59], z[:1])},
		{"59, a puts, b drops and puts", x[:59], join(x[:59], y[:1]), join(x[1:59], z[:1]), join(x[1:59], y[:1], z[:1])},
		{"59, a puts, b puts ahead of it and drops", y[:59], join(y[:59], z[:1]), join(x[:1], y[:58]), join(x[:1], y[:58], z[:1])},
		{"none, 30 and 30", nil, x[:30], y[:30], join(x[:30], y[:30])},
	} {
		m, unlike, ok := impl.Merged(c.base, c.a, c.b)
		if !ok || !slices.Equal(m, c.want) || len(unlike) != 0 {
			t.Error(c.name, m, unlike, ok)
		}
	}
	for _, c := range []struct {
		name       string
		base, a, b []impl.Pair
	}{
		{"both drop all, 30 and 31 are put", x, y[:30], z[:31]},
		{"both drop all, 60 and 60 are put", x, y, z},
		{"59, and one of each", x[:59], join(x[:59], y[:1]), join(x[:59], z[:1])},
		{"60, and two come for one that goes", x, join(x[:59], y[:1]), join(x[:59], z[:1])},
		{"none, 30 and 31", nil, x[:30], y[:31]},
		{"none, 31 and 30", nil, x[:31], y[:30]},
		{"too many, and an unlike one", nil, join(pairsOf("a:1"), x[:30]), join(pairsOf("a:2"), y[:30])},
	} {
		if m, unlike, ok := impl.Merged(c.base, c.a, c.b); ok || len(m) != 0 || len(unlike) != 0 {
			t.Error(c.name, m, unlike, ok)
		}
	}
	var keys []string
	for _, p := range numbered(60) {
		keys = append(keys, p.Key)
	}
	if m, unlike, ok := impl.Merged(pairsFor("k", 60), nil, numbered(60)); !ok || len(m) != 0 || !slices.Equal(unlike, keys) {
		t.Error("60 unlike ones", m, unlike, ok)
	}
}

func TestMergedOfMapsThatAreNotRight(t *testing.T) {
	right := [][]impl.Pair{nil, pairsOf("b"), numbered(60)}
	for name, m := range wrongMaps() {
		for _, one := range append(right, m) {
			for _, other := range append(right, m) {
				for place, three := range [][3][]impl.Pair{{m, one, other}, {one, m, other}, {one, other, m}} {
					if x, unlike, ok := impl.Merged(three[0], three[1], three[2]); ok || len(x) != 0 || len(unlike) != 0 {
						t.Error(name, "at place", place, x, unlike)
					}
				}
			}
		}
	}
}

// someMap has n pairs at most, of half as many keys more and of few values.
func someMap(r *rand.Rand, n int) []impl.Pair {
	m := map[string]string{}
	for _, i := range r.Perm(n * 3 / 2)[:r.Intn(n+1)] {
		m["k"+strconv.Itoa(i)] = strconv.Itoa(r.Intn(3))
	}
	return pairsFrom(m)
}

// someDelta changes about as many keys as someMap has.
func someDelta(r *rand.Rand, n int) []impl.Change {
	var l []impl.Change
	for _, p := range someMap(r, n) {
		if p.Val == "0" {
			l = append(l, impl.Change{Key: p.Key, Gone: true})
		} else {
			l = append(l, impl.Change{Key: p.Key, Val: p.Val})
		}
	}
	return l
}

func valuesIn(m []impl.Pair) map[string]string {
	values := map[string]string{}
	for _, p := range m {
		values[p.Key] = p.Val
	}
	return values
}

// unlikeKeys are the keys that stand in one of two maps, or in both with unlike
// values.
func unlikeKeys(a []impl.Pair, b []impl.Pair) []string {
	x, y := valuesIn(a), valuesIn(b)
	keys := map[string]bool{}
	for k := range x {
		keys[k] = x[k] != y[k]
	}
	for k := range y {
		keys[k] = x[k] != y[k]
	}
	maps.DeleteFunc(keys, func(_ string, unlike bool) bool { return !unlike })
	return slices.Sorted(maps.Keys(keys))
}

func keysOf(l []impl.Change) []string {
	var keys []string
	for _, c := range l {
		keys = append(keys, c.Key)
	}
	return keys
}

// TestWhatMakesOneMapOfAnotherOneDoes is the first half of promise 9.
func TestWhatMakesOneMapOfAnotherOneDoes(t *testing.T) {
	r := rand.New(rand.NewSource(9))
	taken, refused := 0, 0
	for i := range 3000 {
		n := []int{1, 3, 8, 40, 60}[i%5]
		a, b := someMap(r, n), someMap(r, n)
		keys := unlikeKeys(a, b)
		l, ok := impl.DeltaOf(a, b)
		if want := len(keys) <= 60; ok != want {
			t.Fatal(a, b, l, ok)
		}
		if !ok {
			refused++
			continue
		}
		taken++
		if !impl.DeltaOk(l) || !slices.Equal(keysOf(l), keys) {
			t.Fatal(a, b, l)
		}
		if m, ok := impl.Changed(a, l); !ok || !slices.Equal(m, b) {
			t.Fatal(a, b, l, m, ok)
		}
		// Once more it changes nothing.
		if m, ok := impl.Changed(b, l); !ok || !slices.Equal(m, b) {
			t.Fatal(a, b, l, m, ok)
		}
	}
	if taken < 2000 || refused < 20 {
		t.Error(taken, refused)
	}
}

func TestChangedAndJoinedOfAny(t *testing.T) {
	r := rand.New(rand.NewSource(91))
	joined, refused := 0, 0
	for i := range 3000 {
		n := []int{1, 3, 8, 40, 60}[i%5]
		m, a, b := someMap(r, n), someDelta(r, n), someDelta(r, n)
		both, ok := checkJoined(t, a, b)
		if !ok {
			refused++
			continue
		}
		once, ok := checkChanged(t, m, both)
		first, between := checkChanged(t, m, a)
		if !ok || !between {
			continue
		}
		// What is done in one is done in two.
		joined++
		if twice, ok := checkChanged(t, first, b); !ok || !slices.Equal(twice, once) {
			t.Fatal(m, a, b, once, twice)
		}
	}
	if joined < 2000 || refused < 100 {
		t.Error(joined, refused)
	}
}

// checkJoined looks at each change of what Joined answers.
func checkJoined(t *testing.T, a []impl.Change, b []impl.Change) ([]impl.Change, bool) {
	t.Helper()
	keys := append(keysOf(a), keysOf(b)...)
	slices.Sort(keys)
	keys = slices.Compact(keys)
	l, ok := impl.Joined(a, b)
	if want := len(keys) <= 60; ok != want || !want && len(l) != 0 {
		t.Fatal(a, b, l, ok)
	}
	if ok && (!slices.Equal(keysOf(l), keys) || !impl.DeltaOk(l)) {
		t.Fatal(a, b, l)
	}
	for _, c := range l {
		ofB := slices.Contains(keysOf(b), c.Key)
		if ofB && !slices.Contains(b, c) || !ofB && !slices.Contains(a, c) {
			t.Fatal(a, b, c)
		}
	}
	return l, ok
}

// checkChanged holds Changed against built-in maps.
func checkChanged(t *testing.T, m []impl.Pair, l []impl.Change) ([]impl.Pair, bool) {
	t.Helper()
	want := changedMap(m, l)
	x, ok := impl.Changed(m, l)
	if ok != (len(want) <= 60) || ok && !slices.Equal(x, want) || !ok && len(x) != 0 {
		t.Fatal(m, l, x, ok)
	}
	return x, ok
}

// mergedOf works out by values alone what Merged has to answer: a key has what
// the side has that is not as base, which is a's where neither is.
func mergedOf(base []impl.Pair, a []impl.Pair, b []impl.Pair) ([]impl.Pair, []string) {
	of, x, y := valuesIn(base), valuesIn(a), valuesIn(b)
	merged, keys := maps.Clone(of), maps.Clone(of)
	maps.Copy(keys, x)
	maps.Copy(keys, y)
	var unlike []string
	for _, k := range slices.Sorted(maps.Keys(keys)) {
		merged[k] = x[k]
		if x[k] == of[k] {
			merged[k] = y[k]
		} else if y[k] != of[k] && y[k] != x[k] {
			unlike = append(unlike, k)
		}
		if merged[k] == "" {
			delete(merged, k)
		}
	}
	return pairsFrom(merged), unlike
}

// TestMergedHasWhatOneSideAloneChanged is the other half of promise 9.
func TestMergedHasWhatOneSideAloneChanged(t *testing.T) {
	r := rand.New(rand.NewSource(92))
	taken, refused, clashes := 0, 0, 0
	for i := range 4000 {
		n := []int{1, 3, 8, 40, 60}[i%5]
		base, a, b := someMap(r, n), someMap(r, n), someMap(r, n)
		if i%2 == 0 {
			a, b = changedMap(base, someDelta(r, n/3)), changedMap(base, someDelta(r, n/3))
		}
		if len(a) > 60 || len(b) > 60 {
			continue
		}
		want, keys := mergedOf(base, a, b)
		m, unlike, ok := impl.Merged(base, a, b)
		if ok != (len(want) <= 60) {
			t.Fatal(base, a, b, ok)
		}
		if !ok {
			refused++
			want, keys = nil, nil
		} else {
			taken++
		}
		clashes += len(keys)
		if !slices.Equal(m, want) || !slices.Equal(unlike, keys) {
			t.Fatal(base, a, b, m, unlike, want, keys)
		}
		// The other way round it differs only where both are unlike.
		other, same, back := impl.Merged(base, b, a)
		decided := func(k string) bool { return !slices.Contains(keys, k) }
		if ok && back && (!slices.Equal(same, keys) || slices.ContainsFunc(unlikeKeys(other, m), decided)) {
			t.Fatal(base, a, b, m, other)
		}
	}
	if taken < 2000 || refused < 50 || clashes < 1000 {
		t.Error(taken, refused, clashes)
	}
}
