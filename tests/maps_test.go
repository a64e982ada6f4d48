package tests

import (
	"maps"
	"math/rand"
	"slices"
	"strconv"
	"strings"
	"testing"

	"loop.example/g00573/impl"
)

// wrongMaps are maps that are not right. Each has the key b, so that a call
// that does not look would find it.
func wrongMaps() map[string][]impl.Pair {
	return map[string][]impl.Pair{
		"61 pairs":             append(pairsOf("b"), numbered(60)...),
		"keys fall":            pairsOf("c", "b"),
		"the last key falls":   pairsOf("b", "d", "c"),
		"two alike":            pairsOf("b", "b"),
		"alike, other values":  pairsOf("a:1", "b:1", "b:2"),
		"an empty key":         pairsOf(":1", "b"),
		"an empty value":       pairsOf("a:", "b"),
		"a key of 7":           pairsOf("abcdefg:1", "b"),
		"a value of 7":         pairsOf("a:abcdefg", "b"),
		"a blank in a key":     {{Key: "a a", Val: "1"}, {Key: "b", Val: "1"}},
		"a blank in a value":   {{Key: "a", Val: "1 1"}, {Key: "b", Val: "1"}},
		"= in a key":           {{Key: "a=", Val: "1"}, {Key: "b", Val: "1"}},
		"= in a value":         {{Key: "a", Val: "=1"}, {Key: "b", Val: "1"}},
		"byte 127 in a key":    {{Key: "b", Val: "1"}, {Key: "c\x7f", Val: "1"}},
		"the last value wrong": {{Key: "b", Val: "1"}, {Key: "c", Val: "\x00"}},
	}
}

func TestKeyLengths(t *testing.T) {
	for n := range 20 {
		want := n >= 1 && n <= 6
		if impl.KeyOk(strings.Repeat("x", n)) != want {
			t.Errorf("a key of %d bytes: want %v", n, want)
		}
	}
	if impl.KeyOk(strings.Repeat("x", 1000000)) {
		t.Error("a key of 1000000 bytes")
	}
	if impl.MaxKey != 6 || impl.MaxPairs != 60 {
		t.Error("limits", impl.MaxKey, impl.MaxPairs)
	}
}

func TestKeyBytes(t *testing.T) {
	for c := range 256 {
		want := c >= 33 && c <= 126 && c != '='
		for place := range impl.MaxKey {
			s := []byte("abcdef")
			s[place] = byte(c)
			if impl.KeyOk(string(s)) != want {
				t.Errorf("byte %d at place %d: want %v", c, place, want)
			}
		}
		if impl.KeyOk(string([]byte{byte(c)})) != want {
			t.Errorf("byte %d alone: want %v", c, want)
		}
	}
}

func TestRightMaps(t *testing.T) {
	for i, m := range [][]impl.Pair{
		nil,
		{},
		pairsOf("a"),
		pairsOf("a", "ab", "b"),
		pairsOf("!:~", "~:!"),
		pairsOf("10:1", "9:1"),
		pairsOf("B:1", "a:1"),
		pairsOf("abcdef:ABCDEF", "abcdeg:ABCDEF"),
		pairsOf("a:1", "b:1", "c:1"),
		numbered(59),
		numbered(60),
	} {
		if !impl.MapOk(m) {
			t.Error(i, "is right")
		}
	}
}

func TestWrongMapsAreRefused(t *testing.T) {
	for name, m := range wrongMaps() {
		if impl.MapOk(m) {
			t.Error(name, "MapOk")
		}
		if v, ok := impl.Get(m, "b"); ok || v != "" {
			t.Error(name, "Get", v, ok)
		}
		if x, ok := impl.Put(m, "b", "9"); ok || len(x) != 0 {
			t.Error(name, "Put", x, ok)
		}
		if x, ok := impl.Put(m, "z", "9"); ok || len(x) != 0 {
			t.Error(name, "Put", x, ok)
		}
		if x, ok := impl.Drop(m, "b"); ok || len(x) != 0 {
			t.Error(name, "Drop", x, ok)
		}
		if x := impl.Range(m, "", ""); len(x) != 0 {
			t.Error(name, "Range", x)
		}
		if s := impl.MapText(m); s != "" {
			t.Error(name, "MapText", s)
		}
	}
}

func TestGet(t *testing.T) {
	m := mustRead(t, "a=1 ab=2 b=3")
	for k, want := range map[string]string{"a": "1", "ab": "2", "b": "3"} {
		if v, ok := impl.Get(m, k); !ok || v != want {
			t.Error(k, v, ok)
		}
	}
	for _, k := range []string{"", " ", "aa", "abc", "c", "A", "a=1", "1", "abcdefgh", "\xff"} {
		if v, ok := impl.Get(m, k); ok || v != "" {
			t.Errorf("%q: %q %v", k, v, ok)
		}
	}
	if v, ok := impl.Get(nil, "a"); ok || v != "" {
		t.Error("the empty map", v, ok)
	}
}

func TestPut(t *testing.T) {
	for _, c := range []struct{ from, k, v, want string }{
		{"", "a", "1", "a=1"},
		{"b=2", "a", "1", "a=1 b=2"},
		{"b=2", "c", "3", "b=2 c=3"},
		{"a=1 c=3", "b", "2", "a=1 b=2 c=3"},
		{"a=1 c=3", "ab", "2", "a=1 ab=2 c=3"},
		{"a=1 b=2 c=3", "a", "9", "a=9 b=2 c=3"},
		{"a=1 b=2 c=3", "b", "9", "a=1 b=9 c=3"},
		{"a=1 b=2 c=3", "c", "9", "a=1 b=2 c=9"},
		{"a=1 b=2", "b", "2", "a=1 b=2"},
		{"b=2", "abcdef", "~!~!~!", "abcdef=~!~!~! b=2"},
	} {
		x, ok := impl.Put(mustRead(t, c.from), c.k, c.v)
		if !ok || impl.MapText(x) != c.want {
			t.Errorf("%q with %s=%s: %v %v", c.from, c.k, c.v, x, ok)
		}
	}
}

func TestPutRefusesWrongKeysAndValues(t *testing.T) {
	m := pairsOf("a", "b")
	for _, s := range []string{"", " ", "abcdefg", "a b", "=", "a=", "\x7f", "\x1f", "\xc3\xa9", "a\n"} {
		if x, ok := impl.Put(m, s, "1"); ok || len(x) != 0 {
			t.Errorf("key %q: %v %v", s, x, ok)
		}
		for _, k := range []string{"a", "c"} {
			if x, ok := impl.Put(m, k, s); ok || len(x) != 0 {
				t.Errorf("%s with the value %q: %v %v", k, s, x, ok)
			}
		}
	}
}

func TestPutAtTheLimit(t *testing.T) {
	if x, ok := impl.Put(numbered(59), "z", "1"); !ok || len(x) != 60 || !impl.MapOk(x) {
		t.Error("the 60th", x, ok)
	}
	full := numbered(60)
	for _, k := range []string{"a", "k2", "z"} {
		if x, ok := impl.Put(full, k, "1"); ok || len(x) != 0 {
			t.Error("the 61st", k, x, ok)
		}
	}
	for i, p := range full {
		x, ok := impl.Put(full, p.Key, "new")
		if !ok || len(x) != 60 || x[i] != (impl.Pair{Key: p.Key, Val: "new"}) {
			t.Error(p.Key, "is there already", x, ok)
		}
	}
}

func TestDrop(t *testing.T) {
	for _, c := range []struct{ from, k, want string }{
		{"a=1", "a", ""},
		{"a=1 b=2 c=3", "a", "b=2 c=3"},
		{"a=1 b=2 c=3", "b", "a=1 c=3"},
		{"a=1 b=2 c=3", "c", "a=1 b=2"},
	} {
		x, ok := impl.Drop(mustRead(t, c.from), c.k)
		if !ok || impl.MapText(x) != c.want || !impl.MapOk(x) {
			t.Errorf("%q without %s: %v %v", c.from, c.k, x, ok)
		}
	}
	for _, k := range []string{"", "0", "aa", "d", " ", "abcdefgh", "\xff"} {
		if x, ok := impl.Drop(pairsOf("a", "b", "c"), k); ok || len(x) != 0 {
			t.Errorf("%q is not there: %v %v", k, x, ok)
		}
	}
	if x, ok := impl.Drop(nil, "a"); ok || len(x) != 0 {
		t.Error("the empty map", x, ok)
	}
	if x, ok := impl.Drop(numbered(60), "k69"); !ok || len(x) != 59 {
		t.Error("one of 60", x, ok)
	}
}

// TestChangesAgainstABuiltInMap puts and drops many times over, and holds all
// that is there against Go's own map.
func TestChangesAgainstABuiltInMap(t *testing.T) {
	r := rand.New(rand.NewSource(1))
	var m []impl.Pair
	model := map[string]string{}
	for i := range 6000 {
		k := string([]byte{byte('a' + r.Intn(26)), byte('0' + r.Intn(10))})[:1+r.Intn(2)]
		v := strconv.Itoa(i)
		_, there := model[k]
		var x []impl.Pair
		var ok, want bool
		if r.Intn(5) < 3 {
			x, ok = impl.Put(m, k, v)
			if want = there || len(model) < impl.MaxPairs; want {
				model[k] = v
			}
		} else {
			x, ok = impl.Drop(m, k)
			want = there
			delete(model, k)
		}
		if ok != want || !ok && len(x) != 0 {
			t.Fatal(i, k, ok, want)
		}
		if ok {
			m = x
		}
		checkAgainstModel(t, m, model)
	}
}

func checkAgainstModel(t *testing.T, m []impl.Pair, model map[string]string) {
	t.Helper()
	var want []impl.Pair
	for _, k := range slices.Sorted(maps.Keys(model)) {
		want = append(want, impl.Pair{Key: k, Val: model[k]})
		if v, ok := impl.Get(m, k); !ok || v != model[k] {
			t.Fatal("Get", k, v, ok)
		}
	}
	if !slices.Equal(m, want) {
		t.Fatalf("%v, but should be %v", m, want)
	}
	back, ok := impl.ReadMap(impl.MapText(m))
	if !ok || !slices.Equal(back, m) {
		t.Fatalf("%v does not come back: %v", m, back)
	}
}

func TestTwoPutsInEitherOrder(t *testing.T) {
	keys := []string{"a", "k10", "k15", "k150", "k68", "k69", "z"}
	for _, size := range []int{0, 1, 10, 58, 59, 60} {
		m := numbered(size)
		for _, a := range keys {
			for _, b := range keys {
				ab, okAb := putTwo(m, a, b)
				ba, okBa := putTwo(m, b, a)
				if a != b && okAb && okBa && !slices.Equal(ab, ba) {
					t.Error(size, a, b, ab, ba)
				}
				if want := roomForTwo(m, a, b); okAb != want || okBa != want {
					t.Error(size, a, b, okAb, okBa, want)
				}
			}
		}
	}
}

// putTwo gives each key a value of its own, whichever is put first.
func putTwo(m []impl.Pair, a string, b string) ([]impl.Pair, bool) {
	m, ok := impl.Put(m, a, "1"+a)
	if !ok {
		return nil, false
	}
	return impl.Put(m, b, "1"+b)
}

func roomForTwo(m []impl.Pair, a string, b string) bool {
	keys := map[string]bool{a: true, b: true}
	for _, p := range m {
		keys[p.Key] = true
	}
	return len(keys) <= impl.MaxPairs
}

func TestRange(t *testing.T) {
	m := mustRead(t, "a=1 ab=2 b=3 d=4")
	for _, c := range []struct{ low, high, want string }{
		{"", "", "a=1 ab=2 b=3 d=4"},
		{"a", "", "a=1 ab=2 b=3 d=4"},
		{"ab", "", "ab=2 b=3 d=4"},
		{"aa", "", "ab=2 b=3 d=4"},
		{"d", "", "d=4"},
		{"e", "", ""},
		{"", "a", ""},
		{"", "d", "a=1 ab=2 b=3"},
		{"", "e", "a=1 ab=2 b=3 d=4"},
		{"a", "b", "a=1 ab=2"},
		{"ab", "d", "ab=2 b=3"},
		{"b", "b", ""},
		{"c", "c", ""},
		{"d", "a", ""},
		{"e", "b", ""},
		{"\xff\xff", " ", ""},
		{" ", "\xff\xff", "a=1 ab=2 b=3 d=4"},
		{"a ", "b=longer than a key", "ab=2 b=3"},
	} {
		if x := impl.Range(m, c.low, c.high); impl.MapText(x) != c.want {
			t.Errorf("%q .. %q: %v", c.low, c.high, x)
		}
	}
	if x := impl.Range(nil, "", ""); len(x) != 0 {
		t.Error("the empty map", x)
	}
}

func TestRangeAgainstALook(t *testing.T) {
	bounds := []string{"", "\x00", "k", "k1", "k10", "k100", "k2", "k39", "k4", "k69", "k70", "k9", "z", "\xff", strings.Repeat("k", 100)}
	for _, size := range []int{0, 1, 2, 30, 60} {
		m := numbered(size)
		for _, low := range bounds {
			for _, high := range bounds {
				var want []impl.Pair
				for _, p := range m {
					if p.Key >= low && (high == "" || p.Key < high) {
						want = append(want, p)
					}
				}
				if x := impl.Range(m, low, high); !slices.Equal(x, want) {
					t.Errorf("%d pairs, %q .. %q: %v", size, low, high, x)
				}
			}
		}
	}
}

func TestMapTexts(t *testing.T) {
	for _, c := range []struct {
		m    []impl.Pair
		text string
	}{
		{nil, ""},
		{[]impl.Pair{}, ""},
		{pairsOf("a:1"), "a=1"},
		{pairsOf("a:1", "c:3"), "a=1 c=3"},
		{pairsOf("!:~", "abcdef:ABCDEF", "~:!"), "!=~ abcdef=ABCDEF ~=!"},
		{[]impl.Pair{{Key: ":", Val: "\""}}, ":=\""},
	} {
		if s := impl.MapText(c.m); s != c.text {
			t.Errorf("%v: %q", c.m, s)
		}
		if m, ok := impl.ReadMap(c.text); !ok || !slices.Equal(m, c.m) {
			t.Errorf("%q: %v %v", c.text, m, ok)
		}
	}
	for n := range 61 {
		m := numbered(n)
		back, ok := impl.ReadMap(impl.MapText(m))
		if !ok || !slices.Equal(back, m) {
			t.Error(n, "pairs do not come back", back, ok)
		}
	}
}

func TestTextsOfNoMap(t *testing.T) {
	tooMany := make([]string, 61)
	for i, p := range numbered(61) {
		tooMany[i] = p.Key + "=" + p.Val
	}
	for _, s := range []string{
		" ", "  ", "=", "==", "a", "a=", "=1", "a b", "a=1=2", "a==1", "a=1=",
		" a=1", "a=1 ", "a=1  b=2", "a=1\tb=2", "a=1\nb=2", "a=1\n", "a=1 b", "a=1 =2", "a=1,b=2", "a=1 b= c=3",
		"b=2 a=1", "a=1 a=1", "a=1 a=2", "a=1 c=3 b=2",
		"abcdefg=1", "a=abcdefg", "a=\x7f", "\x1f=1", "a=\xc3\xa9", "\x00",
		strings.Join(tooMany, " "),
		strings.Join(tooMany[:60], " ") + " ",
		strings.Join(tooMany[:60], " ") + " b",
		strings.Repeat("a=1 ", 1000),
		strings.Repeat(" ", 100000),
		strings.Repeat("=", 100000),
	} {
		if m, ok := impl.ReadMap(s); ok || len(m) != 0 {
			t.Errorf("%.80q: %v", s, m)
		}
	}
	if _, ok := impl.ReadMap(strings.Join(tooMany[:60], " ")); !ok {
		t.Error("60 pairs are right")
	}
}

// TestEveryReadableTextIsItsMapsText looks at each text of up to seven bytes
// over the few that matter.
func TestEveryReadableTextIsItsMapsText(t *testing.T) {
	letters := "ab= "
	var look func(s string)
	look = func(s string) {
		if m, ok := impl.ReadMap(s); ok && (!impl.MapOk(m) || impl.MapText(m) != s) {
			t.Errorf("%q: %v", s, m)
		} else if !ok && len(m) != 0 {
			t.Errorf("%q is refused with %v", s, m)
		}
		if len(s) == 7 {
			return
		}
		for _, c := range letters {
			look(s + string(c))
		}
	}
	look("")
}
