package tests

import (
	"fmt"
	"maps"
	"math"
	"math/rand"
	"slices"
	"strings"
	"testing"

	"loop.example/g00573/impl"
)

// bitsFrom has a flag for each byte of s: x is a page that is used.
func bitsFrom(s string) impl.Bits {
	b := impl.Bits{Size: int64(len(s))}
	for i := range len(s) {
		b.Used = append(b.Used, s[i] == 'x')
	}
	return b
}

// bitsText is the s of bitsFrom.
func bitsText(b impl.Bits) string {
	s := ""
	for _, used := range b.Used {
		if used {
			s += "x"
		} else {
			s += "."
		}
	}
	return s
}

func used(n int) string { return strings.Repeat("x", n) }

func unused(n int) string { return strings.Repeat(".", n) }

// rightBits are texts for bitsFrom.
func rightBits() []string {
	l := []string{"x", ".", "xx", ".x", "x.", "..", ".xxx.", "xx.x.", "x.x.x.x"}
	for _, n := range []int{62, 63, 64, 65, 66, 127, 128, 129, 191, 192, 193, 199, 200} {
		l = append(l, used(n), unused(n), "."+used(n-1), used(n-1)+".", unused(n-1)+"x", "x"+unused(n-1), used(n-2)+".x", used(n/2)+unused(n-n/2))
	}
	return append(l, used(63)+"."+used(136), used(64)+"."+used(135), used(65)+"."+used(134), used(128)+".."+used(70), used(192)+"........")
}

func wrongBits() map[string]impl.Bits {
	flags := func(size int64, n int) impl.Bits { return impl.Bits{Size: size, Used: make([]bool, n)} }
	w := map[string]impl.Bits{
		"nothing at all":             {},
		"Size 0, one flag":           flags(0, 1),
		"Size -1":                    flags(-1, 0),
		"Size -1, one flag":          flags(-1, 1),
		"Size -200":                  flags(-200, 200),
		"Size 201":                   flags(201, 201),
		"Size 201, 200 flags":        flags(201, 200),
		"Size 200, 199 flags":        flags(200, 199),
		"Size 200, 201 flags":        flags(200, 201),
		"Size 200, no flags":         flags(200, 0),
		"Size 256":                   flags(256, 256),
		"Size 257":                   flags(257, 257),
		"Size 1, no flags":           flags(1, 0),
		"Size 1, two flags":          flags(1, 2),
		"Size 2, one flag":           flags(2, 1),
		"Size 2, three flags":        flags(2, 3),
		"Size that turns into right": flags(1<<32+2, 2),
		"the greatest Size":          flags(math.MaxInt64, 3),
		"the least Size":             flags(math.MinInt64, 3),
		"the least Size, none":       flags(math.MinInt64, 0),
	}
	for name, b := range maps.Clone(w) {
		b.Used = slices.Clone(b.Used)
		for i := range b.Used {
			b.Used[i] = i%2 == 0
		}
		w[name+", some used"] = b
	}
	return w
}

func sameBits(a impl.Bits, b impl.Bits) bool {
	return a.Size == b.Size && slices.Equal(a.Used, b.Used)
}

func TestRightBits(t *testing.T) {
	for _, s := range rightBits() {
		b := bitsFrom(s)
		if !impl.BitsOk(b) {
			t.Error(s, "is right")
		}
		if n := impl.Count(b); n != int64(strings.Count(s, "x")) {
			t.Error(s, "Count", n)
		}
	}
}

func TestEverySize(t *testing.T) {
	for size := int64(-3); size < 300; size++ {
		for more := int64(-2); more <= 2; more++ {
			if size+more < 0 {
				continue
			}
			b := impl.Bits{Size: size, Used: make([]bool, size+more)}
			if ok := impl.BitsOk(b); ok != (size >= 1 && size <= 200 && more == 0) {
				t.Error(size, more, ok)
			}
		}
	}
}

func TestWrongBits(t *testing.T) {
	for name, b := range wrongBits() {
		if impl.BitsOk(b) {
			t.Error(name, "BitsOk")
		}
		if n := impl.Count(b); n != 0 {
			t.Error(name, "Count", n)
		}
		checkNoTake(t, name, b)
		for _, id := range []int64{-1, 0, 1, 2, 3, 199, 200, 201, 255, 256, 257, b.Size, b.Size - 1} {
			checkNoGive(t, name, b, id)
		}
	}
}

func checkNoTake(t *testing.T, name string, b impl.Bits) {
	t.Helper()
	n, id, ok := impl.Take(b)
	if ok || id != 0 || !sameBits(n, impl.Bits{}) {
		t.Error(name, "Take", n, id, ok)
	}
}

func checkNoGive(t *testing.T, name string, b impl.Bits, id int64) {
	t.Helper()
	n, ok := impl.Give(b, id)
	if ok || !sameBits(n, impl.Bits{}) {
		t.Error(name, "Give of", id, n, ok)
	}
}

func TestTake(t *testing.T) {
	for _, c := range []struct {
		name, from, to string
		id             int64
	}{
		{"none used", ".....", "x....", 1},
		{"one page, free", ".", "x", 1},
		{"the first one free", ".xxx", "xxxx", 1},
		{"the last one free", "xxx.", "xxxx", 4},
		{"two free", "x.x.", "xxx.", 2},
		{"many behind", "xx.......x", "xxx......x", 3},
		{"the last one of 64", used(63) + ".", used(64), 64},
		{"the first one behind 64", used(64) + ".", used(65), 65},
		{"the second one behind 64", used(65) + "..", used(66) + ".", 66},
		{"the last one of 128", used(127) + ".x.", used(129) + ".", 128},
		{"the first one behind 128", used(128) + "." + used(71), used(200), 129},
		{"the first one behind 192", used(192) + "........", used(193) + ".......", 193},
		{"the last one of 200", used(199) + ".", used(200), 200},
		{"none of 200 used", unused(200), "x" + unused(199), 1},
	} {
		n, id, ok := impl.Take(bitsFrom(c.from))
		if !ok || id != c.id || !sameBits(n, bitsFrom(c.to)) {
			t.Error(c.name, bitsText(n), id, ok)
		}
	}
}

func TestTakeWithAllUsed(t *testing.T) {
	for n := 1; n <= 200; n++ {
		checkNoTake(t, fmt.Sprint("all of ", n), bitsFrom(used(n)))
	}
}

func TestGive(t *testing.T) {
	for _, c := range []struct {
		name, from string
		id         int64
		to         string
	}{
		{"the first one", "xxx", 1, ".xx"},
		{"Size", "xxx", 3, "xx."},
		{"the only one", "x", 1, "."},
		{"one between", ".x.x.", 4, ".x..."},
		{"the last one of 64", used(66), 64, used(63) + ".xx"},
		{"the first one behind 64", used(66), 65, used(64) + ".x"},
		{"one of 200", used(200), 130, used(129) + "." + used(70)},
		{"the last one of 200", used(200), 200, used(199) + "."},
	} {
		n, ok := impl.Give(bitsFrom(c.from), c.id)
		if !ok || !sameBits(n, bitsFrom(c.to)) {
			t.Error(c.name, bitsText(n), ok)
		}
	}
}

func TestGiveOfWhatIsNotUsed(t *testing.T) {
	for _, s := range rightBits() {
		b := bitsFrom(s)
		for _, id := range []int64{0, -1, -2, -63, -64, -65, -200, math.MinInt64, b.Size + 1, b.Size + 2, b.Size + 64, 201, 256, 257, 1 << 32, 1<<32 + 1, math.MaxInt64} {
			checkNoGive(t, s, b, id)
		}
		for i := range b.Used {
			if !b.Used[i] {
				checkNoGive(t, s, b, int64(i)+1)
			}
		}
	}
}

// TestBitsAgainstASet takes and gives pages, and holds all against a set of ids
// that is gone through from 1 on.
func TestBitsAgainstASet(t *testing.T) {
	r := rand.New(rand.NewSource(12))
	for _, size := range []int64{1, 2, 5, 63, 64, 65, 128, 130, 199, 200} {
		b := impl.Bits{Size: size, Used: make([]bool, size)}
		set := map[int64]bool{}
		for i := range 1500 {
			first := int64(1)
			for set[first] {
				first++
			}
			if r.Intn(20) < 7+i/100%2*6 {
				n, id, ok := impl.Take(b)
				if ok != (first <= size) || ok && id != first {
					t.Fatal(size, bitsText(b), id, ok, first)
				}
				if ok {
					set[id], b = true, n
				}
			} else {
				id := r.Int63n(size+3) - 1
				n, ok := impl.Give(b, id)
				if ok != set[id] {
					t.Fatal(size, bitsText(b), id, ok)
				}
				if ok {
					delete(set, id)
					b = n
				}
			}
			checkSet(t, b, size, set)
		}
	}
}

func checkSet(t *testing.T, b impl.Bits, size int64, set map[int64]bool) {
	t.Helper()
	if !impl.BitsOk(b) || b.Size != size || impl.Count(b) != int64(len(set)) {
		t.Fatal(size, bitsText(b), len(set))
	}
	for i, flag := range b.Used {
		if flag != set[int64(i)+1] {
			t.Fatal(size, bitsText(b), "page", i+1)
		}
	}
}

func TestBitsOf(t *testing.T) {
	gaps := storeOf("3 9 12", "2 leaf a b c", "5 leaf d e", "9 kids 2 5")
	for _, c := range []struct {
		name string
		s    impl.Shadow
		size int64
		want string
	}{
		{"size 1", impl.ShadowNew(), 1, "x"},
		{"size 200", impl.ShadowNew(), 200, "x" + unused(199)},
		{"the last id is size", gaps, 9, ".x..x...x"},
		{"Next is size", gaps, 12, ".x..x...x..."},
		{"more than Next", gaps, 14, ".x..x...x....."},
		{"ids from 1 on", storeOf("2 1 4", "1 kids 2 3", "2 leaf a b", "3 leaf c d"), 3, "xxx"},
		{"id 200", storeOf("2 200 201", "200 leaf a"), 200, unused(199) + "x"},
		{"on both sides of 64", storeOf("3 64 200", "63 leaf a b c", "64 kids 63 65", "65 leaf d e"), 66, unused(62) + "xxx."},
	} {
		if b, ok := impl.BitsOf(c.s, c.size); !ok || !sameBits(b, bitsFrom(c.want)) {
			t.Error(c.name, bitsText(b), ok)
		}
	}
	for _, size := range []int64{8, 5, 2, 1, 0, -1, -9, 201, 256, 1 << 32, 1<<32 + 9, math.MaxInt64, math.MinInt64} {
		if b, ok := impl.BitsOf(gaps, size); ok || !sameBits(b, impl.Bits{}) {
			t.Error(size, b, ok)
		}
	}
	if b, ok := impl.BitsOf(storeOf("2 201 202", "201 leaf a"), 200); ok {
		t.Error("id 201", b)
	}
}

// TestJustThePagesOfAStoreAreUsed looks at each page of each store with each
// size.
func TestJustThePagesOfAStoreAreUsed(t *testing.T) {
	for name, s := range rightShadows() {
		have, greatest := map[int64]bool{}, int64(0)
		for _, p := range s.Pages {
			have[p.Id] = true
			greatest = max(greatest, p.Id)
		}
		for size := int64(-2); size <= 203; size++ {
			b, ok := impl.BitsOf(s, size)
			if ok != (size >= 1 && size <= 200 && greatest <= size) {
				t.Fatal(name, size, ok)
			}
			if ok {
				checkSet(t, b, size, have)
			} else if !sameBits(b, impl.Bits{}) {
				t.Fatal(name, size, b)
			}
		}
	}
}

func TestBitsOfStoresThatAreNotRight(t *testing.T) {
	for name, s := range wrongShadows() {
		for _, size := range []int64{-1, 0, 1, 5, 199, 200, 201} {
			if b, ok := impl.BitsOf(s, size); ok || !sameBits(b, impl.Bits{}) {
				t.Error(name, size, b, ok)
			}
		}
	}
}

func TestPacked(t *testing.T) {
	for _, c := range []struct {
		name string
		s    impl.Shadow
		want impl.Shadow
	}{
		{"new", impl.ShadowNew(), storeOf("2 1 2", "1 leaf")},
		{"one page", storeOf("7 5 9", "5 leaf a b c"), storeOf("8 1 2", "1 leaf a b c")},
		{"ids with gaps", storeOf("3 9 12", "2 leaf a b c", "5 leaf d e", "9 kids 2 5"), storeOf("4 1 4", "1 kids 2 3", "2 leaf a b c", "3 leaf d e")},
		{"kids by falling ids", storeOf("3 3 12", "3 kids 9 5 4", "4 leaf e f g", "5 leaf c d", "9 leaf a b"),
			storeOf("4 1 5", "1 kids 2 3 4", "2 leaf a b", "3 leaf c d", "4 leaf e f g")},
		{"packed already", storeOf("4 1 4", "1 kids 2 3", "2 leaf a b c", "3 leaf d e"), storeOf("5 1 4", "1 kids 2 3", "2 leaf a b c", "3 leaf d e")},
		{"Next far off", storeOf("3 3 1000000", "3 kids 4 5", "4 leaf a b c", "5 leaf d e"), storeOf("4 1 4", "1 kids 2 3", "2 leaf a b c", "3 leaf d e")},
		{"ids far off", storeOf("3 999998 1000000", "7 leaf d e", "999998 kids 999999 7", "999999 leaf a b c"), storeOf("4 1 4", "1 kids 2 3", "2 leaf a b c", "3 leaf d e")},
		{"three levels", storeOf("9 20 30", "3 leaf i j", "4 leaf a b", "6 kids 4 11", "8 leaf e f", "11 leaf c d", "14 leaf g h", "17 kids 8 14 3", "20 kids 6 17"),
			storeOf("10 1 9", "1 kids 2 5", "2 kids 3 4", "3 leaf a b", "4 leaf c d", "5 kids 6 7 8", "6 leaf e f", "7 leaf g h", "8 leaf i j")},
		{"three levels, level by level", storeOf("9 1 8", "1 kids 2 3", "2 kids 4 5", "3 kids 6 7", "4 leaf a b", "5 leaf c d", "6 leaf e f", "7 leaf g h"),
			storeOf("10 1 8", "1 kids 2 5", "2 kids 3 4", "3 leaf a b", "4 leaf c d", "5 kids 6 7", "6 leaf e f", "7 leaf g h")},
		{"Gen is one less than MaxId", storeOf("999999 2 5", "2 leaf a"), storeOf("1000000 1 2", "1 leaf a")},
	} {
		if p, ok := impl.Packed(c.s); !ok || shown(p) != shown(c.want) {
			t.Error(c.name, p, ok)
		}
	}
}

func TestWhatIsPackedHasTheSameTree(t *testing.T) {
	for name, s := range rightShadows() {
		p, ok := impl.Packed(s)
		if ok != (s.Super.Gen < 1000000) {
			t.Error(name, ok)
		}
		if !ok {
			if shown(p) != shown(impl.Shadow{}) {
				t.Error(name, p)
			}
			continue
		}
		checkPacked(t, name, s, p)
		again, ok := impl.Packed(p)
		p.Super.Gen++
		if ok != (s.Super.Gen < 999999) || ok && shown(again) != shown(p) {
			t.Error(name, "packed twice:", again, ok)
		}
	}
}

func checkPacked(t *testing.T, name string, s impl.Shadow, p impl.Shadow) {
	t.Helper()
	n := int64(len(s.Pages))
	if p.Super != (impl.Super{Gen: s.Super.Gen + 1, Root: 1, Next: n + 1}) || storeProblem(p) != "" || !impl.ShadowOk(p) {
		t.Error(name, p, "is not right:", storeProblem(p))
	}
	if !sameTree(nodesOf(p), nodesOf(s)) {
		t.Error(name, p, "has not the tree of", s)
	}
	// The place of a page is that of its node.
	for place, node := range nodesOf(s) {
		want := impl.Page{Id: int64(place) + 1, Pairs: node.Pairs}
		for _, kid := range node.Kids {
			want.Kids = append(want.Kids, kid+1)
		}
		if shown(p.Pages[place]) != shown(want) {
			t.Error(name, "page", place, p.Pages[place], want)
		}
	}
	if b, ok := impl.BitsOf(p, n); !ok || impl.Count(b) != n {
		t.Error(name, "has other pages than the first ones:", b)
	}
}

// TestPackedOfStoresThatChange packs a store again and again between changes.
func TestPackedOfStoresThatChange(t *testing.T) {
	r := rand.New(rand.NewSource(13))
	s := impl.ShadowNew()
	tallest := int64(0)
	for i := range 600 {
		if n, _, _, ok := impl.ShadowApply(s, someWords(r, i/50%2 == 0)); ok {
			s = n
		}
		tallest = max(tallest, impl.Height(impl.ShadowTree(s)))
		p, ok := impl.Packed(s)
		if !ok {
			t.Fatal(i, s)
		}
		checkPacked(t, fmt.Sprint(i), s, p)
		if i%7 == 0 {
			s = p
		}
	}
	if tallest < 3 {
		t.Error("no store was higher than", tallest)
	}
}

func TestPackedOfStoresThatAreNotRight(t *testing.T) {
	for name, s := range wrongShadows() {
		if p, ok := impl.Packed(s); ok || shown(p) != shown(impl.Shadow{}) {
			t.Error(name, p, ok)
		}
	}
	for _, gen := range []int64{1000000, 1000001, math.MaxInt64} {
		if p, ok := impl.Packed(storeOf(fmt.Sprint(gen, " 2 5"), "2 leaf a")); ok || shown(p) != shown(impl.Shadow{}) {
			t.Error(gen, p, ok)
		}
	}
}
