package tests

import (
	"fmt"
	"hash/crc32"
	"math"
	"math/rand"
	"regexp"
	"slices"
	"strconv"
	"strings"
	"testing"

	"loop.example/g00573/impl"
)

// summed is s with its sum, which another one works out, behind it.
func summed(s string) string {
	return fmt.Sprintf("%s %d", s, crc32.ChecksumIEEE([]byte(s)))
}

func page(id int64, kids ...int64) impl.Page { return impl.Page{Id: id, Kids: kids} }

func leaf(id int64, words ...string) impl.Page {
	return impl.Page{Id: id, Pairs: pairsOf(words...)}
}

// rightPages are pages by what their texts are, but for the sums.
func rightPages() map[string]impl.Page {
	return map[string]impl.Page{
		"page 1 leaf":                         leaf(1),
		"page 1000000 leaf":                   leaf(1000000),
		"page 7 leaf a=va":                    leaf(7, "a"),
		"page 10 leaf a=1 b=2":                leaf(10, "a:1", "b:2"),
		"page 7 leaf a=1 b=2 c=3":             leaf(7, "a:1", "b:2", "c:3"),
		"page 7 leaf a=1 b=2 c=3 d=4":         leaf(7, "a:1", "b:2", "c:3", "d:4"),
		"page 7 leaf !=~ abcdef=ABCDEF":       leaf(7, "!:~", "abcdef:ABCDEF"),
		"page 7 leaf 7=leaf kids=7":           leaf(7, "7:leaf", "kids:7"),
		"page 7 kids 8 9":                     page(7, 8, 9),
		"page 7 kids 9 8":                     page(7, 9, 8),
		"page 7 kids 1 1000000 3":             page(7, 1, 1000000, 3),
		"page 1 kids 5 4 3 2":                 page(1, 5, 4, 3, 2),
		"page 1000000 kids 1 999999":          page(1000000, 1, 999999),
		"page 123456 kids 70 700 7000 700000": page(123456, 70, 700, 7000, 700000),
	}
}

func wrongPages() map[string]impl.Page {
	w := map[string]impl.Page{
		"id 0":                  leaf(0, "a"),
		"id -1":                 leaf(-1, "a"),
		"id 1000001":            leaf(1000001, "a"),
		"the greatest id":       leaf(math.MaxInt64, "a"),
		"the least id":          leaf(math.MinInt64, "a"),
		"id 0 with kids":        page(0, 1, 2),
		"id 1000001 with kids":  page(1000001, 1, 2),
		"nothing at all":        {},
		"five pairs":            leaf(7, "a", "b", "c", "d", "e"),
		"keys fall":             leaf(7, "b", "a"),
		"the last key falls":    leaf(7, "a", "c", "b"),
		"keys alike":            leaf(7, "a:1", "a:2"),
		"a wrong key":           leaf(7, "a", "toolong:1"),
		"an empty key":          leaf(7, ":1"),
		"a wrong value":         leaf(7, "a:toolong"),
		"an empty value":        leaf(7, "a:"),
		"one kid":               page(7, 8),
		"five kids":             page(7, 1, 2, 3, 4, 5),
		"kids alike":            page(7, 8, 8),
		"kids alike, far":       page(7, 8, 9, 8),
		"the last kids alike":   page(7, 6, 8, 9, 9),
		"its own kid":           page(7, 7, 8),
		"its own last kid":      page(7, 8, 9, 7),
		"a kid 0":               page(7, 0, 8),
		"a kid -1":              page(7, 8, -1),
		"a kid 1000001":         page(7, 8, 1000001),
		"the greatest kid":      page(7, 8, math.MaxInt64),
		"the least kid":         page(7, math.MinInt64, 8),
		"pairs and kids":        page(7, 8, 9),
		"pairs and one kid":     page(7, 8),
		"four pairs, four kids": page(7, 1, 2, 3, 4),
	}
	for name := range w {
		if strings.Contains(name, "pairs") && strings.Contains(name, "kid") {
			p := w[name]
			p.Pairs = pairsOf("a", "b", "c", "d")
			w[name] = p
		}
	}
	return w
}

func rightSupers() []impl.Super {
	return []impl.Super{
		{Gen: 1, Root: 1, Next: 2},
		{Gen: 3, Root: 5, Next: 9},
		{Gen: 1000000, Root: 1, Next: 2},
		{Gen: 1, Root: 1, Next: 1000000},
		{Gen: 1, Root: 999999, Next: 1000000},
		{Gen: 1, Root: 2, Next: 3},
		{Gen: 1000000, Root: 999999, Next: 1000000},
		{Gen: 10, Root: 10, Next: 100},
	}
}

func wrongSupers() []impl.Super {
	return []impl.Super{
		{},
		{Gen: 0, Root: 1, Next: 2},
		{Gen: -1, Root: 1, Next: 2},
		{Gen: 1000001, Root: 1, Next: 2},
		{Gen: 1, Root: 0, Next: 2},
		{Gen: 1, Root: -1, Next: 2},
		{Gen: 1, Root: 2, Next: 2},
		{Gen: 1, Root: 3, Next: 2},
		{Gen: 1, Root: 0, Next: 1},
		{Gen: 1, Root: 1, Next: 1},
		{Gen: 1, Root: 0, Next: 0},
		{Gen: 1, Root: -2, Next: -1},
		{Gen: 1, Root: 1, Next: 1000001},
		{Gen: 1, Root: 1000000, Next: 1000001},
		{Gen: math.MaxInt64, Root: 1, Next: 2},
		{Gen: 1, Root: math.MinInt64, Next: 2},
		{Gen: 1, Root: 1, Next: math.MaxInt64},
	}
}

func TestSums(t *testing.T) {
	for s, want := range map[string]int64{"": 0, "a": 0xe8b7be43, "abc": 0x352441c2, "123456789": 0xcbf43926, "\x00": 0xd202ef8d, "\xff": 0xff000000} {
		if got := impl.SumOf(s); got != want {
			t.Errorf("%q: %x, not %x", s, got, want)
		}
	}
	r := rand.New(rand.NewSource(1))
	for _, n := range []int{1, 2, 3, 4, 5, 8, 100, 255, 256, 257, 1000, 9999, 10000} {
		for range 5 {
			s := make([]byte, n)
			r.Read(s)
			if got, want := impl.SumOf(string(s)), int64(crc32.ChecksumIEEE(s)); got != want {
				t.Errorf("%d bytes: %x, not %x", n, got, want)
			}
		}
	}
	for c := range 256 {
		s := []byte{'x', byte(c)}
		if got, want := impl.SumOf(string(s)), int64(crc32.ChecksumIEEE(s)); got != want {
			t.Errorf("byte %d: %x, not %x", c, got, want)
		}
	}
	if impl.MaxId != 1000000 {
		t.Error("limits", impl.MaxId)
	}
}

func TestSumsOfLongTexts(t *testing.T) {
	for n, summable := range map[int]bool{9999: true, 10000: true, 10001: false, 10002: false, 20000: false, 1000000: false} {
		got := impl.SumOf(strings.Repeat("x", n))
		if want := int64(crc32.ChecksumIEEE([]byte(strings.Repeat("x", n)))); summable && got != want || !summable && got != -1 {
			t.Error(n, "bytes:", got)
		}
	}
}

// turned is s with one bit turned.
func turned(s string, bit int) string {
	b := []byte(s)
	b[bit/8] ^= 1 << (bit % 8)
	return string(b)
}

func TestOneBitTurnedHasAnotherSum(t *testing.T) {
	r := rand.New(rand.NewSource(2))
	long := make([]byte, 300)
	r.Read(long)
	texts := []string{"a", "\x00", "\xff\xff\xff\xff", "123456789", "super 3 5 9", string(long), strings.Repeat("\x00", 64)}
	for s := range rightPages() {
		texts = append(texts, s)
	}
	for _, s := range texts {
		sum := impl.SumOf(s)
		for bit := range 8 * len(s) {
			if x := impl.SumOf(turned(s, bit)); x == sum || x < 0 {
				t.Errorf("%q with bit %d turned: %x", s, bit, x)
			}
		}
	}
	full := strings.Repeat("0123456789", 1000)
	for bit := 0; bit < 80000; bit += 997 {
		if impl.SumOf(turned(full, bit)) == impl.SumOf(full) {
			t.Error("10000 bytes, bit", bit)
		}
	}
}

func TestOneBitTurnedIsNoPage(t *testing.T) {
	for s := range rightPages() {
		s = summed(s)
		for bit := range 8 * len(s) {
			if p, ok := impl.ReadPage(turned(s, bit)); ok {
				t.Errorf("%q with bit %d turned is %v", s, bit, p)
			}
		}
	}
	for _, x := range rightSupers() {
		s := impl.SuperText(x)
		for bit := range 8 * len(s) {
			if p, ok := impl.ReadSuper(turned(s, bit)); ok {
				t.Errorf("%q with bit %d turned is %v", s, bit, p)
			}
		}
	}
}

func TestRightPages(t *testing.T) {
	for s, p := range rightPages() {
		if !impl.PageOk(p) {
			t.Error(s, "is right")
		}
		if got := impl.PageText(p); got != summed(s) {
			t.Errorf("%v: %q, not %q", p, got, summed(s))
		}
		if got, ok := impl.ReadPage(summed(s)); !ok || shown(got) != shown(p) {
			t.Errorf("%q: %v %v, not %v", summed(s), got, ok, p)
		}
	}
	if p := (impl.Page{Id: 3, Pairs: []impl.Pair{}, Kids: []int64{}}); !impl.PageOk(p) || impl.PageText(p) != summed("page 3 leaf") {
		t.Error("empty lists are as nil")
	}
}

func TestWrongPages(t *testing.T) {
	for name, p := range wrongPages() {
		if impl.PageOk(p) {
			t.Error(name, p, "is not right")
		}
		if s := impl.PageText(p); s != "" {
			t.Error(name, p, s)
		}
		for _, kind := range []string{"leaf", "kids"} {
			if got, ok := impl.ReadPage(summed(wordsOf(p, kind))); ok || shown(got) != shown(impl.Page{}) {
				t.Errorf("%s: %q is %v", name, wordsOf(p, kind), got)
			}
		}
	}
}

// wordsOf writes all that a page has, be it right or not.
func wordsOf(p impl.Page, kind string) string {
	s := fmt.Sprint("page ", p.Id, " ", kind)
	for _, pair := range p.Pairs {
		s += " " + pair.Key + "=" + pair.Val
	}
	for _, kid := range p.Kids {
		s += fmt.Sprint(" ", kid)
	}
	return s
}

// TestTextsOfNoPage has texts with their right sums, so that it is the words
// that have to be looked at.
func TestTextsOfNoPage(t *testing.T) {
	for _, s := range []string{
		"", " ", "page", "page 7", "page leaf", "7 leaf", "leaf", "kids 8 9",
		"pages 7 leaf", "Page 7 leaf", "super 7 leaf", "page 7 leafs", "page 7 Leaf", "page 7 kid 8 9", "page 7 tree a=1", "page 7 a=1", "page 7 8 9", "page 7 leaf kids", "page 7 leaf leaf a=1",
		" page 7 leaf", "page  7 leaf", "page 7  leaf", "page 7 leaf ", "page 7 leaf  a=1", "page 7 leaf a=1 ", "page 7 leaf a=1  b=2", "page7 leaf", "page 7leaf", "page 7 leafa=1", "page 7 leaf a=1b=2",
		"page\t7 leaf", "page 7\nleaf", "page 7 leaf\n", "page 7 leaf a=1\tb=2",
		"page 07 leaf", "page 007 leaf", "page 00 leaf", "page 0 leaf", "page +7 leaf", "page -7 leaf", "page 7. leaf", "page 0x7 leaf", "page 7_0 leaf", "page ٧ leaf", "page  leaf", "page x leaf", "page a=1 leaf",
		"page 1000001 leaf", "page 9999999999 leaf", "page 10000000000 leaf", "page 18446744073709551623 leaf", "page 4294967303 leaf", "page 00000000007 leaf",
		"page 7 leaf a", "page 7 leaf a=", "page 7 leaf =1", "page 7 leaf =", "page 7 leaf a=1=2", "page 7 leaf a==1", "page 7 leaf a:1", "page 7 leaf toolong=1", "page 7 leaf a=toolong", "page 7 leaf a=\x7f", "page 7 leaf \x1f=1",
		"page 7 leaf b=1 a=2", "page 7 leaf a=1 a=1", "page 7 leaf a=1 a=2", "page 7 leaf a=1 b=2 c=3 d=4 e=5", "page 7 leaf a=1 8 9",
		"page 7 kids", "page 7 kids ", "page 7 kids 8", "page 7 kids 8 8", "page 7 kids 7 8", "page 7 kids 8 7", "page 7 kids 1 2 3 4 5", "page 7 kids 0 8", "page 7 kids 8 0", "page 7 kids 8 1000001", "page 7 kids 08 9", "page 7 kids 8 09", "page 7 kids 8 9 ", "page 7 kids 8  9", "page 7 kids 8 a=1", "page 7 kids a=1 b=2", "page 7 kids 8 -9", "page 7 kids 8 +9", "page 7 kids 8 10000000009", "page 7 kids 8 18446744073709551625", "page 7 kids 8,9", "page 7 kids 8 9 kids", "page 7 kids 8 9 leaf", "page 7 leaf kids 8 9",
		"page 7 leaf a=1" + strings.Repeat(" ", 990), "page 7 leaf " + strings.Repeat("a=1 ", 300) + "b=1", strings.Repeat("page 7 leaf ", 200),
	} {
		if p, ok := impl.ReadPage(summed(s)); ok || shown(p) != shown(impl.Page{}) {
			t.Errorf("%.80q: %v %v", s, p, ok)
		}
		if p, ok := impl.ReadPage(s); ok || shown(p) != shown(impl.Page{}) {
			t.Errorf("%.80q without its sum: %v %v", s, p, ok)
		}
	}
}

// TestSumsInTexts has right words, with wrong sums and with right ones that are
// written otherwise.
func TestSumsInTexts(t *testing.T) {
	for s, p := range rightPages() {
		sum := crc32.ChecksumIEEE([]byte(s))
		for _, end := range wrongEnds(s, sum) {
			if p, ok := impl.ReadPage(s + end); ok || shown(p) != shown(impl.Page{}) {
				t.Errorf("%q: %v", s+end, p)
			}
		}
		if got, ok := impl.ReadPage(s + " " + fmt.Sprint(sum)); !ok || shown(got) != shown(p) {
			t.Errorf("%q: %v %v", s, got, ok)
		}
	}
	for _, x := range rightSupers() {
		s := fmt.Sprintf("super %d %d %d", x.Gen, x.Root, x.Next)
		for _, end := range wrongEnds(s, crc32.ChecksumIEEE([]byte(s))) {
			if got, ok := impl.ReadSuper(s + end); ok || got != (impl.Super{}) {
				t.Errorf("%q: %v", s+end, got)
			}
		}
	}
}

// wrongEnds are what may not stand behind s instead of its sum.
func wrongEnds(s string, sum uint32) []string {
	return []string{
		"", " ", fmt.Sprint(sum), fmt.Sprint("  ", sum), fmt.Sprint(" ", sum, " "), fmt.Sprint(" ", sum, "\n"), fmt.Sprint("\t", sum),
		fmt.Sprint(" ", sum+1), fmt.Sprint(" ", sum-1), " 0", " -1", fmt.Sprint(" ", int32(sum^1)), fmt.Sprint(" 0", sum), fmt.Sprint(" +", sum),
		fmt.Sprint(" ", sum, "0"), fmt.Sprint(" ", sum, " 0"), fmt.Sprint(" ", sum, " ", sum), fmt.Sprint(" ", int64(sum)+1<<32), fmt.Sprintf(" %011d", sum), fmt.Sprintf(" %x", sum), fmt.Sprintf(" %d.", sum),
		fmt.Sprint(" ", crc32.ChecksumIEEE([]byte(s+" "))), fmt.Sprint("  ", crc32.ChecksumIEEE([]byte(s+" "))), fmt.Sprint(" 1", sum),
		strings.TrimSuffix(fmt.Sprint(" ", sum), fmt.Sprint(sum%10)),
	}
}

var pageForm = regexp.MustCompile(`^page ([1-9][0-9]*) (?:leaf((?: [^ =]+=[^ =]+)*)|kids((?: [1-9][0-9]*)+))$`)

// pageOf is the page of which s, without a sum, is the text. It shares nothing
// with what it judges but PageOk.
func pageOf(s string) (impl.Page, bool) {
	found := pageForm.FindStringSubmatch(s)
	if found == nil {
		return impl.Page{}, false
	}
	var p impl.Page
	p.Id, _ = strconv.ParseInt(found[1], 10, 64)
	// Each word has a blank ahead of it; where there is none, there is one part.
	for _, w := range strings.Split(found[2], " ")[1:] {
		pair := strings.Split(w, "=")
		p.Pairs = append(p.Pairs, impl.Pair{Key: pair[0], Val: pair[1]})
	}
	for _, w := range strings.Split(found[3], " ")[1:] {
		kid, _ := strconv.ParseInt(w, 10, 64)
		p.Kids = append(p.Kids, kid)
	}
	if !impl.PageOk(p) {
		return impl.Page{}, false
	}
	return p, true
}

// edits are all texts that s becomes by one byte less, more or another one.
func edits(s string) []string {
	var l []string
	for i := range len(s) + 1 {
		for _, c := range "\x00\t\n\r !+,-./0123456789:=aefgiklmpsx~\x7f\u00ff" {
			l = append(l, s[:i]+string(c)+s[i:])
			if i < len(s) {
				l = append(l, s[:i]+string(c)+s[i+1:])
			}
		}
		if i < len(s) {
			l = append(l, s[:i]+s[i+1:])
		}
	}
	return l
}

func TestPagesEditedByteByByte(t *testing.T) {
	read := 0
	for s := range rightPages() {
		whole := summed(s)
		for _, x := range edits(whole) {
			if p, ok := impl.ReadPage(x); ok && x != whole {
				t.Errorf("%q, made of %q, is %v", x, whole, p)
			}
		}
		for _, x := range edits(s) {
			want, there := pageOf(x)
			got, ok := impl.ReadPage(summed(x))
			if ok != there || shown(got) != shown(want) {
				t.Errorf("%q: %v %v, not %v %v", x, got, ok, want, there)
			}
			if ok {
				read++
			}
			if ok && impl.PageText(got) != summed(x) {
				t.Errorf("%q is read, but not written", x)
			}
		}
	}
	if read < 1000 {
		t.Error("only", read, "were pages")
	}
}

// TestPagesComeBack makes pages of whatever numbers and keys come.
func TestPagesComeBack(t *testing.T) {
	r := rand.New(rand.NewSource(3))
	ids := []int64{0, 1, 2, 3, 7, 10, 999999, 1000000, 1000001}
	right := 0
	for range 20000 {
		p := impl.Page{Id: ids[r.Intn(len(ids))]}
		if r.Intn(3) > 0 {
			for range r.Intn(6) {
				p.Kids = append(p.Kids, ids[r.Intn(len(ids))])
			}
		}
		if len(p.Kids) == 0 || r.Intn(5) == 0 {
			for range r.Intn(6) {
				p.Pairs = append(p.Pairs, pairsOf(string([]byte{byte('a' + r.Intn(6) + 2*len(p.Pairs))}))...)
			}
		}
		back, ok := impl.ReadPage(impl.PageText(p))
		if want := pageIsRight(p); impl.PageOk(p) != want || ok != want || (impl.PageText(p) != "") != want {
			t.Fatal(p, impl.PageOk(p), ok, want)
		}
		if ok && shown(back) != shown(p) || !ok && shown(back) != shown(impl.Page{}) {
			t.Fatal(p, "comes back as", back)
		}
		if ok {
			right++
		}
	}
	if right < 2000 {
		t.Error("only", right, "were right")
	}
}

// pageIsRight counts what is in lists, where the program looks at neighbours.
func pageIsRight(p impl.Page) bool {
	in := func(id int64) bool { return id > 0 && id < 1000001 }
	kids, keys := map[int64]bool{p.Id: true}, []string{}
	for _, kid := range p.Kids {
		kids[kid] = true
		if !in(kid) {
			return false
		}
	}
	for _, pair := range p.Pairs {
		keys = append(keys, pair.Key)
	}
	rising := slices.Compact(slices.Sorted(slices.Values(keys)))
	if !in(p.Id) || len(kids) != len(p.Kids)+1 || !slices.Equal(rising, keys) {
		return false
	}
	switch len(p.Kids) {
	case 0:
		return len(p.Pairs) < 5
	case 2, 3, 4:
		return len(p.Pairs) == 0
	}
	return false
}

func TestRightSupers(t *testing.T) {
	for _, x := range rightSupers() {
		s := summed(fmt.Sprintf("super %d %d %d", x.Gen, x.Root, x.Next))
		if got := impl.SuperText(x); got != s {
			t.Errorf("%v: %q, not %q", x, got, s)
		}
		if got, ok := impl.ReadSuper(s); !ok || got != x {
			t.Errorf("%q: %v %v, not %v", s, got, ok, x)
		}
	}
}

func TestWrongSupers(t *testing.T) {
	for _, x := range wrongSupers() {
		if s := impl.SuperText(x); s != "" {
			t.Errorf("%v: %q", x, s)
		}
		if got, ok := impl.ReadSuper(summed(fmt.Sprintf("super %d %d %d", x.Gen, x.Root, x.Next))); ok || got != (impl.Super{}) {
			t.Errorf("the text of %v: %v", x, got)
		}
	}
}

func TestTextsOfNoSuper(t *testing.T) {
	for _, s := range []string{
		"", " ", "super", "super 3", "super 3 5", "super 3 5 9 10", "super 3 5 9 ", "super 3 5  9", " super 3 5 9", "super  3 5 9",
		"Super 3 5 9", "supers 3 5 9", "page 3 5 9", "3 5 9", "super3 5 9", "super 3,5,9", "super 3 5 9 a=1", "super 3\t5 9", "super 3 5 9\n",
		"super 03 5 9", "super 3 05 9", "super 3 5 09", "super +3 5 9", "super 3 -5 9", "super 3 5 9.", "super x 5 9", "super  5 9",
		"super 00000000003 5 9", "super 3 5 10000000000", "super 18446744073709551619 5 9", "super 3 18446744073709551621 9", "super 4294967299 5 9",
		"super 3 5 9" + strings.Repeat(" 9", 500),
	} {
		if x, ok := impl.ReadSuper(summed(s)); ok || x != (impl.Super{}) {
			t.Errorf("%.80q: %v %v", s, x, ok)
		}
		if x, ok := impl.ReadSuper(s); ok || x != (impl.Super{}) {
			t.Errorf("%.80q without its sum: %v %v", s, x, ok)
		}
	}
	for s := range rightPages() {
		if x, ok := impl.ReadSuper(summed(s)); ok {
			t.Error(s, x)
		}
	}
	for _, x := range rightSupers() {
		if p, ok := impl.ReadPage(impl.SuperText(x)); ok {
			t.Error(x, p)
		}
	}
}

var superForm = regexp.MustCompile(`^super ([1-9][0-9]{0,6}) ([1-9][0-9]{0,6}) ([1-9][0-9]{0,6})$`)

func TestSupersEditedByteByByte(t *testing.T) {
	for _, super := range rightSupers() {
		whole := impl.SuperText(super)
		for _, x := range edits(whole) {
			if got, ok := impl.ReadSuper(x); ok && x != whole {
				t.Errorf("%q, made of %q, is %v", x, whole, got)
			}
		}
		for _, x := range edits(whole[:strings.LastIndex(whole, " ")]) {
			got, ok := impl.ReadSuper(summed(x))
			found := superForm.FindStringSubmatch(x)
			want := found != nil
			var n [4]int
			for i := 1; want && i < 4; i++ {
				n[i], _ = strconv.Atoi(found[i])
			}
			want = want && n[1] <= 1000000 && n[2] < n[3] && n[3] <= 1000000
			if ok != want || ok && impl.SuperText(got) != summed(x) || !ok && got != (impl.Super{}) {
				t.Errorf("%q: %v %v", x, got, ok)
			}
		}
	}
}

// pageWithSum is a page whose text has that sum. To turn a bit of a text turns
// the same bits of its sum, whatever the other bits are: so it is worked out
// which low bits of the values have to be turned.
func pageWithSum(t *testing.T, sum uint32) impl.Page {
	t.Helper()
	p := leaf(7, "a:aaaaaa", "b:aaaaaa", "c:aaaaaa")
	plain := wordsOf(p, "leaf")
	type step struct {
		turns uint32
		bits  []int
	}
	var steps []step
	// Each step is the only one that has the lowest bit of what it turns.
	take := func(s step) step {
		for _, old := range steps {
			if s.turns&(old.turns&-old.turns) != 0 {
				s = step{s.turns ^ old.turns, append(slices.Clone(s.bits), old.bits...)}
			}
		}
		return s
	}
	for i := range plain {
		for bit := 8 * i; plain[i:i+1] == "a" && i > 12 && bit < 8*i+3; bit++ {
			s := take(step{crc32.ChecksumIEEE([]byte(turned(plain, bit))) ^ crc32.ChecksumIEEE([]byte(plain)), []int{bit}})
			if s.turns != 0 {
				steps = append(steps, s)
			}
		}
	}
	s := take(step{turns: sum ^ crc32.ChecksumIEEE([]byte(plain))})
	if s.turns != 0 {
		t.Fatal("no page has the sum", sum)
	}
	for _, bit := range s.bits {
		plain = turned(plain, bit)
	}
	p, ok := pageOf(plain)
	if !ok || crc32.ChecksumIEEE([]byte(plain)) != sum {
		t.Fatal(plain, sum)
	}
	return p
}

// TestSumsOfFewDigits has pages whose sums are numbers at which digits are read
// wrongly: 0 is the only one that may be begun with a nought.
func TestSumsOfFewDigits(t *testing.T) {
	for _, sum := range []uint32{0, 1, 9, 10, 99, 100, 1000000, 999999999, 1000000000, 1<<31 - 1, 1 << 31, math.MaxUint32} {
		p := pageWithSum(t, sum)
		s := wordsOf(p, "leaf")
		if got := impl.PageText(p); got != fmt.Sprint(s, " ", sum) {
			t.Errorf("%v: %q", p, got)
		}
		if got, ok := impl.ReadPage(fmt.Sprint(s, " ", sum)); !ok || shown(got) != shown(p) {
			t.Errorf("%q with the sum %d: %v", s, sum, got)
		}
		for _, end := range append(wrongEnds(s, sum), " 00", " -0", " ", " x", " 0x", " 1x", " a=0") {
			if got, ok := impl.ReadPage(s + end); ok && end != fmt.Sprint(" ", sum) {
				t.Errorf("%q with the sum %d: %v", s+end, sum, got)
			}
		}
	}
}
