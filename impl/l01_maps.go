package impl

import (
	"cmp"
	"slices"
	"strings"
)

const (
	MaxKey   = 6
	MaxPairs = 60
)

type Pair struct {
	Key string
	Val string
}

// keyed is what can stand in a sorted list.
type keyed[K cmp.Ordered] interface {
	sortKey() K
}

// sorted is a list by rising keys. A list that one of its methods gives is
// new memory, so that an answer may be made of it.
type sorted[K cmp.Ordered, E keyed[K]] []E

type pairList = sorted[string, Pair]

func (p Pair) sortKey() string { return p.Key }

func (l sorted[K, E]) rises() bool {
	for i := 1; i < len(l); i++ {
		if l[i-1].sortKey() >= l[i].sortKey() {
			return false
		}
	}
	return true
}

// place is how many keys are ahead of k, and whether k is the next one.
func (l sorted[K, E]) place(k K) (int, bool) {
	return slices.BinarySearchFunc(l, k, func(e E, k K) int {
		return cmp.Compare(e.sortKey(), k)
	})
}

func (l sorted[K, E]) with(e E) sorted[K, E] {
	i, there := l.place(e.sortKey())
	rest := l[i:]
	if there {
		rest = rest[1:]
	}
	return slices.Concat(l[:i], sorted[K, E]{e}, rest)
}

func (l sorted[K, E]) without(k K) (sorted[K, E], bool) {
	i, there := l.place(k)
	if !there {
		return nil, false
	}
	return slices.Concat(l[:i], l[i+1:]), true
}

func KeyOk(s string) bool {
	if len(s) < 1 || len(s) > MaxKey {
		return false
	}
	for i := range len(s) {
		if s[i] < 33 || s[i] > 126 || s[i] == '=' {
			return false
		}
	}
	return true
}

// pairsOk tells whether all pairs are right, by rising keys, however many there
// are: a tree has no limit but that of its nodes.
func pairsOk(m []Pair) bool {
	for _, p := range m {
		if !KeyOk(p.Key) || !KeyOk(p.Val) {
			return false
		}
	}
	return pairList(m).rises()
}

func valueIn(m []Pair, k string) (string, bool) {
	i, there := pairList(m).place(k)
	if !there {
		return "", false
	}
	return m[i].Val, true
}

func MapOk(m []Pair) bool {
	return len(m) <= MaxPairs && pairsOk(m)
}

func Get(m []Pair, k string) (string, bool) {
	if !MapOk(m) {
		return "", false
	}
	return valueIn(m, k)
}

func Put(m []Pair, k string, v string) ([]Pair, bool) {
	if !MapOk(m) || !KeyOk(k) || !KeyOk(v) {
		return nil, false
	}
	changed := pairList(m).with(Pair{Key: k, Val: v})
	if len(changed) > MaxPairs {
		return nil, false
	}
	return changed, true
}

func Drop(m []Pair, k string) ([]Pair, bool) {
	if !MapOk(m) {
		return nil, false
	}
	return pairList(m).without(k)
}

// within is Range of any pairs by rising keys, however many there are.
func within(m []Pair, low string, high string) []Pair {
	from, _ := pairList(m).place(low)
	to := len(m)
	if high != "" {
		to, _ = pairList(m).place(high)
	}
	// Nothing says that low is ahead of high.
	if to <= from {
		return nil
	}
	return slices.Clone(m[from:to])
}

func Range(m []Pair, low string, high string) []Pair {
	if !MapOk(m) {
		return nil
	}
	return within(m, low, high)
}

func pairText(p Pair) string { return p.Key + "=" + p.Val }

// pairFrom is the pair whose text word is. It need not be right: where there is
// no = its value is empty.
func pairFrom(word string) Pair {
	k, v, _ := strings.Cut(word, "=")
	return Pair{Key: k, Val: v}
}

func pairsText(m []Pair) string {
	words := make([]string, len(m))
	for i, p := range m {
		words[i] = pairText(p)
	}
	return strings.Join(words, " ")
}

func MapText(m []Pair) string {
	if !MapOk(m) {
		return ""
	}
	return pairsText(m)
}

func ReadMap(s string) ([]Pair, bool) {
	if s == "" {
		return nil, true
	}
	var m []Pair
	// One word more than a map may have is enough to refuse a long text.
	for _, word := range strings.SplitN(s, " ", MaxPairs+1) {
		m = append(m, pairFrom(word))
	}
	if !MapOk(m) {
		return nil, false
	}
	return m, true
}
