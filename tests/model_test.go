package tests

import (
	"slices"
	"strings"

	"loop.example/g00573/impl"
)

// problemOf tells why t is not right; "" when it is right. It shares nothing
// with what it judges.
func problemOf(t []impl.Node) string {
	if len(t) < 1 || len(t) > 100 {
		return "too few or too many nodes"
	}
	var problems, keys []string
	depths := map[int]bool{}
	var look func(place int, depth int) int
	look = func(place int, depth int) int {
		n := t[place]
		has := len(n.Pairs) + len(n.Kids)
		switch {
		case len(n.Pairs) > 0 && len(n.Kids) > 0:
			problems = append(problems, "pairs and kids")
		case has > 4:
			problems = append(problems, "more than four")
		case place > 0 && has < 2, len(n.Kids) == 1:
			problems = append(problems, "less than two")
		}
		for _, p := range n.Pairs {
			keys = append(keys, p.Key)
			if !impl.KeyOk(p.Key) || !impl.KeyOk(p.Val) {
				problems = append(problems, "a wrong pair")
			}
		}
		if len(n.Kids) == 0 {
			depths[depth] = true
		}
		end := place + 1
		for _, kid := range n.Kids {
			if kid != int64(end) || end >= len(t) {
				problems = append(problems, "a kid out of place")
				return len(t)
			}
			end = look(end, depth+1)
		}
		return end
	}
	if look(0, 1) != len(t) {
		problems = append(problems, "nodes that are no kids")
	}
	if len(depths) > 1 {
		problems = append(problems, "unlike depths")
	}
	if !slices.IsSorted(keys) || len(slices.Compact(keys)) != len(keys) {
		problems = append(problems, "keys that do not rise")
	}
	return strings.Join(problems, ", ")
}

// model is a tree of values. It is changed by making it anew, and does on the
// way back what the document tells, word by word.
type model struct {
	pairs []impl.Pair
	kids  []model
}

func modelFrom(t []impl.Node, place int64) model {
	a := model{pairs: slices.Clone(t[place].Pairs)}
	for _, kid := range t[place].Kids {
		a.kids = append(a.kids, modelFrom(t, kid))
	}
	return a
}

func (a model) nodes() []impl.Node {
	t := []impl.Node{{Pairs: a.pairs}}
	for _, kid := range a.kids {
		shift := int64(len(t))
		t[0].Kids = append(t[0].Kids, shift)
		for _, n := range kid.nodes() {
			moved := impl.Node{Pairs: n.Pairs}
			for _, place := range n.Kids {
				moved.Kids = append(moved.Kids, place+shift)
			}
			t = append(t, moved)
		}
	}
	return t
}

func (a model) least() string {
	if len(a.kids) > 0 {
		return a.kids[0].least()
	}
	return a.pairs[0].Key
}

func (a model) has() int { return len(a.pairs) + len(a.kids) }

func (a model) way(k string) int {
	at := 0
	for i, kid := range a.kids {
		if kid.least() <= k {
			at = i
		}
	}
	return at
}

func (a model) withPair(p impl.Pair) model {
	halves := a.put(p)
	if len(halves) == 1 {
		return halves[0]
	}
	return model{kids: halves}
}

func (a model) put(p impl.Pair) []model {
	if len(a.kids) == 0 {
		var m []impl.Pair
		for _, old := range a.pairs {
			if old.Key != p.Key {
				m = append(m, old)
			}
		}
		m = append(m, p)
		slices.SortFunc(m, func(x impl.Pair, y impl.Pair) int { return strings.Compare(x.Key, y.Key) })
		if len(m) == 5 {
			return []model{{pairs: m[:3:3]}, {pairs: m[3:]}}
		}
		return []model{{pairs: m}}
	}
	at := a.way(p.Key)
	var kids []model
	for i, kid := range a.kids {
		if i == at {
			kids = append(kids, kid.put(p)...)
		} else {
			kids = append(kids, kid)
		}
	}
	if len(kids) == 5 {
		return []model{{kids: kids[:3:3]}, {kids: kids[3:]}}
	}
	return []model{{kids: kids}}
}

func (a model) withoutKey(k string) model {
	a = a.drop(k)
	if len(a.kids) == 1 {
		return a.kids[0]
	}
	return a
}

func (a model) drop(k string) model {
	if len(a.kids) == 0 {
		var left model
		for _, p := range a.pairs {
			if p.Key != k {
				left.pairs = append(left.pairs, p)
			}
		}
		return left
	}
	at := a.way(k)
	kids := slices.Clone(a.kids)
	kids[at] = kids[at].drop(k)
	if kids[at].has() >= 2 {
		return model{kids: kids}
	}
	last := len(kids) - 1
	switch {
	case at > 0 && kids[at-1].has() > 2:
		ahead := kids[at-1]
		if n := len(ahead.pairs); n > 0 {
			kids[at].pairs = append([]impl.Pair{ahead.pairs[n-1]}, kids[at].pairs...)
			kids[at-1] = model{pairs: ahead.pairs[: n-1 : n-1]}
		} else {
			n := len(ahead.kids)
			kids[at].kids = append([]model{ahead.kids[n-1]}, kids[at].kids...)
			kids[at-1] = model{kids: ahead.kids[: n-1 : n-1]}
		}
	case at < last && kids[at+1].has() > 2:
		behind := kids[at+1]
		if len(behind.pairs) > 0 {
			kids[at].pairs = append(kids[at].pairs, behind.pairs[0])
			kids[at+1] = model{pairs: behind.pairs[1:]}
		} else {
			kids[at].kids = append(kids[at].kids, behind.kids[0])
			kids[at+1] = model{kids: behind.kids[1:]}
		}
	case at > 0:
		kids = append(append(slices.Clone(kids[:at-1]), oneOf(kids[at-1], kids[at])), kids[at+1:]...)
	default:
		kids = append([]model{oneOf(kids[0], kids[1])}, kids[2:]...)
	}
	return model{kids: kids}
}

func oneOf(a model, b model) model {
	return model{pairs: slices.Concat(a.pairs, b.pairs), kids: slices.Concat(a.kids, b.kids)}
}
