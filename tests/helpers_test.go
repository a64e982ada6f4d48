package tests

import (
	"slices"
	"strconv"
	"strings"
	"testing"

	"loop.example/g00573/impl"
)

// pairsOf has a pair for each word: "a" is the key a with the value va, and
// "a:9" is the key a with the value 9.
func pairsOf(words ...string) []impl.Pair {
	var m []impl.Pair
	for _, w := range words {
		k, v, given := strings.Cut(w, ":")
		if !given {
			v = "v" + k
		}
		m = append(m, impl.Pair{Key: k, Val: v})
	}
	return m
}

// numbered has n pairs with the keys k10, k11 ..
func numbered(n int) []impl.Pair {
	var m []impl.Pair
	for i := range n {
		m = append(m, impl.Pair{Key: "k" + strconv.Itoa(10+i), Val: strconv.Itoa(i)})
	}
	return m
}

// treeFrom has a node for each pair of brackets in s, with the pairs (words as
// for pairsOf) or the kids that stand in it.
func treeFrom(s string) []impl.Node {
	var t []impl.Node
	tokens := strings.Fields(strings.NewReplacer("(", " ( ", ")", " ) ").Replace(s))
	var lay func() int64
	lay = func() int64 {
		place := len(t)
		t = append(t, impl.Node{})
		for tokens = tokens[1:]; tokens[0] != ")"; {
			if tokens[0] == "(" {
				kid := lay()
				t[place].Kids = append(t[place].Kids, kid)
				continue
			}
			t[place].Pairs = append(t[place].Pairs, pairsOf(tokens[0])...)
			tokens = tokens[1:]
		}
		tokens = tokens[1:]
		return int64(place)
	}
	lay()
	return t
}

func sameNode(a impl.Node, b impl.Node) bool {
	return slices.Equal(a.Pairs, b.Pairs) && slices.Equal(a.Kids, b.Kids)
}

func sameTree(a []impl.Node, b []impl.Node) bool {
	return slices.EqualFunc(a, b, sameNode)
}

func copyOf(t []impl.Node) []impl.Node {
	c := slices.Clone(t)
	for i, n := range t {
		c[i] = impl.Node{Pairs: slices.Clone(n.Pairs), Kids: slices.Clone(n.Kids)}
	}
	return c
}

func mustRead(t *testing.T, s string) []impl.Pair {
	t.Helper()
	m, ok := impl.ReadMap(s)
	if !ok {
		t.Fatalf("ReadMap(%q) is false", s)
	}
	return m
}
