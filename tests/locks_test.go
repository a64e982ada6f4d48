package tests

import (
	"math"
	"math/rand"
	"slices"
	"strconv"
	"strings"
	"testing"

	"loop.example/g00573/impl"
)

var modeNames = []string{"0", "IS", "IX", "S", "X", "5"}

// holdsOf has a Hold for each word: "1.a.S" is of 1 and the key a, "1..IX" is of
// the table.
func holdsOf(words string) []impl.Hold {
	var l []impl.Hold
	for _, w := range strings.Fields(words) {
		parts := strings.Split(w, ".")
		txn, _ := strconv.ParseInt(parts[0], 10, 64)
		mode := slices.Index(modeNames, parts[2])
		l = append(l, impl.Hold{Txn: txn, Key: parts[1], Mode: int64(mode)})
	}
	return l
}

func locksOf(held string, line string) impl.Locks {
	return impl.Locks{Held: holdsOf(held), Line: holdsOf(line)}
}

// manyHeld has n locks of the modes S and IS, of as many transactions, from 1
// on, that all have one key.
func manyHeld(n int) []impl.Hold {
	var l []impl.Hold
	for i := range int64(n) {
		l = append(l, impl.Hold{Txn: 1 + i, Key: "a", Mode: impl.LkIS + i%2*(impl.LkS-impl.LkIS)})
	}
	return l
}

// manyWaiting has n that wait for the key a in the mode X, from 501 on.
func manyWaiting(n int) []impl.Hold {
	var l []impl.Hold
	for i := range int64(n) {
		l = append(l, impl.Hold{Txn: 501 + i, Key: "a", Mode: impl.LkX})
	}
	return l
}

func rightLocks() map[string]impl.Locks {
	return map[string]impl.Locks{
		"none":                             {},
		"one":                              locksOf("1.a.X", ""),
		"one of the table":                 locksOf("1..X", ""),
		"txn 1000":                         locksOf("1000.a.X", "1000.a.S"),
		"a key of six":                     locksOf("1.aaaaaa.X", "2.bbbbbb.X"),
		"a key of the first and last byte": {Held: []impl.Hold{{Txn: 1, Key: "!~", Mode: impl.LkX}}},
		"two of one txn":                   locksOf("1.a.X 1.b.X 1..X", ""),
		"two that fit":                     locksOf("1.a.IS 2.a.IX 3.a.IX 4.a.IS", ""),
		"two that fit of the table":        locksOf("2..S 1..S 3..IS", ""),
		"two keys that need not fit":       locksOf("1.a.X 2.b.X 3..X", ""),
		"one that holds and waits":         locksOf("1.a.IS", "1.a.X"),
		"what waits need not fit":          locksOf("", "1.a.X 2.a.X 3.a.S"),
		"what waits holds more":            locksOf("1.a.X", "1.a.IS"),
		"two that wait for each other":     locksOf("1.a.X 2.b.X", "1.b.S 2.a.S"),
		"100 and 20":                       {Held: manyHeld(100), Line: manyWaiting(20)},
	}
}

func wrongLocks() map[string]impl.Locks {
	return map[string]impl.Locks{
		"101 held":                       {Held: manyHeld(101)},
		"21 in the line":                 {Line: manyWaiting(21)},
		"txn 0 held":                     locksOf("1.a.S 0.b.S", ""),
		"txn 0 in the line":              locksOf("", "1.a.S 0.a.S"),
		"txn 1001 held":                  locksOf("1001.a.S", ""),
		"txn 1001 in the line":           locksOf("", "1001.a.S"),
		"txn below 0":                    locksOf("-1.a.S", ""),
		"the greatest txn":               {Line: []impl.Hold{{Txn: math.MaxInt64, Key: "a", Mode: impl.LkS}}},
		"a key of seven held":            locksOf("1.aaaaaaa.S", ""),
		"a key of seven in the line":     locksOf("", "1.aaaaaaa.S"),
		"a key with =":                   locksOf("1.a=.S", ""),
		"a key with a blank":             {Line: []impl.Hold{{Txn: 1, Key: "a b", Mode: impl.LkS}}},
		"a key with a great byte":        {Held: []impl.Hold{{Txn: 1, Key: "\x7f", Mode: impl.LkS}}},
		"mode 0 held":                    locksOf("1.a.0", ""),
		"mode 0 in the line":             locksOf("", "1.a.0"),
		"mode 5 held":                    locksOf("2.b.S 1.a.5", ""),
		"mode 5 in the line":             locksOf("", "2.b.S 1.a.5"),
		"one key twice, one mode":        locksOf("1.a.S 2.a.S 1.a.S", ""),
		"one key twice, two modes":       locksOf("1.a.IS 1.a.S", ""),
		"the table twice":                locksOf("1..IS 1.a.IS 1..IX", ""),
		"S and IX":                       locksOf("1.a.S 2.a.IX", ""),
		"IX and S of the table":          locksOf("1..IX 2.a.S 3..S", ""),
		"X and IS":                       locksOf("1.a.X 2.a.IS", ""),
		"IS and X":                       locksOf("1.a.IS 2.a.X", ""),
		"X and X":                        locksOf("1.a.X 2.a.X", ""),
		"the first and the last":         locksOf("1.a.S 2.a.IS 3.b.X 4.a.IX", ""),
		"twice in the line":              locksOf("", "1.a.S 2.a.S 1.a.S"),
		"twice in the line for two keys": locksOf("", "1.a.S 1.b.S"),
		"twice in the line of the table": locksOf("1.a.S", "1..S 1.a.X"),
		"all zero held":                  {Held: make([]impl.Hold, 1)},
		"all zero in the line":           {Line: make([]impl.Hold, 1)},
	}
}

func TestModes(t *testing.T) {
	modes := []int64{0, impl.LkIS, impl.LkIX, impl.LkS, impl.LkX, 5}
	fit := []string{
		"no no  no  no  no no",
		"no yes yes yes no no",
		"no yes yes no  no no",
		"no yes no  yes no no",
		"no no  no  no  no no",
		"no no  no  no  no no",
	}
	both := []string{
		"0 0  0  0 0 0",
		"0 IS IX S X 0",
		"0 IX IX X X 0",
		"0 S  X  S X 0",
		"0 X  X  X X 0",
		"0 0  0  0 0 0",
	}
	for i, a := range modes {
		for k, b := range modes {
			if got, want := impl.Fit(a, b), strings.Fields(fit[i])[k] == "yes"; got != want {
				t.Error("Fit", modeNames[i], modeNames[k], got)
			}
			if got, want := impl.Both(a, b), strings.Fields(both[i])[k]; modeNames[got] != want {
				t.Error("Both", modeNames[i], modeNames[k], got)
			}
		}
	}
	if impl.LkIS != 1 || impl.LkIX != 2 || impl.LkS != 3 || impl.LkX != 4 {
		t.Error("the modes have other numbers")
	}
	if impl.LkGot != 1 || impl.LkWait != 2 || impl.LkDead != 3 || impl.LkForm != 4 {
		t.Error("the answers have other numbers")
	}
}

func TestModesThatAreNone(t *testing.T) {
	for _, none := range []int64{-1, 0, 5, 6, 1 << 32, 1<<32 + 1, math.MaxInt64, math.MinInt64} {
		for mode := int64(impl.LkIS); mode <= impl.LkX; mode++ {
			if impl.Fit(none, mode) || impl.Fit(mode, none) || impl.Both(none, mode) != 0 || impl.Both(mode, none) != 0 {
				t.Error(none, mode)
			}
		}
		if impl.Fit(none, none) || impl.Both(none, none) != 0 {
			t.Error(none)
		}
	}
}

// TestBothKeepsOutAllThatOneKeepsOut is what Both is for: no less and no more.
func TestBothKeepsOutAllThatOneKeepsOut(t *testing.T) {
	for a := int64(impl.LkIS); a <= impl.LkX; a++ {
		for b := int64(impl.LkIS); b <= impl.LkX; b++ {
			both := impl.Both(a, b)
			for c := int64(impl.LkIS); c <= impl.LkX; c++ {
				if impl.Fit(both, c) && !(impl.Fit(a, c) && impl.Fit(b, c)) {
					t.Error(a, b, both, c)
				}
			}
			if both != impl.Both(b, a) || impl.Both(both, a) != both || both != leastMode(a, b) {
				t.Error(a, b, both)
			}
		}
	}
}

func TestLocksOk(t *testing.T) {
	for name, l := range rightLocks() {
		if !impl.LocksOk(l) {
			t.Error(name)
		}
	}
	for name, l := range wrongLocks() {
		if impl.LocksOk(l) {
			t.Error(name)
		}
	}
}

func TestLocksThatAreNotRight(t *testing.T) {
	for name, l := range wrongLocks() {
		for _, txn := range []int64{0, 1, 2, 900} {
			x := impl.Hold{Txn: txn, Key: "free", Mode: impl.LkS}
			if n, code := impl.Ask(l, x); code != impl.LkForm || shown(n) != shown(impl.Locks{}) {
				t.Error("Ask", name, x, n, code)
			}
			if n, woken := impl.Free(l, txn); len(woken) != 0 || shown(n) != shown(impl.Locks{}) {
				t.Error("Free", name, txn, n, woken)
			}
		}
		if e := impl.WaitsFor(l); len(e) != 0 {
			t.Error("WaitsFor", name, e)
		}
	}
}

func TestAsk(t *testing.T) {
	const got, wait, dead = impl.LkGot, impl.LkWait, impl.LkDead
	for _, c := range []struct {
		name       string
		held, line string
		ask        string
		code       int64
		heldThen   string
		lineThen   string
	}{
		{"nothing is held", "", "", "1.a.S", got, "1.a.S", ""},
		{"the greatest txn", "", "", "1000.a.X", got, "1000.a.X", ""},
		{"behind all", "2.b.X 3.a.IS", "", "1.a.IX", got, "2.b.X 3.a.IS 1.a.IX", ""},
		{"the table is no key", "1..X", "", "2.a.X", got, "1..X 2.a.X", ""},
		{"a key is not the table", "1.a.X", "", "2..X", got, "1.a.X 2..X", ""},
		{"the table, in modes that fit", "1..IX", "", "2..IX", got, "1..IX 2..IX", ""},
		{"the table, in modes that do not", "1..IX", "", "2..S", wait, "1..IX", "2..S"},
		{"the first one does not fit", "1.a.IX 2.a.IS", "", "3.a.S", wait, "1.a.IX 2.a.IS", "3.a.S"},
		{"the last one does not fit", "2.a.IS 1.a.IX", "", "3.a.S", wait, "2.a.IS 1.a.IX", "3.a.S"},

		{"held already, the same mode", "2.a.S 1.a.S", "", "1.a.S", got, "2.a.S 1.a.S", ""},
		{"held already, X", "1.a.X", "", "1.a.X", got, "1.a.X", ""},
		{"held already, a lesser mode", "1.a.IX 2.a.IX", "", "1.a.IS", got, "1.a.IX 2.a.IX", ""},
		{"held already, a lesser mode, S", "1.a.S 2.a.S", "", "1.a.IS", got, "1.a.S 2.a.S", ""},
		{"held already, a lesser mode, X", "1.a.X 2.b.S", "", "1.a.IX", got, "1.a.X 2.b.S", ""},
		{"held already, and others stand in the line", "1.a.S 2.a.S", "3.a.X", "1.a.S", got, "1.a.S 2.a.S", "3.a.X"},
		{"held already, a lesser mode, and others stand", "1.a.S", "3.a.X 4.a.S", "1.a.IS", got, "1.a.S", "3.a.X 4.a.S"},

		{"a greater mode, alone, in its place", "1.a.IS 2.b.X", "", "1.a.X", got, "1.a.X 2.b.X", ""},
		{"S and then IX, alone", "2.b.X 1.a.S", "", "1.a.IX", got, "2.b.X 1.a.X", ""},
		{"IX and then S, alone", "1.a.IX", "", "1.a.S", got, "1.a.X", ""},
		{"a greater mode of another key", "1.a.IS 1.b.IS 1..IS", "", "1.b.X", got, "1.a.IS 1.b.X 1..IS", ""},
		{"a greater mode of the table", "1.a.IS 1..IS 2..IX", "", "1..IX", got, "1.a.IS 1..IX 2..IX", ""},
		{"a greater mode that fits the others", "2.a.IS 1.a.IS 3.a.S", "", "1.a.S", got, "2.a.IS 1.a.S 3.a.S", ""},
		{"a greater mode that does not fit", "1.a.S 2.a.S", "", "1.a.X", wait, "1.a.S 2.a.S", "1.a.X"},
		{"a greater mode that does not fit one", "2.a.IX 1.a.IS 3.a.IS", "", "1.a.S", wait, "2.a.IX 1.a.IS 3.a.IS", "1.a.S"},
		{"what is wanted is both, S and IX", "1.a.S 2.a.IS", "", "1.a.IX", wait, "1.a.S 2.a.IS", "1.a.X"},
		{"what is wanted is both, IX and S", "2.a.IS 1.a.IX", "", "1.a.S", wait, "2.a.IS 1.a.IX", "1.a.X"},
		{"what another one holds is not wanted", "2.a.S 1.b.IX", "", "1.a.IS", got, "2.a.S 1.b.IX 1.a.IS", ""},

		{"it holds one, others stand, it fits", "1.a.IS 2.a.IS", "3.a.X", "1.a.S", got, "1.a.S 2.a.IS", "3.a.X"},
		{"it holds one, others stand, it does not", "1.a.IS 2.a.IX", "3.a.X", "1.a.S", wait, "1.a.IS 2.a.IX", "3.a.X 1.a.S"},
		{"it holds none, and what it wants fits", "1.a.S", "2.a.X", "3.a.S", wait, "1.a.S", "2.a.X 3.a.S"},
		{"it holds none, and none is held", "", "2.a.IS", "3.a.IS", wait, "", "2.a.IS 3.a.IS"},
		{"it holds another key", "3.b.IS", "2.a.IS", "3.a.IS", wait, "3.b.IS", "2.a.IS 3.a.IS"},
		{"it holds none, others stand for another key", "1.a.S", "2.b.X 4..X", "3.a.S", got, "1.a.S 3.a.S", "2.b.X 4..X"},
		{"others stand for the table alone", "", "4..X", "3.a.S", got, "3.a.S", "4..X"},
		{"it stands last", "1.a.X", "5.a.S 2.b.S", "3.a.S", wait, "1.a.X", "5.a.S 2.b.S 3.a.S"},

		{"two in a ring, by two keys", "1.a.X 2.b.X", "1.b.S", "2.a.S", dead, "1.a.X 2.b.X", "1.b.S"},
		{"two in a ring, by the table and a key", "1..IX 2.b.X", "1.b.S", "2..S", dead, "1..IX 2.b.X", "1.b.S"},
		{"two in a ring, by one key", "1.a.S 2.a.S", "1.a.X", "2.a.X", dead, "1.a.S 2.a.S", "1.a.X"},
		{"two in a ring, by what both are", "1.a.S 2.a.S", "1.a.X", "2.a.IX", dead, "1.a.S 2.a.S", "1.a.X"},
		{"three in a ring, by three keys", "1.a.X 2.b.X 3.c.X", "1.b.S 2.c.S", "3.a.S", dead, "1.a.X 2.b.X 3.c.X", "1.b.S 2.c.S"},
		{"four in a ring", "1.a.X 2.b.X 3.c.X 4.d.X", "3.d.S 1.b.S 2.c.S", "4.a.IS", dead, "1.a.X 2.b.X 3.c.X 4.d.X", "3.d.S 1.b.S 2.c.S"},
		{"three in a ring, by whom it stands behind", "1.a.X 2.c.S", "2.a.S 3.c.X", "1.c.S", dead, "1.a.X 2.c.S", "2.a.S 3.c.X"},
		{"three in a ring, by whom another one stands behind", "1.k.S 2.b.X", "3.k.X 2.k.S", "1.b.S", dead, "1.k.S 2.b.X", "3.k.X 2.k.S"},
		{"no ring: it does not stand behind", "1.a.IS 2.a.IX", "3.a.X 2.b.S", "1.a.S", wait, "1.a.IS 2.a.IX", "3.a.X 2.b.S 1.a.S"},
		{"no ring: who waits for it holds nothing", "1.a.X 2.b.X", "3.a.S", "1.b.S", wait, "1.a.X 2.b.X", "3.a.S 1.b.S"},
		{"no ring: the key is another one", "1.a.X 2.b.X 3.c.X", "1.b.S", "2.c.S", wait, "1.a.X 2.b.X 3.c.X", "1.b.S 2.c.S"},
		{"a ring of others", "1.a.X 2.b.X", "1.b.X 2.a.X", "4.a.S", wait, "1.a.X 2.b.X", "1.b.X 2.a.X 4.a.S"},
		{"got, when one that it holds is waited for", "1.a.X", "2.a.X", "1.b.X", got, "1.a.X 1.b.X", "2.a.X"},
	} {
		checkAsk(t, c.name, locksOf(c.held, c.line), holdsOf(c.ask)[0], locksOf(c.heldThen, c.lineThen), c.code)
	}
}

func checkAsk(t *testing.T, name string, l impl.Locks, x impl.Hold, want impl.Locks, code int64) {
	t.Helper()
	n, c := impl.Ask(l, x)
	if c != code || shown(n) != shown(want) {
		t.Error(name, "answers", n, c)
	}
}

func TestAskOfWhatIsNotRight(t *testing.T) {
	l := locksOf("1.a.S 2.b.X", "3.b.S")
	for _, x := range []impl.Hold{
		{Txn: 0, Key: "c", Mode: impl.LkS},
		{Txn: -1, Key: "c", Mode: impl.LkS},
		{Txn: 1001, Key: "c", Mode: impl.LkS},
		{Txn: math.MaxInt64, Key: "c", Mode: impl.LkS},
		{Txn: math.MinInt64, Key: "c", Mode: impl.LkS},
		{Txn: 4, Key: "1234567", Mode: impl.LkS},
		{Txn: 4, Key: "c=", Mode: impl.LkS},
		{Txn: 4, Key: " ", Mode: impl.LkS},
		{Txn: 4, Key: "\x80", Mode: impl.LkS},
		{Txn: 4, Key: "c", Mode: 0},
		{Txn: 4, Key: "c", Mode: 5},
		{Txn: 4, Key: "c", Mode: -1},
		{Txn: 1, Key: "a", Mode: 0},
		{Txn: 1, Key: "a", Mode: 5},
		{},
	} {
		checkAsk(t, "not right", l, x, impl.Locks{}, impl.LkForm)
	}
	for _, x := range holdsOf("3.b.S 3.b.X 3.c.S 3..IS") {
		checkAsk(t, "it stands in the line", l, x, impl.Locks{}, impl.LkForm)
	}
	checkAsk(t, "it stands in the line, and holds that", locksOf("1.a.X 2.b.X", "1.b.S"), holdsOf("1.a.S")[0], impl.Locks{}, impl.LkForm)
	checkAsk(t, "it stands in the line, and would be in a ring", locksOf("1.a.X 2.b.X", "1.b.S 2.c.S"), holdsOf("2.a.S")[0], impl.Locks{}, impl.LkForm)
}

func TestAskAtTheLimits(t *testing.T) {
	free := impl.Hold{Txn: 900, Key: "free", Mode: impl.LkX}
	for _, n := range []int{98, 99} {
		l := impl.Locks{Held: manyHeld(n), Line: manyWaiting(19)}
		checkAsk(t, "below 100", l, free, impl.Locks{Held: append(manyHeld(n), free), Line: manyWaiting(19)}, impl.LkGot)
		checkAsk(t, "below 100, held already", l, l.Held[3], l, impl.LkGot)
	}
	for _, n := range []int{18, 19} {
		waits := impl.Hold{Txn: 900, Key: "a", Mode: impl.LkX}
		l := impl.Locks{Held: manyHeld(99), Line: manyWaiting(n)}
		checkAsk(t, "below 20", l, waits, impl.Locks{Held: manyHeld(99), Line: append(manyWaiting(n), waits)}, impl.LkWait)
	}
	full := impl.Locks{Held: manyHeld(100)}
	checkAsk(t, "100 held", full, free, impl.Locks{}, impl.LkForm)
	checkAsk(t, "100 held, and that already", full, full.Held[3], impl.Locks{}, impl.LkForm)
	checkAsk(t, "100 held, and it would wait", full, holdsOf("900.a.X")[0], impl.Locks{}, impl.LkForm)
	long := impl.Locks{Held: manyHeld(4), Line: manyWaiting(20)}
	checkAsk(t, "20 in the line", long, free, impl.Locks{}, impl.LkForm)
	checkAsk(t, "20 in the line, and it is held already", long, long.Held[3], impl.Locks{}, impl.LkForm)
	checkAsk(t, "20 in the line, and it would wait", long, holdsOf("900.a.X")[0], impl.Locks{}, impl.LkForm)
}

func TestFree(t *testing.T) {
	for _, c := range []struct {
		name       string
		held, line string
		txn        int64
		heldThen   string
		lineThen   string
		woken      []int64
	}{
		{"nothing", "", "", 1, "", "", nil},
		{"one that has nothing", "1.a.S 2.b.X", "3.a.X 1.b.S", 4, "1.a.S 2.b.X", "3.a.X 1.b.S", nil},
		{"none", "1.a.S", "3.a.X", 0, "1.a.S", "3.a.X", nil},
		{"below none", "1.a.S", "3.a.X", -1, "1.a.S", "3.a.X", nil},
		{"1001", "1.a.S", "3.a.X", 1001, "1.a.S", "3.a.X", nil},
		{"the greatest number", "1.a.S", "3.a.X", math.MaxInt64, "1.a.S", "3.a.X", nil},
		{"all of it", "1.a.S 2.a.S 1..IS 3.b.X 1.c.X", "", 1, "2.a.S 3.b.X", "", nil},
		{"one that holds and waits", "1.a.X 1.b.S 2.c.X", "1.c.S 3.a.S 4.c.S", 1, "2.c.X 3.a.S", "4.c.S", []int64{3}},
		{"one that waits for what it holds", "1.a.IS 2.a.IX", "1.a.S 3.a.X", 1, "2.a.IX", "3.a.X", nil},
		{"one that only waits", "1.a.S", "3.a.X 4.a.S 5.a.IS", 3, "1.a.S 4.a.S 5.a.IS", "", []int64{4, 5}},
		{"not all that hold it are gone", "1.a.S 2.a.S", "3.a.X 4.a.S", 1, "2.a.S", "3.a.X 4.a.S", nil},

		{"the first one goes first", "1.a.X", "2.a.S 3.a.X 4.a.S", 1, "2.a.S", "3.a.X 4.a.S", []int64{2}},
		{"the first one has all", "1.a.X", "4.a.X 2.a.S 3.a.S", 1, "4.a.X", "2.a.S 3.a.S", []int64{4}},
		{"more than one", "1.a.X", "5.a.S 3.a.IS 4.a.X 2.a.S", 1, "5.a.S 3.a.IS", "4.a.X 2.a.S", []int64{5, 3}},
		{"more than one key", "1.b.X 1.a.X 1..X", "9.a.S 2.b.S 7..S", 1, "9.a.S 2.b.S 7..S", "", []int64{9, 2, 7}},
		{"two keys by turns", "1.a.X 1.b.X", "2.b.X 3.a.S 4.b.S 5.a.S 6.b.IS", 1, "2.b.X 3.a.S 5.a.S", "4.b.S 6.b.IS", []int64{2, 3, 5}},
		{"whoever stands ahead for the key counts", "1.a.S 9.b.X", "2.a.X 3.a.S 4.b.S", 9, "1.a.S 4.b.S", "2.a.X 3.a.S", []int64{4}},
		{"whoever stands ahead for another key does not", "1.a.X 9.b.X", "2.a.X 3.b.S", 9, "1.a.X 3.b.S", "2.a.X", []int64{3}},
		{"whoever stands behind does not", "1.a.X 9.b.X", "3.b.S 2.b.X", 9, "1.a.X 3.b.S", "2.b.X", []int64{3}},
		{"the table is no key", "1..X 2.a.X", "3.a.S 4..S", 1, "2.a.X 4..S", "3.a.S", []int64{4}},

		{"it holds less than it wants", "1.a.S 2.a.S 3.b.X", "1.a.X", 2, "1.a.X 3.b.X", "", []int64{1}},
		{"it has it in its place", "3.b.X 1.c.S 2.a.S 1.a.S 1.d.S", "4.b.S 1.a.X", 2, "3.b.X 1.c.S 1.a.X 1.d.S", "4.b.S", []int64{1}},
		{"it does not stand behind", "1.a.IS 2.a.S", "3.a.X 1.a.IX", 2, "1.a.IX", "3.a.X", []int64{1}},
		{"it still does not fit", "1.a.S 2.a.S 3.a.S", "1.a.X", 2, "1.a.S 3.a.S", "1.a.X", nil},
		{"it goes, and then one behind the line", "1.a.IS 2.a.S 2.b.X", "3.a.X 1.a.IX 4.b.S", 2, "1.a.IX 4.b.S", "3.a.X", []int64{1, 4}},
		{"it goes, and keeps the next ones out", "1.a.S 2.a.S 5.a.IS", "1.a.X 3.a.S", 2, "1.a.S 5.a.IS", "1.a.X 3.a.S", nil},
		{"two that hold less", "1.a.IS 3.a.IS 2.a.S", "3.a.IX 1.a.IX", 2, "1.a.IX 3.a.IX", "", []int64{3, 1}},

		// These are right, but no Ask comes to them.
		{"nobody keeps it out", "", "2.a.S 3.a.S", 9, "2.a.S 3.a.S", "", []int64{2, 3}},
		{"as it stands in the line", "1.a.IX 2.b.X", "1.a.S", 2, "1.a.S", "", []int64{1}},
		{"again from the head on", "1.a.X", "2.a.S 3.b.S 1.a.S", 9, "1.a.S 3.b.S 2.a.S", "", []int64{3, 1, 2}},
	} {
		n, woken := impl.Free(locksOf(c.held, c.line), c.txn)
		if shown(n) != shown(locksOf(c.heldThen, c.lineThen)) || !slices.Equal(woken, c.woken) {
			t.Error(c.name, "answers", n, woken)
		}
	}
}

func TestFreeOfMany(t *testing.T) {
	l := impl.Locks{Held: manyHeld(100), Line: manyWaiting(20)}
	for txn := int64(1); txn < 100; txn++ {
		n, woken := impl.Free(l, txn)
		if len(n.Held) != 100-int(txn) || len(n.Line) != 20 || len(woken) != 0 {
			t.Fatal(txn, n, woken)
		}
		l = n
	}
	for txn := int64(100); txn > 0; {
		n, woken := impl.Free(l, txn)
		if len(n.Held) != 1 || n.Held[0] != l.Line[0] || len(woken) != 1 || woken[0] != l.Line[0].Txn {
			t.Fatal(txn, n, woken)
		}
		l, txn = n, woken[0]
		if len(l.Line) == 0 {
			break
		}
	}
}

// TestFreeDoesNotAskHowManyAreHeld holds to the words of Free, which ask for no
// limit: whoever fits is held, though there are more than 100 then.
func TestFreeDoesNotAskHowManyAreHeld(t *testing.T) {
	l := locksOf("900.b.X", "901.b.S 902.b.IS 903.b.S")
	l.Held = append(l.Held, manyHeld(98)...)
	n, woken := impl.Free(l, 900)
	if !slices.Equal(woken, []int64{901, 902, 903}) || len(n.Held) != 101 || len(n.Line) != 0 || impl.LocksOk(n) {
		t.Error(n, woken)
	}
}

func TestWaitsFor(t *testing.T) {
	for _, c := range []struct {
		name       string
		held, line string
		want       string
	}{
		{"nothing", "", "", ""},
		{"nobody in the line", "1.a.X 2.b.X", "", ""},
		{"whoever holds what does not fit", "1.a.S 2.a.IS 3.a.S", "4.a.IX", "4>1 4>3"},
		{"of that key alone", "1.a.X 2.b.X 3..X", "4.b.S", "4>2"},
		{"of the table", "1.a.X 2..IX 3..IX", "4..S", "4>2 4>3"},
		{"by A and then by B", "30.a.S 4.a.S 100.a.S", "9.a.X 10.a.X 2.b.X", "9>4 9>30 9>100 10>4 10>9 10>30 10>100"},
		{"by A, however they stand", "1.a.X", "7.a.S 5.b.S 3.a.S", "3>1 3>7 7>1"},
		{"none twice", "2.a.S 3.a.S", "2.a.X 1.a.X", "1>2 1>3 2>3"},
		{"whoever stands ahead, whatever the mode", "1.a.S", "2.a.X 3.a.S 4.a.IS", "2>1 3>2 4>2 4>3"},
		{"whoever stands ahead, all that fit", "1.a.X", "2.a.IS 3.a.IS", "2>1 3>1 3>2"},
		{"whoever stands ahead for that key alone", "1.a.X", "2.b.X 3.a.S 5..S", "3>1"},
		{"whoever stands ahead, not whoever stands behind", "", "5.a.X 2.a.X", "2>5"},
		{"it holds less: none ahead", "1.a.IS 2.a.IX", "3.a.X 1.a.S", "1>2 3>1 3>2"},
		{"it holds another key: those ahead", "1.b.IS 2.a.IX", "3.a.X 1.a.S", "1>2 1>3 3>2"},
		{"nobody waits for itself", "1.a.S", "1.a.X", ""},
		{"nor beside others", "1.a.S 2.a.S", "1.a.X", "1>2"},
		{"two that wait for each other", "1.a.X 2.b.X", "1.b.S 2.a.S", "1>2 2>1"},
		{"what fits and stands first waits for none", "1.a.S", "2.a.S", ""},
		{"as it stands in the line", "1.a.IX 2.a.IS", "1.a.S", ""},
		{"as it stands, though it holds more", "1.a.IX 2.a.IX", "1.a.IS", ""},
	} {
		if got := edgesText(impl.WaitsFor(locksOf(c.held, c.line))); got != c.want {
			t.Error(c.name, "answers", got)
		}
	}
}

func edgesText(edges []impl.Edge) string {
	var words []string
	for _, e := range edges {
		words = append(words, strconv.FormatInt(e.A, 10)+">"+strconv.FormatInt(e.B, 10))
	}
	return strings.Join(words, " ")
}

// TestLocksWithoutEnd asks for what gives the most edges.
func TestLocksWithoutEnd(t *testing.T) {
	l := impl.Locks{Held: manyHeld(99), Line: manyWaiting(19)}
	if n := len(impl.WaitsFor(l)); n != 19*99+19*18/2 {
		t.Error(n)
	}
	for txn := int64(1); txn <= 99; txn++ {
		// Whoever holds the key is waited for by all in the line.
		if n, code := impl.Ask(l, impl.Hold{Txn: txn, Key: "a", Mode: impl.LkX}); code != impl.LkWait || len(n.Line) != 20 {
			t.Fatal(txn, code)
		}
	}
}

// fitting has the modes that each one fits.
var fitting = map[int64][]int64{1: {1, 2, 3}, 2: {1, 2}, 3: {1, 3}, 4: {}}

// leastMode is the first mode that fits nothing that a or b does not fit.
func leastMode(a int64, b int64) int64 {
	for mode := int64(1); mode < 4; mode++ {
		if !slices.ContainsFunc(fitting[mode], func(c int64) bool {
			return !slices.Contains(fitting[a], c) || !slices.Contains(fitting[b], c)
		}) {
			return mode
		}
	}
	return 4
}

// lockModel is locks by key and transaction, a second way to work out what
// chapter 5 says.
type lockModel struct {
	order []impl.Hold
	modes map[string]map[int64]int64
	line  []impl.Hold
}

func lockModelOf(l impl.Locks) *lockModel {
	m := &lockModel{order: slices.Clone(l.Held), modes: map[string]map[int64]int64{}, line: slices.Clone(l.Line)}
	for _, h := range l.Held {
		if m.modes[h.Key] == nil {
			m.modes[h.Key] = map[int64]int64{}
		}
		m.modes[h.Key][h.Txn] = h.Mode
	}
	return m
}

// against has all that hold the key of x so that x does not fit.
func (m *lockModel) against(x impl.Hold) map[int64]bool {
	found := map[int64]bool{}
	for txn, mode := range m.modes[x.Key] {
		if txn != x.Txn && !slices.Contains(fitting[mode], x.Mode) {
			found[txn] = true
		}
	}
	return found
}

// awaited has, for each that stands in the line, all for whom it waits.
func (m *lockModel) awaited() map[int64]map[int64]bool {
	all := map[int64]map[int64]bool{}
	for i, x := range m.line {
		of := m.against(x)
		if _, holds := m.modes[x.Key][x.Txn]; !holds {
			for k := range i {
				if m.line[k].Key == x.Key {
					of[m.line[k].Txn] = true
				}
			}
		}
		all[x.Txn] = of
	}
	return all
}

// inRing tells whether from leads to itself.
func inRing(awaited map[int64]map[int64]bool, from int64) bool {
	seen := map[int64]bool{}
	var leads func(txn int64) bool
	leads = func(txn int64) bool {
		for next := range awaited[txn] {
			if next == from {
				return true
			}
			if !seen[next] {
				seen[next] = true
				if leads(next) {
					return true
				}
			}
		}
		return false
	}
	return leads(from)
}

func (m *lockModel) may(x impl.Hold, ahead []impl.Hold) bool {
	if len(m.against(x)) > 0 {
		return false
	}
	if _, holds := m.modes[x.Key][x.Txn]; holds {
		return true
	}
	for _, y := range ahead {
		if y.Key == x.Key {
			return false
		}
	}
	return true
}

func (m *lockModel) take(x impl.Hold) {
	for i, h := range m.order {
		if h.Txn == x.Txn && h.Key == x.Key {
			m.order[i] = x
			*m = *lockModelOf(m.locks())
			return
		}
	}
	m.order = append(m.order, x)
	*m = *lockModelOf(m.locks())
}

func (m *lockModel) locks() impl.Locks { return impl.Locks{Held: m.order, Line: m.line} }

func (m *lockModel) ask(x impl.Hold) int64 {
	if mode, holds := m.modes[x.Key][x.Txn]; holds {
		x.Mode = leastMode(mode, x.Mode)
	}
	if m.may(x, m.line) {
		m.take(x)
		return impl.LkGot
	}
	m.line = append(m.line, x)
	if inRing(m.awaited(), x.Txn) {
		m.line = m.line[:len(m.line)-1]
		return impl.LkDead
	}
	return impl.LkWait
}

func (m *lockModel) free(txn int64) []int64 {
	var left impl.Locks
	for _, h := range m.order {
		if h.Txn != txn {
			left.Held = append(left.Held, h)
		}
	}
	for _, x := range m.line {
		if x.Txn != txn {
			left.Line = append(left.Line, x)
		}
	}
	*m = *lockModelOf(left)
	var woken []int64
	for i := 0; i < len(m.line); i++ {
		if x := m.line[i]; m.may(x, m.line[:i]) {
			m.line = append(slices.Clone(m.line[:i]), m.line[i+1:]...)
			m.take(x)
			woken = append(woken, x.Txn)
			i = -1
		}
	}
	return woken
}

func (m *lockModel) edges() []impl.Edge {
	var l []impl.Edge
	for a, of := range m.awaited() {
		for b := range of {
			l = append(l, impl.Edge{A: a, B: b})
		}
	}
	slices.SortFunc(l, func(x impl.Edge, y impl.Edge) int {
		if x.A != y.A {
			return int(x.A - y.A)
		}
		return int(x.B - y.B)
	})
	return l
}

func someHold(r *rand.Rand) impl.Hold {
	return impl.Hold{Txn: 1 + r.Int63n(5), Key: []string{"", "a", "b"}[r.Intn(3)], Mode: 1 + r.Int63n(4)}
}

// anyLocks are right, but need not be what some Ask and Free lead to.
func anyLocks(r *rand.Rand) impl.Locks {
	var l impl.Locks
	for range r.Intn(9) {
		x := someHold(r)
		m := lockModelOf(l)
		if _, holds := m.modes[x.Key][x.Txn]; !holds && len(m.against(x)) == 0 {
			l.Held = append(l.Held, x)
		}
	}
	for range r.Intn(5) {
		x := someHold(r)
		if !slices.ContainsFunc(l.Line, func(y impl.Hold) bool { return y.Txn == x.Txn }) {
			l.Line = append(l.Line, x)
		}
	}
	return l
}

// TestLocksAgainstTheModel goes through locks of every kind.
func TestLocksAgainstTheModel(t *testing.T) {
	r := rand.New(rand.NewSource(5))
	for range 40000 {
		l := anyLocks(r)
		if !impl.LocksOk(l) {
			t.Fatal(l, "is right")
		}
		if got, want := impl.WaitsFor(l), lockModelOf(l).edges(); !slices.Equal(got, want) {
			t.Fatal("WaitsFor", l, got, want)
		}
		m, txn := lockModelOf(l), r.Int63n(7)
		woken := m.free(txn)
		if n, got := impl.Free(l, txn); shown(n) != shown(m.locks()) || !slices.Equal(got, woken) {
			t.Fatal("Free", l, txn, n, got)
		}
		x := someHold(r)
		want, code := impl.Locks{}, int64(impl.LkForm)
		if !slices.ContainsFunc(l.Line, func(y impl.Hold) bool { return y.Txn == x.Txn }) {
			m := lockModelOf(l)
			code = m.ask(x)
			want = m.locks()
		}
		checkAsk(t, "by the model", l, x, want, code)
		if t.Failed() {
			t.Fatal(l, x, want, code)
		}
	}
}

// TestLocksOfAnyHolds puts together locks that may be wrong in one way or more.
func TestLocksOfAnyHolds(t *testing.T) {
	r := rand.New(rand.NewSource(6))
	right := 0
	for range 40000 {
		var l impl.Locks
		for range r.Intn(4) {
			l.Held = append(l.Held, someHold(r))
		}
		for range r.Intn(4) {
			l.Line = append(l.Line, someHold(r))
		}
		want := true
		m := lockModelOf(l)
		for i, x := range l.Held {
			want = want && len(m.against(x)) == 0
			want = want && !slices.ContainsFunc(l.Held[:i], func(h impl.Hold) bool { return h.Key == x.Key && h.Txn == x.Txn })
		}
		for i, x := range l.Line {
			want = want && !slices.ContainsFunc(l.Line[:i], func(y impl.Hold) bool { return y.Txn == x.Txn })
		}
		if impl.LocksOk(l) != want {
			t.Fatal(l, want)
		}
		if want {
			right++
		}
	}
	if right < 1000 || right > 39000 {
		t.Error(right)
	}
}

// TestPromise5 begins with no locks, and asks and frees as it comes.
func TestPromise5(t *testing.T) {
	r := rand.New(rand.NewSource(55))
	told := map[int64]int{}
	for range 300 {
		var l impl.Locks
		for range 60 {
			if r.Intn(5) == 0 {
				txn := 1 + r.Int63n(5)
				n, woken := impl.Free(l, txn)
				checkFreed(t, l, n, txn, woken)
				told[0] += len(woken)
				l = n
				continue
			}
			x := someHold(r)
			n, code := impl.Ask(l, x)
			told[code]++
			if code == impl.LkForm {
				continue
			}
			if code == impl.LkDead && shown(n) != shown(l) {
				t.Fatal(l, x, n)
			}
			checkLocks(t, n)
			l = n
		}
	}
	for _, code := range []int64{0, impl.LkGot, impl.LkWait, impl.LkDead, impl.LkForm} {
		if told[code] < 100 {
			t.Error(code, "was told", told[code], "times")
		}
	}
}

// checkLocks looks at what holds of all locks that Ask and Free come to.
func checkLocks(t *testing.T, l impl.Locks) {
	t.Helper()
	if !impl.LocksOk(l) {
		t.Fatal(l, "is not right")
	}
	for i, x := range l.Held {
		for _, y := range l.Held[:i] {
			if x.Key == y.Key && !(impl.Fit(x.Mode, y.Mode) && impl.Fit(y.Mode, x.Mode)) {
				t.Fatal(l, x, y)
			}
		}
	}
	awaited := map[int64]map[int64]bool{}
	for _, e := range impl.WaitsFor(l) {
		if awaited[e.A] == nil {
			awaited[e.A] = map[int64]bool{}
		}
		awaited[e.A][e.B] = true
	}
	for _, x := range l.Line {
		if inRing(awaited, x.Txn) {
			t.Fatal(l, x.Txn, "waits for itself")
		}
		if len(awaited[x.Txn]) == 0 {
			t.Fatal(l, x.Txn, "waits for nobody")
		}
	}
}

func checkFreed(t *testing.T, before impl.Locks, l impl.Locks, txn int64, woken []int64) {
	t.Helper()
	checkLocks(t, l)
	for _, x := range slices.Concat(l.Held, l.Line) {
		if x.Txn == txn {
			t.Fatal(before, txn, "still has", x)
		}
	}
	for _, w := range woken {
		i := slices.IndexFunc(before.Line, func(x impl.Hold) bool { return x.Txn == w })
		if i < 0 || !slices.Contains(l.Held, before.Line[i]) || slices.ContainsFunc(l.Line, func(x impl.Hold) bool { return x.Txn == w }) {
			t.Fatal(before, txn, w, l)
		}
	}
}
