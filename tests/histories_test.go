package tests

import (
	"math/rand"
	"runtime"
	"slices"
	"strconv"
	"strings"
	"sync"
	"testing"
	"testing/synctest"

	"loop.example/g00573/impl"
)

// turnsText has each turn with the words of its request: "2 put a 9 > ok".
func turnsText(l []impl.Turn) string {
	var all []string
	for _, x := range l {
		words := []string{strconv.FormatInt(x.Q.Txn, 10), kindNames[x.Q.Kind], x.Q.Key, x.Q.Val, ">", codeNames[x.T.Code], x.T.Val}
		words = slices.DeleteFunc(words, func(w string) bool { return w == "" })
		if x.T.Txn != x.Q.Txn || x.T.Kind != x.Q.Kind {
			words = append(words, "(of another one)")
		}
		all = append(all, strings.Join(words, " "))
	}
	return strings.Join(all, "; ")
}

func idsText(ids []int64) string {
	var words []string
	for _, id := range ids {
		words = append(words, strconv.FormatInt(id, 10))
	}
	return strings.Join(words, " ")
}

func TestHistory(t *testing.T) {
	for _, c := range []struct {
		name, pairs string
		asked       string
		told        string
		turns       string
		committed   string
		left        string
		alone       string
	}{
		{"nothing", "a:1", "", "", "", "", "a=1", ""},
		{"one", "a:1",
			"1 begin; 1 get a; 1 put a 2; 1 get b; 1 commit",
			"1 begin ok; 1 get ok 1; 1 put ok; 1 get none; 1 commit ok",
			"1 begin > ok; 1 get a > ok 1; 1 put a 2 > ok; 1 get b > none; 1 commit > ok", "1", "a=2",
			"1 begin > ok; 1 get a > ok 1; 1 put a 2 > ok; 1 get b > none; 1 commit > ok"},
		{"one that aborts", "a:1",
			"1 begin; 1 put a 2; 1 abort",
			"1 begin ok; 1 put ok; 1 abort ok",
			"1 begin > ok; 1 put a 2 > ok; 1 abort > ok", "", "a=1", ""},
		{"one that does not end", "a:1",
			"1 begin; 1 put a 2; 1 drop b",
			"1 begin ok; 1 put ok; 1 drop none",
			"1 begin > ok; 1 put a 2 > ok; 1 drop b > none", "", "a=1", ""},
		{"what is refused has no turn", "a:1",
			"1 get a; 1 begin; 1 begin; 1 get; 2 commit; 1 commit a; 1 commit; 1 commit",
			"1 get form; 1 begin ok; 1 begin form; 1 get form; 2 commit form; 1 commit form; 1 commit ok; 1 commit form",
			"1 begin > ok; 1 commit > ok", "1", "a=1",
			"1 begin > ok; 1 commit > ok"},
		{"nor has what is full", "",
			"1 begin; 2 begin; 3 begin; 4 begin; 5 begin; 6 begin; 7 begin; 6 commit; 7 commit; 7 begin; 7 commit",
			"1 begin ok; 2 begin ok; 3 begin ok; 4 begin ok; 5 begin ok; 6 begin ok; 7 begin full; 6 commit ok; 7 commit form; 7 begin ok; 7 commit ok",
			"1 begin > ok; 2 begin > ok; 3 begin > ok; 4 begin > ok; 5 begin > ok; 6 begin > ok; 6 commit > ok; 7 begin > ok; 7 commit > ok", "6 7", "",
			"6 begin > ok; 6 commit > ok; 7 begin > ok; 7 commit > ok"},
		{"what waited has a turn when it is done", "a:1",
			"1 begin; 2 begin; 1 put a 5; 2 get a; 2 commit; 1 get a; 1 commit; 2 put b 6; 2 commit",
			"1 begin ok; 2 begin ok; 1 put ok; 2 get wait; 2 commit form; 1 get ok 5; 1 commit ok; 2 get ok 5; 2 put ok; 2 commit ok",
			"1 begin > ok; 2 begin > ok; 1 put a 5 > ok; 1 get a > ok 5; 1 commit > ok; 2 get a > ok 5; 2 put b 6 > ok; 2 commit > ok", "1 2", "a=5 b=6",
			"1 begin > ok; 1 put a 5 > ok; 1 get a > ok 5; 1 commit > ok; 2 begin > ok; 2 get a > ok 5; 2 put b 6 > ok; 2 commit > ok"},
		{"what waits to the end has none", "a:1",
			"1 begin; 2 begin; 1 put a 5; 2 get a",
			"1 begin ok; 2 begin ok; 1 put ok; 2 get wait",
			"1 begin > ok; 2 begin > ok; 1 put a 5 > ok", "", "a=1", ""},
		{"in another order than they began", "a:1 b:2 c:3",
			"1 begin; 2 begin; 3 begin; 2 get a; 3 put c 7; 1 get b; 3 commit; 2 put b 6; 1 get c; 1 commit; 2 commit",
			"1 begin ok; 2 begin ok; 3 begin ok; 2 get ok 1; 3 put ok; 1 get ok 2; 3 commit ok; 2 put wait; 1 get ok 7; 1 commit ok; 2 put ok; 2 commit ok",
			"1 begin > ok; 2 begin > ok; 3 begin > ok; 2 get a > ok 1; 3 put c 7 > ok; 1 get b > ok 2; 3 commit > ok; 1 get c > ok 7; 1 commit > ok; 2 put b 6 > ok; 2 commit > ok",
			"3 1 2", "a=1 b=6 c=7",
			"3 begin > ok; 3 put c 7 > ok; 3 commit > ok; 1 begin > ok; 1 get b > ok 2; 1 get c > ok 7; 1 commit > ok; 2 begin > ok; 2 get a > ok 1; 2 put b 6 > ok; 2 commit > ok"},
		{"one is dead, and has no part in it", "a:1 b:2",
			"1 begin; 2 begin; 1 put a 5; 2 put b 6; 1 get b; 2 scan; 2 commit; 1 drop a; 1 commit",
			"1 begin ok; 2 begin ok; 1 put ok; 2 put ok; 1 get wait; 2 scan dead; 1 get ok 2; 2 commit form; 1 drop ok; 1 commit ok",
			"1 begin > ok; 2 begin > ok; 1 put a 5 > ok; 2 put b 6 > ok; 1 get b > ok 2; 1 drop a > ok; 1 commit > ok", "1", "b=2",
			"1 begin > ok; 1 put a 5 > ok; 1 get b > ok 2; 1 drop a > ok; 1 commit > ok"},
		{"one is woken twice, and has one turn", "a:1 b:2",
			"1 begin; 2 begin; 3 begin; 1 scan - b; 2 get a; 3 get b; 2 put b 8; 3 put a 9; 1 commit; 2 commit",
			"1 begin ok; 2 begin ok; 3 begin ok; 1 scan ok a=1; 2 get ok 1; 3 get ok 2; 2 put wait; 3 put wait; 1 commit ok; 2 put wait; 3 put dead; 2 put ok; 2 commit ok",
			"1 begin > ok; 2 begin > ok; 3 begin > ok; 1 scan b > ok a=1; 2 get a > ok 1; 3 get b > ok 2; 1 commit > ok; 2 put b 8 > ok; 2 commit > ok", "1 2", "a=1 b=8",
			"1 begin > ok; 1 scan b > ok a=1; 1 commit > ok; 2 begin > ok; 2 get a > ok 1; 2 put b 8 > ok; 2 commit > ok"},
		{"one after the other", "a:1",
			"5 begin; 5 put a 2; 5 commit; 7 begin; 7 get a; 7 drop a; 7 commit; 9 begin; 9 drop a; 9 scan; 9 abort; 10 begin; 10 scan; 10 put a 3; 10 commit",
			"5 begin ok; 5 put ok; 5 commit ok; 7 begin ok; 7 get ok 2; 7 drop ok; 7 commit ok; 9 begin ok; 9 drop none; 9 scan ok; 9 abort ok; 10 begin ok; 10 scan ok; 10 put ok; 10 commit ok",
			"5 begin > ok; 5 put a 2 > ok; 5 commit > ok; 7 begin > ok; 7 get a > ok 2; 7 drop a > ok; 7 commit > ok; 9 begin > ok; 9 drop a > none; 9 scan > ok; 9 abort > ok; 10 begin > ok; 10 scan > ok; 10 put a 3 > ok; 10 commit > ok",
			"5 7 10", "a=3",
			"5 begin > ok; 5 put a 2 > ok; 5 commit > ok; 7 begin > ok; 7 get a > ok 2; 7 drop a > ok; 7 commit > ok; 10 begin > ok; 10 scan > ok; 10 put a 3 > ok; 10 commit > ok"},
	} {
		m, l := pairsOf(strings.Fields(c.pairs)...), historyOf(c.asked)
		d, told := impl.PlayAll(m, l)
		if got := toldText(told); got != c.told || impl.MapText(d.Map) != c.left || !impl.DbOk(d) {
			t.Errorf("%s: PlayAll: %v\n%s", c.name, d, got)
		}
		if got := turnsText(impl.TurnsOf(m, l)); got != c.turns {
			t.Errorf("%s: TurnsOf:\n%s", c.name, got)
		}
		if got := idsText(impl.Committed(m, l)); got != c.committed {
			t.Errorf("%s: Committed: %s", c.name, got)
		}
		left, alone := impl.OneByOne(m, l)
		if got := turnsText(alone); got != c.alone || impl.MapText(left) != c.left {
			t.Errorf("%s: OneByOne: %v\n%s", c.name, left, got)
		}
	}
}

// historyOf has a request for each piece of words, between which a semicolon
// stands.
func historyOf(words string) []impl.Req {
	if words == "" {
		return nil
	}
	return reqsOf(strings.Split(words, ";")...)
}

func TestPlayAllGivesTheWholeDb(t *testing.T) {
	d, _ := impl.PlayAll(pairsOf("a:1"), historyOf("1 begin; 3 begin; 1 put a 5; 3 put b 6; 3 get a; 1 get c"))
	checkDb(t, "two that do not end", d, dbOf("a:1", "1..IX 1.a.X 3..IX 3.b.X 1.c.S", "3.a.S", "1 a:5; 3 b:6 ? get a", 3))
	d, _ = impl.PlayAll(pairsOf("a:1"), nil)
	checkDb(t, "nothing", d, dbOf("a:1", "", "", "", 0))
}

// beginsAnd has n requests: a begin, and gets of unlike keys.
func beginsAnd(n int) []impl.Req {
	l := reqsOf("1 begin")
	for len(l) < n {
		l = append(l, reqOf("1 get h"+strconv.Itoa(len(l))))
	}
	return l
}

// checkNothingPlayed looks whether all that plays l refuses.
func checkNothingPlayed(t *testing.T, name string, m []impl.Pair, l []impl.Req) {
	t.Helper()
	if d, told := impl.PlayAll(m, l); len(told) != 0 || shown(d) != shown(impl.Db{}) {
		t.Error(name, "PlayAll", d, told)
	}
	if turns := impl.TurnsOf(m, l); len(turns) != 0 {
		t.Error(name, "TurnsOf", turns)
	}
	if ids := impl.Committed(m, l); len(ids) != 0 {
		t.Error(name, "Committed", ids)
	}
	if left, turns := impl.OneByOne(m, l); len(left) != 0 || len(turns) != 0 {
		t.Error(name, "OneByOne", left, turns)
	}
}

func TestAtMost100Requests(t *testing.T) {
	for _, n := range []int{99, 100} {
		l := beginsAnd(n)
		l[n-1] = reqOf("1 commit")
		d, told := impl.PlayAll(pairsOf("h5:7"), l)
		if len(told) != n || len(d.Txns) != 0 || impl.MapText(d.Map) != "h5=7" {
			t.Error(n, d, told)
		}
		left, alone := impl.OneByOne(pairsOf("h5:7"), l)
		if impl.MapText(left) != "h5=7" || len(alone) != n || len(impl.TurnsOf(nil, l)) != n || idsText(impl.Committed(nil, l)) != "1" {
			t.Error(n, left, alone)
		}
	}
	l := beginsAnd(101)
	l[99], l[100] = reqOf("1 commit"), reqOf("2 begin")
	checkNothingPlayed(t, "101", pairsOf("h5:7"), l)
	checkNothingPlayed(t, "101 that are not right", pairsOf("h5:7"), make([]impl.Req, 101))
	checkNothingPlayed(t, "many", nil, beginsAnd(1000))
	if _, told := impl.PlayAll(nil, make([]impl.Req, 100)); len(told) != 100 || told[99] != (impl.Told{Code: impl.TcForm}) {
		t.Error(told)
	}
}

// TestAHistoryWithAllLocks takes as many as 100 requests can take.
func TestAHistoryWithAllLocks(t *testing.T) {
	d, told := impl.PlayAll(nil, beginsAnd(100))
	if len(d.Locks.Held) != 99 || told[98].Code != impl.TcNone || told[99].Code != impl.TcFull {
		t.Error(len(d.Locks.Held), told[98:])
	}
	if turns := impl.TurnsOf(nil, beginsAnd(100)); len(turns) != 99 {
		t.Error(len(turns))
	}
}

func TestHistoriesOfMapsThatAreNotRight(t *testing.T) {
	for name, m := range wrongMaps() {
		checkNothingPlayed(t, name, m, historyOf("1 begin; 1 put zz 1; 1 commit"))
		checkNothingPlayed(t, name, m, nil)
	}
}

func TestAHistoryThatFillsTheMap(t *testing.T) {
	m := numbered(59)
	l := historyOf("1 begin; 2 begin; 1 put x 1; 2 put y 2; 2 commit; 1 commit; 1 drop x; 1 drop k10; 1 put z 3; 1 commit")
	d, told := impl.PlayAll(m, l)
	if got := toldText(told[4:]); got != "2 commit ok; 1 commit full; 1 drop ok; 1 drop ok; 1 put ok; 1 commit ok" || len(d.Map) != 60 {
		t.Error(got, d.Map)
	}
	left, alone := impl.OneByOne(m, l)
	if !slices.Equal(left, d.Map) || turnsText(alone[:3]) != "2 begin > ok; 2 put y 2 > ok; 2 commit > ok" || len(alone) != 9 {
		t.Error(left, turnsText(alone))
	}
	if ids := impl.Committed(m, l); idsText(ids) != "2 1" {
		t.Error(ids)
	}
}

// someHistory has n requests, most of which can be done where they stand.
func someHistory(r *rand.Rand, m []impl.Pair, n int) []impl.Req {
	var l []impl.Req
	d := impl.Db{Map: m}
	for range n {
		q := someReqIn(r, d)
		l = append(l, q)
		d, _ = impl.TxnDo(d, q)
	}
	return l
}

// played is what TxnDo tells from request to request, each time with what was
// asked for.
func played(m []impl.Pair, l []impl.Req) (impl.Db, []impl.Turn) {
	d := impl.Db{Map: m}
	var turns []impl.Turn
	for _, q := range l {
		n, told := impl.TxnDo(d, q)
		for i, x := range told {
			if i > 0 {
				q = d.Txns[slices.IndexFunc(d.Txns, func(y impl.Txn) bool { return y.Id == x.Txn })].Wait
			}
			turns = append(turns, impl.Turn{Q: q, T: x})
		}
		d = n
	}
	return d, turns
}

func TestPlayingIsTxnDoByTurns(t *testing.T) {
	r := rand.New(rand.NewSource(71))
	for i := range 300 {
		m := somePairs(r)
		l := someHistory(r, m, i%101)
		want, all := played(m, l)
		d, told := impl.PlayAll(m, l)
		if shown(d) != shown(want) || len(told) != len(all) {
			t.Fatal(m, l, d, told)
		}
		for i, x := range all {
			if told[i] != x.T {
				t.Fatal(m, l, told)
			}
		}
		done := slices.DeleteFunc(slices.Clone(all), func(x impl.Turn) bool { return x.T.Code > impl.TcNone })
		if turns := impl.TurnsOf(m, l); !slices.Equal(turns, done) {
			t.Fatal(m, l, turns)
		}
		var ids []int64
		for _, x := range done {
			if x.Q.Kind == impl.TqCommit {
				ids = append(ids, x.Q.Txn)
			}
		}
		if got := impl.Committed(m, l); !slices.Equal(got, ids) {
			t.Fatal(m, l, got)
		}
	}
}

// TestRequestsInTwoPieces plays some of a history, and the rest from where that
// ends.
func TestRequestsInTwoPieces(t *testing.T) {
	r := rand.New(rand.NewSource(72))
	for range 20 {
		m := somePairs(r)
		l := someHistory(r, m, 60)
		whole, all := impl.PlayAll(m, l)
		for i := range len(l) + 1 {
			d, told := impl.PlayAll(m, l[:i])
			for _, q := range l[i:] {
				n, more := impl.TxnDo(d, q)
				d, told = n, append(told, more...)
			}
			if shown(d) != shown(whole) || !slices.Equal(told, all) {
				t.Fatal(m, l, i)
			}
			turns := impl.TurnsOf(m, l)
			if first := impl.TurnsOf(m, l[:i]); !slices.Equal(first, turns[:len(first)]) {
				t.Fatal(m, l, i, first)
			}
			ids := impl.Committed(m, l)
			if first := impl.Committed(m, l[:i]); !slices.Equal(first, ids[:len(first)]) {
				t.Fatal(m, l, i, first)
			}
		}
	}
}

func TestPromise7(t *testing.T) {
	r := rand.New(rand.NewSource(7))
	several, overtaken, waited := 0, 0, 0
	for range 1500 {
		m := somePairs(r)
		l := someHistory(r, m, 40+r.Intn(61))
		d, told := impl.PlayAll(m, l)
		ids := impl.Committed(m, l)
		turns := impl.TurnsOf(m, l)
		var want []impl.Turn
		for _, id := range ids {
			for _, x := range turns {
				if x.Q.Txn == id {
					want = append(want, x)
				}
			}
		}
		left, alone := impl.OneByOne(m, l)
		if !slices.Equal(left, d.Map) || !slices.Equal(alone, want) {
			t.Fatal(m, l, left, d.Map, turnsText(alone), turnsText(want))
		}
		// The same by TxnDo, with nobody else there.
		for m := m; len(ids) > 0; ids = ids[1:] {
			var asked []impl.Req
			for _, x := range want {
				if x.Q.Txn == ids[0] {
					asked = append(asked, x.Q)
				}
			}
			last, again := played(m, asked)
			if !slices.Equal(again, alone[:len(again)]) || len(last.Txns) != 0 {
				t.Fatal(m, l, ids[0], turnsText(again))
			}
			m, alone = last.Map, alone[len(again):]
		}
		ids = impl.Committed(m, l)
		if len(ids) > 2 {
			several++
		}
		if !slices.IsSorted(ids) {
			overtaken++
		}
		for _, x := range told {
			if x.Code == impl.TcWait {
				waited++
			}
		}
	}
	if several < 500 || overtaken < 300 || waited < 5000 {
		t.Error(several, overtaken, waited)
	}
}

// allAnswers is what the functions of chapter 7 answer, as text.
func allAnswers(m []impl.Pair, l []impl.Req) string {
	d, told := impl.PlayAll(m, l)
	left, alone := impl.OneByOne(m, l)
	return shown(d) + toldText(told) + turnsText(impl.TurnsOf(m, l)) + idsText(impl.Committed(m, l)) + shown(left) + turnsText(alone)
}

func TestTheSameAnswersWhateverElseRuns(t *testing.T) {
	r := rand.New(rand.NewSource(73))
	m := pairsOf("a", "b")
	l := someHistory(r, m, 100)
	want := allAnswers(m, l)
	for _, procs := range []int{1, 2, 8} {
		before := runtime.GOMAXPROCS(procs)
		var all sync.WaitGroup
		for range 16 {
			all.Go(func() {
				for range 20 {
					if got := allAnswers(m, l); got != want {
						t.Error(procs, got)
					}
				}
			})
		}
		all.Wait()
		runtime.GOMAXPROCS(before)
	}
}

// TestNoGoroutineIsLeft would stop at one that waits and is never handed on.
func TestNoGoroutineIsLeft(t *testing.T) {
	r := rand.New(rand.NewSource(74))
	synctest.Test(t, func(t *testing.T) {
		for _, n := range []int{0, 1, 2, 99, 100, 101} {
			m := somePairs(r)
			allAnswers(m, someHistory(r, m, n))
			allAnswers(wrongMaps()["keys fall"], someHistory(r, nil, n))
			synctest.Wait()
		}
	})
}
