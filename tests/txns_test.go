package tests

import (
	"math"
	"math/rand"
	"slices"
	"strconv"
	"strings"
	"testing"

	"loop.example/g00573/impl"
)

var kindNames = []string{"0", "begin", "get", "put", "drop", "scan", "commit", "abort", "8"}

var codeNames = []string{"ok", "none", "wait", "dead", "form", "full"}

// reqOf is the request that words tell: "1 put a 9", "1 scan - c" (- alone is
// empty), "1 commit".
func reqOf(words string) impl.Req {
	parts := append(strings.Fields(words), "", "")
	for i := range parts {
		if parts[i] == "-" {
			parts[i] = ""
		}
	}
	txn, _ := strconv.ParseInt(parts[0], 10, 64)
	return impl.Req{Txn: txn, Kind: int64(slices.Index(kindNames, parts[1])), Key: parts[2], Val: parts[3]}
}

func reqsOf(words ...string) []impl.Req {
	var l []impl.Req
	for _, w := range words {
		l = append(l, reqOf(w))
	}
	return l
}

// txnsOf has the transactions that words tell: "1 a:3 -b; 2 ? put a 9" are 1,
// which has written, and 2, which waits.
func txnsOf(words string) []impl.Txn {
	var l []impl.Txn
	if words == "" {
		return nil
	}
	for _, one := range strings.Split(words, ";") {
		has, waits, _ := strings.Cut(one, "?")
		parts := strings.Fields(has)
		id, _ := strconv.ParseInt(parts[0], 10, 64)
		x := impl.Txn{Id: id, Writes: changesOf(parts[1:]...)}
		if waits != "" {
			x.Wait = reqOf(parts[0] + waits)
		}
		l = append(l, x)
	}
	return l
}

func dbOf(pairs string, held string, line string, txns string, last int64) impl.Db {
	return impl.Db{Map: pairsOf(strings.Fields(pairs)...), Locks: locksOf(held, line), Txns: txnsOf(txns), Last: last}
}

func toldText(l []impl.Told) string {
	var all []string
	for _, x := range l {
		words := []string{strconv.FormatInt(x.Txn, 10), kindNames[x.Kind], codeNames[x.Code]}
		if x.Val != "" {
			words = append(words, x.Val)
		}
		all = append(all, strings.Join(words, " "))
	}
	return strings.Join(all, "; ")
}

// behind does what steps tell, one behind the other, and looks at what is told:
// "1 put a 9 > wait" is a request that is told TcWait, "1 commit > ok; 2 get ok
// 9" one that wakes another one.
func behind(t *testing.T, name string, d impl.Db, steps ...string) impl.Db {
	t.Helper()
	for _, s := range steps {
		ask, want, _ := strings.Cut(s, " > ")
		parts := strings.Fields(ask)
		n, told := impl.TxnDo(d, reqOf(ask))
		if got := toldText(told); got != parts[0]+" "+parts[1]+" "+want {
			t.Errorf("%s: %s: told %s", name, s, got)
		}
		if !impl.DbOk(n) {
			t.Errorf("%s: %s: not right behind it: %v", name, s, n)
		}
		d = n
	}
	return d
}

func checkDb(t *testing.T, name string, got impl.Db, want impl.Db) {
	t.Helper()
	if shown(got) != shown(want) {
		t.Errorf("%s: it is\n%v, not\n%v", name, got, want)
	}
}

// heldBy has n locks of one transaction, of the keys h1, h2 ..
func heldBy(txn int64, n int) []impl.Hold {
	var l []impl.Hold
	for i := range n {
		l = append(l, impl.Hold{Txn: txn, Key: "h" + strconv.Itoa(1+i), Mode: impl.LkS})
	}
	return l
}

// manyChanges has n that put the keys w10, w11 ..
func manyChanges(n int) []impl.Change {
	var l []impl.Change
	for i := range n {
		l = append(l, impl.Change{Key: "w" + strconv.Itoa(10+i), Val: "1"})
	}
	return l
}

func rightDbs() map[string]impl.Db {
	sixty := dbOf("", "", "", "1", 1)
	sixty.Map = numbered(60)
	sixty.Txns[0].Writes = manyChanges(60)
	sixty.Locks = impl.Locks{Held: heldBy(1, 100)}
	return map[string]impl.Db{
		"nothing":                         {},
		"a map":                           dbOf("a b", "", "", "", 0),
		"the greatest last":               dbOf("a b", "", "", "", 1000),
		"a txn that is the last one":      dbOf("", "", "", "1000", 1000),
		"a txn below the last one":        dbOf("", "", "", "1; 4", 7),
		"six":                             dbOf("", "", "", "1; 2; 3; 4; 5; 6", 6),
		"60 pairs, 60 changes, 100 locks": sixty,
		"one that has written":            dbOf("a b", "1..IX 1.a.X 1.c.X", "", "1 -a b:9 c:1", 1),
		"gone of what is not there":       dbOf("a b", "", "", "1 -zz", 1),
		"held by two":                     dbOf("a b", "1..IS 2..IS 1.a.S 2.a.S", "", "1; 2", 2),
		"one that waits to get":           dbOf("a", "1..IX 1.a.X 2..IS", "2.a.S", "1; 2 ? get a", 2),
		"one that waits to put":           dbOf("a", "1..IX 1.a.X 2..IX", "2.a.X", "1; 2 ? put a 2", 2),
		"one that waits to drop":          dbOf("a", "1..IX 1.a.X 2..IX", "2.a.X", "1; 2 ? drop a", 2),
		"one that waits to scan":          dbOf("a", "1..IX 1.a.X", "2..S", "1; 2 ? scan a c", 2),
		"one that waits to scan all":      dbOf("a", "1..IX 1.a.X", "2..S", "1; 2 ? scan", 2),
		"one that has written and waits":  dbOf("a", "1..IX 1.a.X 2..IX 2.b.X", "2.a.X", "1; 2 b:1 ? put a 2", 2),
		"all wait":                        dbOf("a", "1.a.X 2.b.X", "1.b.X 2.a.X", "1 ? put b 1; 2 ? put a 1", 2),
		"it waits for what nobody holds":  dbOf("a", "", "2.zz.X", "2 ? get a", 2),
	}
}

func wrongDbs() map[string]impl.Db {
	l := map[string]impl.Db{
		"last below 0":                      dbOf("a", "", "", "", -1),
		"last is the least number":          dbOf("a", "", "", "", math.MinInt64),
		"last above 1000":                   dbOf("a", "", "", "1", 1001),
		"last is the greatest number":       dbOf("a", "", "", "1", math.MaxInt64),
		"seven":                             dbOf("a", "", "", "1; 2; 3; 4; 5; 6; 7", 7),
		"ids fall":                          dbOf("a", "", "", "2; 1", 2),
		"the last id falls":                 dbOf("a", "", "", "1; 3; 2", 3),
		"two alike":                         dbOf("a", "", "", "1; 1", 1),
		"an id of 0":                        dbOf("a", "", "", "0; 1", 1),
		"an id below 0":                     dbOf("a", "", "", "-1; 1", 1),
		"an id above the last one":          dbOf("a", "", "", "1; 3", 2),
		"held by one that is none":          dbOf("a", "1.a.S 2.b.S", "", "1", 2),
		"held by one, and there is none":    dbOf("a", "1.a.S", "", "", 2),
		"held by one above all":             dbOf("a", "1.a.S 4.a.S", "", "1", 2),
		"in the line, and it is none":       dbOf("a", "1.a.X", "2.a.S", "1", 2),
		"in the line behind one that waits": dbOf("a", "1.a.X", "2.a.S 3.a.S", "1; 2 ? get a", 3),
		"locks that do not fit":             dbOf("a", "1.a.X 2.a.S", "", "1; 2", 2),
		"twice in the line":                 dbOf("a", "1.a.X", "2.a.S 2.b.S", "1; 2 ? get a", 2),
		"in the line, and does not wait":    dbOf("a", "1.a.X", "2.a.S", "1; 2", 2),
		"waits, and is not in the line":     dbOf("a", "1.a.X", "", "1; 2 ? get a", 2),
		"waits, and another is in the line": dbOf("a", "1.a.X", "3.a.S", "1; 2 ? get a; 3", 3),
		"waits for another one's request":   {Locks: locksOf("1.a.X", "2.a.S"), Txns: []impl.Txn{{Id: 1}, {Id: 2, Wait: reqOf("1 get a")}}, Last: 2},
		"waits for nobody's request":        {Locks: locksOf("1.a.X", "2.a.S"), Txns: []impl.Txn{{Id: 1}, {Id: 2, Wait: reqOf("0 get a")}}, Last: 2},
		"a request that is no more than in": {Txns: []impl.Txn{{Id: 1, Wait: impl.Req{Val: "a"}}}, Last: 1},
	}
	for _, waits := range []string{"begin", "commit", "abort", "0", "8", "get", "get a 1", "get toolong", "put a", "put a toolong", "put - 1", "drop", "drop a 1", "drop a=", "scan toolong", "scan a toolong"} {
		l["waits to "+waits] = dbOf("a", "1.a.X", "2.a.X", "1; 2 ? "+waits, 2)
	}
	for name, m := range wrongMaps() {
		l["a map: "+name] = impl.Db{Map: m}
	}
	for name, x := range wrongDeltas() {
		l["writes: "+name] = impl.Db{Txns: []impl.Txn{{Id: 1}, {Id: 2, Writes: x}}, Last: 2}
	}
	l["101 locks"] = impl.Db{Locks: impl.Locks{Held: heldBy(1, 101)}, Txns: txnsOf("1"), Last: 1}
	return l
}

// someReqs are requests of one to seven and others, right or not.
func someReqs() []impl.Req {
	l := []impl.Req{{}}
	for _, txn := range []string{"0", "1", "2", "3", "7", "1000", "1001", "-1"} {
		for _, ask := range []string{"begin", "get a", "put b 9", "drop a", "scan", "commit", "abort", "8"} {
			l = append(l, reqOf(txn+" "+ask))
		}
	}
	return append(l, reqsOf("1 get", "1 get zz", "2 put toolong 1", "1 scan a b", "1 drop zz", "1 commit a", "2 get a 1")...)
}

func TestTheNumbersOfKindsAndCodes(t *testing.T) {
	kinds := []int64{impl.TqBegin, impl.TqGet, impl.TqPut, impl.TqDrop, impl.TqScan, impl.TqCommit, impl.TqAbort}
	if !slices.Equal(kinds, []int64{1, 2, 3, 4, 5, 6, 7}) {
		t.Error("the kinds have other numbers", kinds)
	}
	codes := []int64{impl.TcOk, impl.TcNone, impl.TcWait, impl.TcDead, impl.TcForm, impl.TcFull}
	if !slices.Equal(codes, []int64{0, 1, 2, 3, 4, 5}) || impl.MaxTxns != 6 {
		t.Error("the codes have other numbers", codes)
	}
}

func TestDbOk(t *testing.T) {
	for name, d := range rightDbs() {
		if !impl.DbOk(d) {
			t.Error(name)
		}
	}
	for name, d := range wrongDbs() {
		if impl.DbOk(d) {
			t.Error(name)
		}
	}
	for name, l := range wrongLocks() {
		d := impl.Db{Locks: l, Last: 1000}
		for _, x := range slices.Concat(l.Held, l.Line) {
			if !slices.ContainsFunc(d.Txns, func(y impl.Txn) bool { return y.Id == x.Txn }) {
				d.Txns = append(d.Txns, impl.Txn{Id: x.Txn})
			}
		}
		slices.SortFunc(d.Txns, func(a impl.Txn, b impl.Txn) int { return int(a.Id - b.Id) })
		if impl.DbOk(d) {
			t.Error("locks:", name)
		}
	}
}

func TestDbsThatAreNotRight(t *testing.T) {
	for name, d := range wrongDbs() {
		for _, q := range someReqs() {
			if n, told := impl.TxnDo(d, q); len(told) != 0 || shown(n) != shown(impl.Db{}) {
				t.Error(name, q, n, told)
			}
		}
		for _, txn := range []int64{-1, 0, 1, 2, 3, 7} {
			if m := impl.Seen(d, txn); len(m) != 0 {
				t.Error(name, txn, m)
			}
		}
	}
}

func TestSeen(t *testing.T) {
	d := dbOf("a:1 b:2 d:4", "1.a.X", "4.a.X", "1 -a b:9 c:3; 3; 4 -b -d ? put a 1; 6 -a -b -d; 7 e:5 -zz", 9)
	for txn, want := range map[int64]string{
		1: "b=9 c=3 d=4", 3: "a=1 b=2 d=4", 4: "a=1", 6: "", 7: "a=1 b=2 d=4 e=5",
		0: "", 2: "", 5: "", 8: "", 9: "", -1: "", 1000: "", math.MaxInt64: "", math.MinInt64: "",
	} {
		if got := impl.MapText(impl.Seen(d, txn)); got != want {
			t.Error(txn, "sees", got)
		}
	}
	d = rightDbs()["60 pairs, 60 changes, 100 locks"]
	if m := impl.Seen(d, 1); len(m) != 120 || m[0] != d.Map[0] || m[119] != (impl.Pair{Key: "w69", Val: "1"}) {
		t.Error(len(m), m)
	}
}

// TestWhichRequestsAreRight asks for each in a database in which all that is
// right can be done.
func TestWhichRequestsAreRight(t *testing.T) {
	d := dbOf("a:1 b:2", "", "", "1; 3", 3)
	right := reqsOf(
		"4 begin", "1 commit", "3 abort",
		"1 get a", "3 get zzzzzz", "1 drop a", "1 drop zzzzzz", "1 put a 1", "1 put zzzzzz zzzzzz",
		"1 scan", "1 scan a", "1 scan - b", "1 scan a b", "1 scan b a", "1 scan zzzzzz zzzzzz", "1 scan b b",
	)
	right = append(right, impl.Req{Txn: 1, Kind: impl.TqPut, Key: "!~", Val: "~!"}, impl.Req{Txn: 1, Kind: impl.TqScan, Key: "~", Val: "!"})
	for _, q := range right {
		if _, told := impl.TxnDo(d, q); len(told) != 1 || told[0].Code != impl.TcOk && told[0].Code != impl.TcNone {
			t.Error(q, told)
		}
	}
	wrong := reqsOf(
		"4 begin a", "4 begin - 1", "4 begin a 1", "1 commit a", "1 commit - 1", "1 abort a", "1 abort - 1",
		"1 get", "1 get - 1", "1 get a 1", "1 get toolong", "1 get a=",
		"1 drop", "1 drop - 1", "1 drop a 1", "1 drop toolong", "1 drop a=",
		"1 put", "1 put a", "1 put - 1", "1 put toolong 1", "1 put a toolong", "1 put a= 1", "1 put a =",
		"1 scan toolong", "1 scan a toolong", "1 scan toolong b", "1 scan =", "1 scan - =",
		"1 0", "1 8", "1 0 a", "1 8 a 1", "4 0", "4 8",
		"4 begin toolong", "1 commit toolong",
	)
	for _, kind := range []int64{-1, 9, 1 << 32, 1<<32 + impl.TqGet, math.MaxInt64, math.MinInt64} {
		wrong = append(wrong, impl.Req{Txn: 1, Kind: kind}, impl.Req{Txn: 1, Kind: kind, Key: "a"}, impl.Req{Txn: 1, Kind: kind, Key: "a", Val: "1"})
	}
	for _, b := range []string{" ", "a b", "\x00", "\x7f", "\xff", "a\n"} {
		wrong = append(wrong,
			impl.Req{Txn: 1, Kind: impl.TqGet, Key: b}, impl.Req{Txn: 1, Kind: impl.TqDrop, Key: b},
			impl.Req{Txn: 1, Kind: impl.TqPut, Key: b, Val: "1"}, impl.Req{Txn: 1, Kind: impl.TqPut, Key: "a", Val: b},
			impl.Req{Txn: 1, Kind: impl.TqScan, Key: b}, impl.Req{Txn: 1, Kind: impl.TqScan, Val: b})
	}
	for _, q := range wrong {
		checkForm(t, d, q)
	}
}

// checkForm looks whether q is told TcForm, and nothing comes of it.
func checkForm(t *testing.T, d impl.Db, q impl.Req) {
	t.Helper()
	n, told := impl.TxnDo(d, q)
	if !slices.Equal(told, []impl.Told{{Txn: q.Txn, Kind: q.Kind, Code: impl.TcForm}}) || shown(n) != shown(d) {
		t.Error(q, told, n)
	}
}

func TestWhoMayAsk(t *testing.T) {
	d := dbOf("a:1", "1..IX 1.a.X 3..IS", "3.a.S", "1; 3 ? get a", 5)
	for _, ask := range []string{"get a", "put b 1", "drop a", "scan", "commit", "abort"} {
		for _, txn := range []string{"0", "2", "4", "5", "6", "1000", "1001", "-1"} {
			checkForm(t, d, reqOf(txn+" "+ask))
		}
		checkForm(t, d, reqOf("3 "+ask))
		checkForm(t, d, impl.Req{Txn: math.MaxInt64, Kind: reqOf("1 " + ask).Kind, Key: reqOf("1 " + ask).Key})
		if _, told := impl.TxnDo(d, reqOf("1 "+ask)); len(told) == 0 || told[0].Code == impl.TcForm {
			t.Error(ask, told)
		}
	}
	for _, txn := range []int64{math.MinInt64, -1, 0, 1, 2, 3, 4, 5, 1001, math.MaxInt64} {
		checkForm(t, d, impl.Req{Txn: txn, Kind: impl.TqBegin})
	}
	for _, txn := range []int64{6, 7, 999, 1000} {
		n, told := impl.TxnDo(d, impl.Req{Txn: txn, Kind: impl.TqBegin})
		want := dbOf("a:1", "1..IX 1.a.X 3..IS", "3.a.S", "1; 3 ? get a; "+strconv.FormatInt(txn, 10), txn)
		checkDb(t, "begin", n, want)
		if !slices.Equal(told, []impl.Told{{Txn: txn, Kind: impl.TqBegin}}) {
			t.Error(txn, told)
		}
	}
}

func TestTheLastNumber(t *testing.T) {
	d := behind(t, "to 1000", impl.Db{}, "999 begin > ok", "999 begin > form", "1000 begin > ok", "999 commit > ok", "999 begin > form", "1001 begin > form", "1000 begin > form")
	checkDb(t, "to 1000", d, dbOf("", "", "", "1000", 1000))
	d = behind(t, "to 1000", d, "1000 abort > ok", "1000 begin > form", "1001 begin > form", "1 begin > form")
	checkDb(t, "to 1000", d, dbOf("", "", "", "", 1000))
}

func TestAtMostSix(t *testing.T) {
	d := behind(t, "six", impl.Db{}, "2 begin > ok", "3 begin > ok", "5 begin > ok", "7 begin > ok", "8 begin > ok", "9 begin > ok")
	checkDb(t, "six", d, dbOf("", "", "", "2; 3; 5; 7; 8; 9", 9))
	seven := behind(t, "seven", d, "10 begin > full", "1000 begin > full", "9 begin > form", "4 begin > form", "1001 begin > form", "5 put a 1 > ok")
	checkDb(t, "seven", seven, dbOf("", "5..IX 5.a.X", "", "2; 3; 5 a:1; 7; 8; 9", 9))
	d = behind(t, "six again", d, "5 abort > ok", "10 begin > ok", "11 begin > full", "2 commit > ok", "11 begin > ok")
	checkDb(t, "six again", d, dbOf("", "", "", "3; 7; 8; 9; 10; 11", 11))
}

func TestReadingAndWriting(t *testing.T) {
	const start = "a:1 b:2 d:4"
	for _, c := range []struct {
		name  string
		steps []string
		held  string
		has   string
	}{
		{"get", []string{"1 get a > ok 1"}, "1..IS 1.a.S", ""},
		{"get of nothing", []string{"1 get c > none"}, "1..IS 1.c.S", ""},
		{"put", []string{"1 put c 3 > ok", "1 get c > ok 3"}, "1..IX 1.c.X", "c:3"},
		{"put over what the map has", []string{"1 put a 9 > ok", "1 get a > ok 9"}, "1..IX 1.a.X", "a:9"},
		{"put twice", []string{"1 put c 3 > ok", "1 put c 5 > ok", "1 get c > ok 5"}, "1..IX 1.c.X", "c:5"},
		{"put of what is so", []string{"1 put a 1 > ok"}, "1..IX 1.a.X", "a:1"},
		{"drop of what only the map has", []string{"1 drop a > ok", "1 get a > none"}, "1..IX 1.a.X", "-a"},
		{"drop of what only the writes have", []string{"1 put c 3 > ok", "1 drop c > ok", "1 get c > none"}, "1..IX 1.c.X", "-c"},
		{"drop of what both have", []string{"1 put a 3 > ok", "1 drop a > ok", "1 get a > none"}, "1..IX 1.a.X", "-a"},
		{"drop of what is not seen", []string{"1 drop c > none"}, "1..IX 1.c.X", ""},
		{"drop of what was dropped", []string{"1 drop a > ok", "1 drop a > none"}, "1..IX 1.a.X", "-a"},
		{"drop of what was put and dropped", []string{"1 put c 3 > ok", "1 drop c > ok", "1 drop c > none"}, "1..IX 1.c.X", "-c"},
		{"put of what was dropped", []string{"1 drop a > ok", "1 put a 7 > ok", "1 get a > ok 7"}, "1..IX 1.a.X", "a:7"},
		{"put, drop and put", []string{"1 put c 3 > ok", "1 drop c > ok", "1 put c 4 > ok", "1 drop c > ok"}, "1..IX 1.c.X", "-c"},
		{"by rising keys", []string{"1 put e 5 > ok", "1 drop b > ok", "1 put c 3 > ok", "1 drop a > ok"}, "1..IX 1.e.X 1.b.X 1.c.X 1.a.X", "-a -b c:3 e:5"},

		{"scan of all", []string{"1 scan > ok a=1 b=2 d=4"}, "1..S", ""},
		{"scan from a key on", []string{"1 scan b > ok b=2 d=4", "1 scan c > ok d=4", "1 scan d > ok d=4", "1 scan e > ok"}, "1..S", ""},
		{"scan ahead of a key", []string{"1 scan - b > ok a=1", "1 scan - c > ok a=1 b=2", "1 scan - a > ok", "1 scan - e > ok a=1 b=2 d=4"}, "1..S", ""},
		{"scan between two", []string{"1 scan a d > ok a=1 b=2", "1 scan b c > ok b=2", "1 scan c d > ok", "1 scan b bb > ok b=2"}, "1..S", ""},
		{"scan of ends that do not rise", []string{"1 scan b b > ok", "1 scan d a > ok", "1 scan e e > ok"}, "1..S", ""},
		{"scan of what was written", []string{"1 put c 3 > ok", "1 drop a > ok", "1 put b 9 > ok", "1 scan > ok b=9 c=3 d=4", "1 scan c d > ok c=3"}, "1..X 1.c.X 1.a.X 1.b.X", "-a b:9 c:3"},
		{"scan of nothing", []string{"1 drop a > ok", "1 drop b > ok", "1 drop d > ok", "1 scan > ok"}, "1..X 1.a.X 1.b.X 1.d.X", "-a -b -d"},

		{"get and then put", []string{"1 get a > ok 1", "1 put a 2 > ok"}, "1..IX 1.a.X", "a:2"},
		{"put and then get", []string{"1 put a 2 > ok", "1 get a > ok 2"}, "1..IX 1.a.X", "a:2"},
		{"scan and then get", []string{"1 scan > ok a=1 b=2 d=4", "1 get a > ok 1"}, "1..S 1.a.S", ""},
		{"get and then scan", []string{"1 get a > ok 1", "1 scan b > ok b=2 d=4"}, "1..S 1.a.S", ""},
		{"scan and then put", []string{"1 scan > ok a=1 b=2 d=4", "1 put a 2 > ok"}, "1..X 1.a.X", "a:2"},
		{"scan and then drop", []string{"1 scan > ok a=1 b=2 d=4", "1 drop a > ok"}, "1..X 1.a.X", "-a"},
		{"get of two", []string{"1 get b > ok 2", "1 get a > ok 1", "1 get b > ok 2"}, "1..IS 1.b.S 1.a.S", ""},
	} {
		d := behind(t, c.name, dbOf(start, "", "", "1", 1), c.steps...)
		checkDb(t, c.name, d, dbOf(start, c.held, "", strings.TrimSpace("1 "+c.has), 1))
		left := behind(t, c.name, d, "1 abort > ok")
		checkDb(t, c.name+", and abort", left, dbOf(start, "", "", "", 1))
		seen := impl.Seen(d, 1)
		left = behind(t, c.name, d, "1 commit > ok")
		checkDb(t, c.name+", and commit", left, impl.Db{Map: seen, Last: 1})
	}
}

func TestCommitKeepsOthersWrites(t *testing.T) {
	d := behind(t, "two", dbOf("a:1 b:2 c:3", "", "", "1; 2", 2), "1 put b 9 > ok", "2 drop a > ok", "2 put d 4 > ok", "1 drop c > ok")
	checkDb(t, "two", d, dbOf("a:1 b:2 c:3", "1..IX 1.b.X 2..IX 2.a.X 2.d.X 1.c.X", "", "1 b:9 -c; 2 -a d:4", 2))
	d = behind(t, "the second one", d, "2 commit > ok")
	checkDb(t, "the second one", d, dbOf("b:2 c:3 d:4", "1..IX 1.b.X 1.c.X", "", "1 b:9 -c", 2))
	if got := impl.MapText(impl.Seen(d, 1)); got != "b=9 d=4" {
		t.Error(got)
	}
	d = behind(t, "the first one", d, "1 commit > ok", "2 commit > form", "2 abort > form", "1 get a > form")
	checkDb(t, "the first one", d, dbOf("b:9 d:4", "", "", "", 2))
}

func TestTheLimitOfPairs(t *testing.T) {
	d := dbOf("", "", "", "1; 2", 2)
	d.Map = numbered(59)
	d = behind(t, "59", d, "1 put k5 1 > ok", "2 put k4 2 > ok", "1 get k10 > ok 0")
	d = behind(t, "60", d, "1 commit > ok")
	if len(d.Map) != 60 {
		t.Fatal(len(d.Map))
	}
	full := behind(t, "61", d, "2 commit > full")
	checkDb(t, "61", full, d)
	scan := behind(t, "61 seen", full, "2 scan - k11 > ok k10=0", "2 scan k39 k40 > ok k39=29 k4=2", "2 commit > full", "2 get k4 > ok 2", "2 put k3 3 > ok", "2 commit > full", "2 drop k10 > ok", "2 commit > full", "2 drop k4 > ok", "2 commit > ok")
	if len(scan.Map) != 60 || scan.Map[0].Key != "k11" || len(scan.Locks.Held) != 0 || len(scan.Txns) != 0 {
		t.Error(scan)
	}

	d = dbOf("", "", "", "1", 1)
	d.Map = numbered(60)
	// What is put is one of the changes; how many pairs that makes is asked by a commit.
	behind(t, "60 and one more", d, "1 put k5 1 > ok", "1 commit > full", "1 abort > ok")
	behind(t, "60, and one of these", d, "1 put k10 1 > ok", "1 commit > ok")
	behind(t, "60, one less, one more", d, "1 drop k10 > ok", "1 put k5 1 > ok", "1 commit > ok")
	long := behind(t, "120 seen", impl.Db{Map: numbered(60), Txns: []impl.Txn{{Id: 1, Writes: manyChanges(60)}}, Last: 1}, "1 commit > full")
	_, told := impl.TxnDo(long, reqOf("1 scan"))
	if want := impl.MapText(numbered(60)) + " " + impl.MapText(impl.Seen(impl.Db{Txns: long.Txns, Last: 1}, 1)); len(told) != 1 || told[0].Code != impl.TcOk || told[0].Val != want {
		t.Error(told)
	}
	behind(t, "two of 120", long, "1 scan k69 w11 > ok k69=59 w10=1", "1 get w69 > ok 1", "1 get k10 > ok 0")
}

func TestTheLimitOfWrites(t *testing.T) {
	of := func(n int) impl.Db {
		d := impl.Db{Map: pairsOf("a", "b"), Txns: []impl.Txn{{Id: 1, Writes: manyChanges(n)}}, Last: 1}
		d.Txns[0].Writes[3] = impl.Change{Key: "w13", Gone: true}
		return d
	}
	d := behind(t, "59", of(59), "1 put b 9 > ok", "1 put c 1 > full", "1 get c > none")
	if len(d.Txns[0].Writes) != 60 {
		t.Error(d.Txns)
	}
	d = behind(t, "59", of(59), "1 drop b > ok", "1 drop a > full", "1 get a > ok va")
	if len(d.Txns[0].Writes) != 60 {
		t.Error(d.Txns)
	}
	d = behind(t, "60", of(60), "1 put c 9 > full", "1 put a 9 > full", "1 drop a > full", "1 drop zz > none", "1 drop w13 > none", "1 get a > ok va")
	want := of(60)
	want.Locks = locksOf("1..IX 1.c.X 1.a.X 1.zz.X 1.w13.X", "")
	checkDb(t, "60", d, want)
	d = behind(t, "60", d, "1 put w10 9 > ok", "1 get w10 > ok 9", "1 drop w11 > ok", "1 put w13 2 > ok", "1 put w11 3 > ok", "1 put c 9 > full")
	if w := d.Txns[0].Writes; len(w) != 60 || w[0].Val != "9" || w[1].Val != "3" || w[3] != (impl.Change{Key: "w13", Val: "2"}) {
		t.Error(w)
	}
	d = behind(t, "60", d, "1 drop w10 > ok", "1 drop w12 > ok", "1 commit > ok")
	if len(d.Map) != 60 {
		t.Error(len(d.Map), d.Map)
	}
}

func TestTheLimitOfLocks(t *testing.T) {
	of := func(n int, more string) impl.Db {
		d := dbOf("a:1 h1:5", "", "", "1; 2", 2)
		d.Locks.Held = append(holdsOf(more), heldBy(1, n-len(holdsOf(more)))...)
		return d
	}
	for _, c := range []struct {
		name  string
		d     impl.Db
		steps []string
		held  string
	}{
		{"97, and two more", of(97, ""), []string{"2 get a > ok 1", "2 get a > full", "2 scan > full", "2 get b > full"}, "2..IS 2.a.S"},
		{"97, and the table", of(97, ""), []string{"2 scan > ok a=1 h1=5", "2 get a > ok 1", "2 get a > full"}, "2..S 2.a.S"},
		{"97, and two more by a put", of(97, ""), []string{"2 put a 2 > ok", "2 put a 2 > full", "2 drop a > full"}, "2..IX 2.a.X"},
		{"98, and what it got stays", of(98, ""), []string{"2 get a > full"}, "2..IS"},
		{"98, and what it got stays, by a put", of(98, ""), []string{"2 put a 2 > full"}, "2..IX"},
		{"98, and what it got stays, by a drop", of(98, ""), []string{"2 drop a > full"}, "2..IX"},
		{"98, and one more", of(98, ""), []string{"2 scan > ok a=1 h1=5", "2 scan > full"}, "2..S"},
		{"98, the table held already", of(98, "1..IS"), []string{"1 get a > ok 1"}, "1.a.S"},
		{"98, both held already", of(98, "1..IS"), []string{"1 get h1 > ok 5", "1 get h1 > ok 5", "1 scan h1 > ok h1=5"}, ""},
		{"99", of(99, ""), []string{"2 get a > full", "2 put a 1 > full", "2 drop a > full", "2 drop zz > full", "2 scan > full", "2 get h1 > full"}, ""},
		{"99, both held already", of(99, "1..IS"), []string{"1 get h1 > full", "1 scan > full", "1 put h1 1 > full"}, ""},
		{"100", of(100, ""), []string{"2 get a > full", "2 put a 1 > full", "2 drop a > full", "2 scan > full", "1 get h1 > full"}, ""},
		{"100, and the others", of(100, ""), []string{"3 begin > ok", "3 commit > ok", "2 get toolong > form", "4 get a > form"}, ""},
	} {
		d := behind(t, c.name, c.d, c.steps...)
		want := append(slices.Clone(c.d.Locks.Held), holdsOf(c.held)...)
		got := slices.Clone(d.Locks.Held)
		// A table lock that was held in a lesser mode stays where it was.
		if len(got) != len(want) || !slices.Equal(got[1:], want[1:]) || len(d.Locks.Line) != 0 {
			t.Error(c.name, got)
		}
	}
	d := behind(t, "99, and the end of it", of(99, "2..IS"), "1 commit > ok", "2 get a > ok 1")
	checkDb(t, "99, and the end of it", d, dbOf("a:1 h1:5", "2..IS 2.a.S", "", "2", 2))
	behind(t, "98, and it waits", of(98, "1..S"), "2 put a 1 > wait")
	dying := impl.Db{Locks: impl.Locks{Held: append(holdsOf("2.b.X 1..IS"), heldBy(1, 95)...), Line: holdsOf("1.b.S")}, Txns: txnsOf("1 ? get b; 2"), Last: 2}
	behind(t, "97, and it is dead", dying, "2 drop h1 > dead; 1 get none")
}

func TestTheLimitOfLocksOfOneThatIsWoken(t *testing.T) {
	of := func(n int) impl.Db {
		held := append(holdsOf("2.b.X 1..IS"), heldBy(1, n-2)...)
		return impl.Db{Locks: impl.Locks{Held: held, Line: holdsOf("1.b.S")}, Txns: txnsOf("1 ? get b; 2 b:3"), Last: 2}
	}
	behind(t, "98", of(98), "2 commit > ok; 1 get ok 3")
	d := behind(t, "99", of(99), "2 commit > ok; 1 get full", "1 get b > full")
	if n := len(d.Locks.Held); n != 99 || d.Locks.Held[98] != holdsOf("1.b.S")[0] || d.Txns[0].Wait != (impl.Req{}) {
		t.Error(d)
	}
	behind(t, "100", of(100), "2 abort > ok; 1 get full", "1 commit > ok")
}

// TestMoreThan100AreHeld holds to the words of Free, which have no limit: what
// comes of it is not right, and the next request is told nothing.
func TestMoreThan100AreHeld(t *testing.T) {
	d := dbOf("b:1", "2.b.X", "3.b.S 4.b.S 5.b.S", "1; 2; 3 ? get b; 4 ? get b; 5 ? put b 9", 5)
	d.Locks.Held = append(d.Locks.Held, heldBy(1, 98)...)
	n, told := impl.TxnDo(d, reqOf("2 abort"))
	if toldText(told) != "2 abort ok; 3 get full; 4 get full; 5 put full" || len(n.Locks.Held) != 101 || impl.DbOk(n) {
		t.Error(n, told)
	}
	if n, told := impl.TxnDo(n, reqOf("1 abort")); len(told) != 0 || shown(n) != shown(impl.Db{}) {
		t.Error(n, told)
	}
}

func TestLocksOfEachKind(t *testing.T) {
	for _, c := range []struct {
		name     string
		ahead    string // what 1 has done
		ask      string
		told     string
		has      string // what 2 has then, of locks
		waitsFor string // and where it stands
	}{
		{"get, and nothing", "commit", "get a", "ok 1", "2..IS 2.a.S", ""},
		{"put, and nothing", "commit", "put a 2", "ok", "2..IX 2.a.X", ""},
		{"drop, and nothing", "commit", "drop a", "ok", "2..IX 2.a.X", ""},
		{"drop of nothing", "commit", "drop z", "none", "2..IX 2.z.X", ""},
		{"scan, and nothing", "commit", "scan", "ok a=1 b=2", "2..S", ""},
		{"scan of some, and nothing", "commit", "scan a b", "ok a=1", "2..S", ""},

		{"get, and get", "get a", "get a", "ok 1", "2..IS 2.a.S", ""},
		{"get, and put", "get a", "put a 2", "wait", "2..IX", "2.a.X"},
		{"get, and drop", "get a", "drop a", "wait", "2..IX", "2.a.X"},
		{"get, and put of another key", "get a", "put b 2", "ok", "2..IX 2.b.X", ""},
		{"get of nothing, and put of that", "get z", "put z 2", "wait", "2..IX", "2.z.X"},
		{"get, and scan", "get a", "scan", "ok a=1 b=2", "2..S", ""},

		{"put, and get", "put a 5", "get a", "wait", "2..IS", "2.a.S"},
		{"put, and get of another key", "put a 5", "get b", "ok 2", "2..IS 2.b.S", ""},
		{"put, and put", "put a 5", "put a 2", "wait", "2..IX", "2.a.X"},
		{"put, and drop", "put a 5", "drop a", "wait", "2..IX", "2.a.X"},
		{"put, and put of another key", "put a 5", "put b 2", "ok", "2..IX 2.b.X", ""},
		{"put, and scan", "put a 5", "scan", "wait", "", "2..S"},
		{"put, and scan of others", "put a 5", "scan b", "wait", "", "2..S"},
		{"drop, and get", "drop a", "get a", "wait", "2..IS", "2.a.S"},
		{"drop of nothing, and get of that", "drop z", "get z", "wait", "2..IS", "2.z.S"},
		{"drop, and scan", "drop a", "scan", "wait", "", "2..S"},

		{"scan, and get", "scan", "get a", "ok 1", "2..IS 2.a.S", ""},
		{"scan, and scan", "scan", "scan", "ok a=1 b=2", "2..S", ""},
		{"scan, and put", "scan", "put z 2", "wait", "", "2..IX"},
		{"scan of some, and put of another key", "scan a b", "put z 2", "wait", "", "2..IX"},
		{"scan, and drop", "scan", "drop a", "wait", "", "2..IX"},
	} {
		d := dbOf("a:1 b:2", "", "", "1; 2", 2)
		d, _ = impl.TxnDo(d, reqOf("1 "+c.ahead))
		held := d.Locks.Held
		d = behind(t, c.name, d, "2 "+c.ask+" > "+c.told)
		if want := append(slices.Clone(held), holdsOf(c.has)...); !slices.Equal(d.Locks.Held, want) || !slices.Equal(d.Locks.Line, holdsOf(c.waitsFor)) {
			t.Error(c.name, d.Locks)
		}
		if wait := d.Txns[len(d.Txns)-1].Wait; c.waitsFor != "" && wait != reqOf("2 "+c.ask) || c.waitsFor == "" && wait != (impl.Req{}) {
			t.Error(c.name, wait)
		}
	}
}

func TestWhoWaitsAndWhoIsWoken(t *testing.T) {
	const start = "a:1 b:2 c:3"
	for _, c := range []struct {
		name  string
		steps []string
		then  impl.Db
	}{
		{"it waits for its first lock", []string{"1 scan > ok a=1 b=2 c=3", "2 put a 9 > wait", "2 put a 9 > form", "2 commit > form", "2 abort > form", "2 begin > form", "1 commit > ok; 2 put ok"},
			dbOf(start, "2..IX 2.a.X", "", "2 a:9; 3; 4", 4)},
		{"it waits for its second lock", []string{"1 put a 9 > ok", "2 get a > wait", "1 put b 8 > ok", "1 commit > ok; 2 get ok 9"},
			dbOf("a:9 b:8 c:3", "2..IS 2.a.S", "", "2; 3; 4", 4)},
		{"nothing comes of what was aborted", []string{"1 put a 9 > ok", "2 get a > wait", "1 abort > ok; 2 get ok 1"},
			dbOf(start, "2..IS 2.a.S", "", "2; 3; 4", 4)},
		{"there is no more what it waited for", []string{"1 drop a > ok", "2 get a > wait", "1 commit > ok; 2 get none"},
			dbOf("b:2 c:3", "2..IS 2.a.S", "", "2; 3; 4", 4)},
		{"nor what it would drop", []string{"1 drop a > ok", "2 drop a > wait", "1 commit > ok; 2 drop none"},
			dbOf("b:2 c:3", "2..IX 2.a.X", "", "2; 3; 4", 4)},
		{"there is what it would drop", []string{"1 put z 9 > ok", "2 drop z > wait", "1 commit > ok; 2 drop ok"},
			dbOf("a:1 b:2 c:3 z:9", "2..IX 2.z.X", "", "2 -z; 3; 4", 4)},
		{"it scans what was committed", []string{"1 put z 9 > ok", "2 put y 8 > ok", "3 scan b > wait", "1 commit > ok", "2 commit > ok; 3 scan ok b=2 c=3 y=8 z=9"},
			dbOf("a:1 b:2 c:3 y:8 z:9", "3..S", "", "3; 4", 4)},
		{"it holds less than it wants", []string{"1 get a > ok 1", "2 get a > ok 1", "1 put a 9 > wait", "2 commit > ok; 1 put ok"},
			dbOf(start, "1..IX 1.a.X", "", "1 a:9; 3; 4", 4)},
		{"it holds less, and goes ahead of the line", []string{"1 get a > ok 1", "2 get a > ok 1", "3 put a 7 > wait", "1 put a 9 > wait", "2 commit > ok; 1 put ok", "1 commit > ok; 3 put ok"},
			dbOf("a:9 b:2 c:3", "3..IX 3.a.X", "", "3 a:7; 4", 4)},
		{"it holds less of the table", []string{"1 get a > ok 1", "2 scan > ok a=1 b=2 c=3", "1 put b 9 > wait", "2 abort > ok; 1 put ok"},
			dbOf(start, "1..IX 1.a.S 1.b.X", "", "1 b:9; 3; 4", 4)},
		{"it has scanned, and would put", []string{"1 scan - b > ok a=1", "2 get b > ok 2", "1 put c 9 > wait", "2 commit > ok; 1 put ok"},
			dbOf(start, "1..X 1.c.X", "", "1 c:9; 3; 4", 4)},
		{"it has put, and would scan", []string{"1 put c 9 > ok", "2 get b > ok 2", "1 scan > wait", "2 commit > ok; 1 scan ok a=1 b=2 c=9"},
			dbOf(start, "1..X 1.c.X", "", "1 c:9; 3; 4", 4)},

		{"it waits again, for its next lock", []string{"1 scan > ok a=1 b=2 c=3", "2 get a > ok 1", "3 put a 9 > wait", "1 commit > ok; 3 put wait", "3 get b > form", "2 commit > ok; 3 put ok"},
			dbOf(start, "3..IX 3.a.X", "", "3 a:9; 4", 4)},
		{"it waits again, and stands behind", []string{"1 scan > ok a=1 b=2 c=3", "2 get a > ok 1", "3 put a 9 > wait", "4 put a 8 > wait", "1 commit > ok; 3 put wait; 4 put wait"},
			dbOf(start, "2..IS 2.a.S 3..IX 4..IX", "3.a.X 4.a.X", "2; 3 ? put a 9; 4 ? put a 8", 4)},
		{"it waits again, for one that was woken ahead of it", []string{"1 scan > ok a=1 b=2 c=3", "3 put a 9 > wait", "2 get a > wait", "1 commit > ok; 3 put ok; 2 get wait", "3 commit > ok; 2 get ok 9"},
			dbOf("a:9 b:2 c:3", "2..IS 2.a.S", "", "2; 4", 4)},

		{"more than one", []string{"1 put a 9 > ok", "3 get a > wait", "2 get a > wait", "1 commit > ok; 3 get ok 9; 2 get ok 9"},
			dbOf("a:9 b:2 c:3", "3..IS 2..IS 3.a.S 2.a.S", "", "2; 3; 4", 4)},
		{"more than one, of more than one key", []string{"1 put a 9 > ok", "1 put b 8 > ok", "4 get b > wait", "2 get a > wait", "3 get b > wait", "1 abort > ok; 4 get ok 2; 2 get ok 1; 3 get ok 2"},
			dbOf(start, "4..IS 2..IS 3..IS 4.b.S 2.a.S 3.b.S", "", "2; 3; 4", 4)},
		{"the first one of the line keeps the others out", []string{"1 put a 9 > ok", "2 put a 8 > wait", "3 get a > wait", "4 get a > wait", "1 commit > ok; 2 put ok", "2 commit > ok; 3 get ok 8; 4 get ok 8"},
			dbOf("a:8 b:2 c:3", "3..IS 4..IS 3.a.S 4.a.S", "", "3; 4", 4)},
		{"who asks waits for those that stand in the line", []string{"1 get a > ok 1", "2 put a 8 > wait", "3 get a > wait", "1 commit > ok; 2 put ok", "2 abort > ok; 3 get ok 1"},
			dbOf(start, "3..IS 3.a.S", "", "3; 4", 4)},

		{"it would wait for itself", []string{"1 put a 9 > ok", "2 put b 8 > ok", "1 put b 7 > wait", "2 put a 6 > dead; 1 put ok", "2 get a > form", "2 begin > form", "1 commit > ok"},
			dbOf("a:9 b:7 c:3", "", "", "3; 4", 4)},
		{"both hold less than they want", []string{"1 get a > ok 1", "2 get a > ok 1", "1 put a 7 > wait", "2 put a 6 > dead; 1 put ok"},
			dbOf(start, "1..IX 1.a.X", "", "1 a:7; 3; 4", 4)},
		{"both have scanned", []string{"1 scan a b > ok a=1", "2 scan b c > ok b=2", "1 put a 7 > wait", "2 put b 6 > dead; 1 put ok"},
			dbOf(start, "1..X 1.a.X", "", "1 a:7; 3; 4", 4)},
		{"one of three, and two are woken", []string{"1 put a 9 > ok", "2 put b 8 > ok", "3 get b > wait", "1 get b > wait", "2 put a 6 > dead; 3 get ok 2; 1 get ok 2"},
			dbOf(start, "1..IX 1.a.X 3..IS 3.b.S 1.b.S", "", "1 a:9; 3; 4", 4)},
		{"it would wait for itself, and nobody is woken", []string{"1 put a 9 > ok", "2 put b 8 > ok", "3 put c 7 > ok", "1 put b 6 > wait", "4 get b > wait", "2 put c 5 > wait", "3 put a 5 > dead; 2 put ok"},
			dbOf(start, "1..IX 1.a.X 2..IX 2.b.X 4..IS 2.c.X", "1.b.X 4.b.S", "1 a:9 ? put b 6; 2 b:8 c:5; 4 ? get b", 4)},

		{"woken, it would wait for itself, and wakes another one", []string{"1 scan > ok a=1 b=2 c=3", "2 get a > ok 1", "3 get b > ok 2", "2 put b 8 > wait", "3 put a 9 > wait", "1 commit > ok; 2 put wait; 3 put dead; 2 put ok"},
			dbOf(start, "2..IX 2.a.S 2.b.X", "", "2 b:8; 4", 4)},
		{"whom it wakes stands behind", []string{"1 scan > ok a=1 b=2 c=3", "2 get a > ok 1", "3 get b > ok 2", "2 put b 8 > wait", "3 put a 9 > wait", "4 put c 7 > wait", "1 abort > ok; 2 put wait; 3 put dead; 4 put ok; 2 put ok"},
			dbOf(start, "2..IX 2.a.S 4..IX 2.b.X 4.c.X", "", "2 b:8; 4 c:7", 4)},
	} {
		d := behind(t, c.name, dbOf(start, "", "", "1; 2; 3; 4", 4), c.steps...)
		checkDb(t, c.name, d, c.then)
	}
}

// TestDbsThatNoRequestComesTo begins with lines in which those that wait do not
// stand for what they have asked for.
func TestDbsThatNoRequestComesTo(t *testing.T) {
	for _, c := range []struct {
		name string
		d    impl.Db
		step string
		then impl.Db
	}{
		{"it stands for another key", dbOf("a:1", "1.k.X", "2.k.S", "1; 2 ? get a", 2), "1 abort > ok; 2 get ok 1",
			dbOf("a:1", "2.k.S 2..IS 2.a.S", "", "2", 2)},
		{"once more for the same", dbOf("a:1", "1.a.X", "2.a.IS 3.a.IS", "1; 2 ? put a 5; 3 ? get a", 3), "1 abort > ok; 2 put wait; 3 get ok 1",
			dbOf("a:1", "2.a.IS 3.a.S 2..IX 3..IS", "2.a.X", "2 ? put a 5; 3", 3)},
		{"once more for the same, and then for the next", dbOf("a:1", "1..X", "2..IS 3..IX", "1; 2 ? scan; 3 ? put a 4", 3), "1 commit > ok; 2 scan wait; 3 put ok",
			dbOf("a:1", "2..IS 3..IX 3.a.X", "2..S", "2 ? scan; 3 a:4", 3)},
		{"once more, and it would wait for itself", dbOf("a:1", "1.k.X 2.b.X 3..IX", "2.k.S 3.b.S", "1; 2 b:6 ? scan; 3 ? get b", 3), "1 commit > ok; 2 scan dead; 3 get none",
			dbOf("a:1", "3..IX 3.b.S", "", "3", 3)},
		{"nobody keeps it out, and nothing is done", dbOf("a:1", "", "2.a.S", "1; 2 ? get a", 2), "1 get b > none",
			dbOf("a:1", "1..IS 1.b.S", "2.a.S", "1; 2 ? get a", 2)},
		{"nobody keeps it out, and one ends", dbOf("a:1", "", "2.a.S", "1; 2 ? get a", 2), "1 commit > ok; 2 get ok 1",
			dbOf("a:1", "2.a.S 2..IS", "", "2", 2)},
		{"its writes are full", impl.Db{Map: pairsOf("a:1"), Locks: locksOf("1.a.X 2..IX", "2.a.X"), Txns: []impl.Txn{{Id: 1}, {Id: 2, Writes: manyChanges(60), Wait: reqOf("2 drop a")}}, Last: 2}, "1 commit > ok; 2 drop full",
			impl.Db{Map: pairsOf("a:1"), Locks: locksOf("2..IX 2.a.X", ""), Txns: []impl.Txn{{Id: 2, Writes: manyChanges(60)}}, Last: 2}},
		{"whom it wakes stands behind, and waits again", dbOf("a:1", "1.k.X 1.m.X 2.a.S 3.b.S 4.c.S", "2.k.S 3.m.S 4.a.X", "1; 2 ? put c 2; 3 ? scan; 4 ? put a 4", 4), "1 commit > ok; 2 put dead; 3 scan ok a=1; 4 put wait",
			dbOf("a:1", "3.b.S 4.c.S 3.m.S 4.a.X 3..S", "4..IX", "3; 4 ? put a 4", 4)},
	} {
		checkDb(t, c.name, behind(t, c.name, c.d, c.step), c.then)
	}
}

// reader remembers what transactions were told, as long as that holds.
type reader map[int64]map[impl.Req]impl.Told

// note takes in what one request, and whatever it woke, was told.
func (r reader) note(d impl.Db, q impl.Req, told []impl.Told) {
	for i, x := range told {
		if i > 0 {
			q = d.Txns[slices.IndexFunc(d.Txns, func(y impl.Txn) bool { return y.Id == x.Txn })].Wait
		}
		switch {
		case x.Kind == impl.TqBegin && x.Code == impl.TcOk:
			r[x.Txn] = map[impl.Req]impl.Told{}
		case x.Code == impl.TcDead || x.Code == impl.TcOk && x.Kind >= impl.TqCommit:
			delete(r, x.Txn)
		case x.Code == impl.TcOk && (x.Kind == impl.TqPut || x.Kind == impl.TqDrop):
			r.wrote(q)
		case x.Code == impl.TcOk || x.Code == impl.TcNone:
			if x.Kind == impl.TqDrop {
				q, x.Kind = impl.Req{Txn: q.Txn, Kind: impl.TqGet, Key: q.Key}, impl.TqGet
			}
			r[x.Txn][q] = x
		}
	}
}

// wrote forgets the scans, and knows what a get is told from then on.
func (r reader) wrote(q impl.Req) {
	for old := range r[q.Txn] {
		if old.Kind == impl.TqScan {
			delete(r[q.Txn], old)
		}
	}
	get := impl.Req{Txn: q.Txn, Kind: impl.TqGet, Key: q.Key}
	r[q.Txn][get] = impl.Told{Txn: q.Txn, Kind: impl.TqGet, Val: q.Val}
	if q.Kind == impl.TqDrop {
		r[q.Txn][get] = impl.Told{Txn: q.Txn, Kind: impl.TqGet, Code: impl.TcNone}
	}
}

// askAgain asks for all of it once more, beside the history.
func (r reader) askAgain(t *testing.T, d impl.Db) int {
	t.Helper()
	asked := 0
	for _, x := range d.Txns {
		if x.Wait != (impl.Req{}) {
			continue
		}
		for q, want := range r[x.Id] {
			asked++
			if _, told := impl.TxnDo(d, q); !slices.Equal(told, []impl.Told{want}) {
				t.Fatal(d, q, told, want)
			}
		}
	}
	return asked
}

func TestPromise6(t *testing.T) {
	r := rand.New(rand.NewSource(6))
	asked, commits := 0, 0
	for range 150 {
		d, reads := impl.Db{Map: somePairs(r)}, reader{}
		for range 100 {
			q := someReqIn(r, d)
			n, told := impl.TxnDo(d, q)
			commit := q.Kind == impl.TqCommit && told[0].Code == impl.TcOk
			if commit {
				commits++
				if !slices.Equal(n.Map, impl.Seen(d, q.Txn)) {
					t.Fatal(d, q, n.Map)
				}
			} else if !slices.Equal(n.Map, d.Map) {
				t.Fatal(d, q, "changes the map", n.Map)
			}
			for _, x := range n.Txns {
				mine := slices.ContainsFunc(told, func(y impl.Told) bool { return y.Txn == x.Id })
				if !commit && !mine && !slices.Equal(impl.Seen(n, x.Id), impl.Seen(d, x.Id)) {
					t.Fatal(d, q, x.Id, "sees", impl.Seen(n, x.Id))
				}
			}
			reads.note(d, q, told)
			asked += reads.askAgain(t, n)
			d = n
		}
	}
	if asked < 5000 || commits < 500 {
		t.Error(asked, commits)
	}
}
