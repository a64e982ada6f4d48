package tests

import (
	"maps"
	"math/rand"
	"slices"
	"strings"
	"testing"

	"loop.example/g00573/impl"
)

// dbModel is a database of built-in maps on a lockModel, a second way to work
// out what chapter 6 says.
type dbModel struct {
	pairs  map[string]string
	locks  *lockModel
	writes map[int64]map[string]impl.Change
	waits  map[int64]impl.Req
	last   int64
	told   []impl.Told
}

func dbModelOf(d impl.Db) *dbModel {
	m := &dbModel{pairs: map[string]string{}, locks: lockModelOf(d.Locks), writes: map[int64]map[string]impl.Change{}, waits: map[int64]impl.Req{}, last: d.Last}
	for _, p := range d.Map {
		m.pairs[p.Key] = p.Val
	}
	for _, x := range d.Txns {
		m.writes[x.Id] = map[string]impl.Change{}
		for _, c := range x.Writes {
			m.writes[x.Id][c.Key] = c
		}
		if x.Wait.Kind != 0 {
			m.waits[x.Id] = x.Wait
		}
	}
	return m
}

func (m *dbModel) db() impl.Db {
	d := impl.Db{Map: pairsFrom(m.pairs), Locks: m.locks.locks(), Last: m.last}
	for _, id := range slices.Sorted(maps.Keys(m.writes)) {
		x := impl.Txn{Id: id, Wait: m.waits[id]}
		for _, k := range slices.Sorted(maps.Keys(m.writes[id])) {
			x.Writes = append(x.Writes, m.writes[id][k])
		}
		d.Txns = append(d.Txns, x)
	}
	return d
}

func pairsFrom(of map[string]string) []impl.Pair {
	var l []impl.Pair
	for _, k := range slices.Sorted(maps.Keys(of)) {
		l = append(l, impl.Pair{Key: k, Val: of[k]})
	}
	return l
}

func (m *dbModel) sees(id int64) map[string]string {
	seen := maps.Clone(m.pairs)
	for k, c := range m.writes[id] {
		delete(seen, k)
		if !c.Gone {
			seen[k] = c.Val
		}
	}
	return seen
}

func wellFormed(q impl.Req) bool {
	key, val := impl.KeyOk(q.Key), impl.KeyOk(q.Val)
	noKey, noVal := q.Key == "", q.Val == ""
	switch kindNames[max(0, min(q.Kind, 8))] {
	case "begin", "commit", "abort":
		return noKey && noVal
	case "get", "drop":
		return key && noVal
	case "put":
		return key && val
	case "scan":
		return (key || noKey) && (val || noVal)
	}
	return false
}

// do tells what comes of q and of all that it wakes.
func (m *dbModel) do(q impl.Req) {
	for queue := []impl.Req{q}; len(queue) > 0; queue = queue[1:] {
		q := queue[0]
		code, val, woken := m.one(q)
		m.told = append(m.told, impl.Told{Txn: q.Txn, Kind: q.Kind, Code: code, Val: val})
		for _, id := range woken {
			queue = append(queue, m.waits[id])
			delete(m.waits, id)
		}
	}
}

func (m *dbModel) one(q impl.Req) (int64, string, []int64) {
	_, there := m.writes[q.Txn]
	_, waits := m.waits[q.Txn]
	switch {
	case !wellFormed(q), q.Kind != impl.TqBegin && (!there || waits):
		return impl.TcForm, "", nil
	case q.Kind == impl.TqBegin:
		return m.begin(q.Txn), "", nil
	case q.Kind == impl.TqCommit:
		seen := m.sees(q.Txn)
		if len(seen) > 60 {
			return impl.TcFull, "", nil
		}
		m.pairs = seen
		return impl.TcOk, "", m.gone(q.Txn)
	case q.Kind == impl.TqAbort:
		return impl.TcOk, "", m.gone(q.Txn)
	}
	code := m.ask(q)
	switch code {
	case impl.TcDead:
		return code, "", m.gone(q.Txn)
	case impl.TcWait:
		m.waits[q.Txn] = q
		return code, "", nil
	case impl.TcFull:
		return code, "", nil
	}
	code, val := m.reach(q)
	return code, val, nil
}

func (m *dbModel) begin(id int64) int64 {
	if id <= m.last || id > 1000 {
		return impl.TcForm
	}
	if len(m.writes) == 6 {
		return impl.TcFull
	}
	m.last = id
	m.writes[id] = map[string]impl.Change{}
	return impl.TcOk
}

func (m *dbModel) gone(id int64) []int64 {
	delete(m.writes, id)
	return m.locks.free(id)
}

func (m *dbModel) ask(q impl.Req) int64 {
	table := map[int64]int64{impl.TqGet: impl.LkIS, impl.TqPut: impl.LkIX, impl.TqDrop: impl.LkIX, impl.TqScan: impl.LkS}
	key := map[int64]int64{impl.TqGet: impl.LkS, impl.TqPut: impl.LkX, impl.TqDrop: impl.LkX}
	asked := []impl.Hold{{Txn: q.Txn, Mode: table[q.Kind]}}
	if key[q.Kind] > 0 {
		asked = append(asked, impl.Hold{Txn: q.Txn, Key: q.Key, Mode: key[q.Kind]})
	}
	for _, x := range asked {
		if len(m.locks.order) > 98 {
			return impl.TcFull
		}
		switch m.locks.ask(x) {
		case impl.LkWait:
			return impl.TcWait
		case impl.LkDead:
			return impl.TcDead
		}
	}
	return impl.TcOk
}

func (m *dbModel) reach(q impl.Req) (int64, string) {
	seen := m.sees(q.Txn)
	val, there := seen[q.Key]
	switch q.Kind {
	case impl.TqScan:
		maps.DeleteFunc(seen, func(k string, v string) bool { return k < q.Key || q.Val != "" && k >= q.Val })
		var words []string
		for _, p := range pairsFrom(seen) {
			words = append(words, p.Key+"="+p.Val)
		}
		return impl.TcOk, strings.Join(words, " ")
	case impl.TqGet:
		if !there {
			return impl.TcNone, ""
		}
		return impl.TcOk, val
	case impl.TqDrop:
		if !there {
			return impl.TcNone, ""
		}
	}
	_, again := m.writes[q.Txn][q.Key]
	if !again && len(m.writes[q.Txn]) == 60 {
		return impl.TcFull, ""
	}
	m.writes[q.Txn][q.Key] = impl.Change{Key: q.Key, Val: q.Val, Gone: q.Kind == impl.TqDrop}
	return impl.TcOk, ""
}

// checkByModel does q both ways, and gives what it comes to.
func checkByModel(t *testing.T, d impl.Db, q impl.Req) (impl.Db, []impl.Told) {
	t.Helper()
	m := dbModelOf(d)
	m.do(q)
	n, told := impl.TxnDo(d, q)
	if !slices.Equal(told, m.told) || shown(n) != shown(m.db()) {
		t.Fatalf("%v of\n%v\nis\n%v %v, not\n%v %v", q, d, n, told, m.db(), m.told)
	}
	return n, told
}

var modelKeys = []string{"", "a", "b", "c"}

func someKey(r *rand.Rand) string { return modelKeys[1+r.Intn(3)] }

// someWait is a request for which a transaction may wait.
func someWait(r *rand.Rand, txn int64) impl.Req {
	q := impl.Req{Txn: txn, Kind: impl.TqGet + r.Int63n(4)}
	switch q.Kind {
	case impl.TqPut:
		q.Key, q.Val = someKey(r), someKey(r)
	case impl.TqScan:
		q.Key, q.Val = modelKeys[r.Intn(4)], modelKeys[r.Intn(4)]
	default:
		q.Key = someKey(r)
	}
	return q
}

// someReq is right, most often, and by one of the first txns.
func someReq(r *rand.Rand, txns int64) impl.Req {
	txn := 1 + r.Int63n(txns)
	switch r.Intn(30) {
	case 0:
		return impl.Req{Txn: r.Int63n(txns + 3), Kind: r.Int63n(9), Key: modelKeys[r.Intn(4)], Val: modelKeys[r.Intn(4)]}
	case 1, 2:
		return impl.Req{Txn: txn, Kind: impl.TqAbort}
	case 3, 4, 5, 6:
		return impl.Req{Txn: txn, Kind: impl.TqCommit}
	}
	return someWait(r, txn)
}

func somePairs(r *rand.Rand) []impl.Pair {
	var l []impl.Pair
	for _, k := range modelKeys[1:] {
		if r.Intn(2) == 0 {
			l = append(l, impl.Pair{Key: k, Val: someKey(r)})
		}
	}
	return l
}

// anyDb is right, but need not be what some TxnDo leads to.
func anyDb(r *rand.Rand) impl.Db {
	d := impl.Db{Map: somePairs(r), Locks: anyLocks(r), Last: 6 + r.Int63n(3)}
	for id := int64(1); id <= 6; id++ {
		x := impl.Txn{Id: id}
		waits := slices.ContainsFunc(d.Locks.Line, func(h impl.Hold) bool { return h.Txn == id })
		holds := slices.ContainsFunc(d.Locks.Held, func(h impl.Hold) bool { return h.Txn == id })
		if !waits && !holds && r.Intn(2) == 0 {
			continue
		}
		if waits {
			x.Wait = someWait(r, id)
		}
		for _, p := range somePairs(r) {
			c := impl.Change{Key: p.Key, Val: p.Val}
			if r.Intn(2) == 0 {
				c = impl.Change{Key: p.Key, Gone: true}
			}
			x.Writes = append(x.Writes, c)
		}
		d.Txns = append(d.Txns, x)
	}
	return d
}

func TestTxnDoOfAnyDb(t *testing.T) {
	r := rand.New(rand.NewSource(61))
	codes, longest := map[int64]int{}, 0
	for range 40000 {
		d := anyDb(r)
		if !impl.DbOk(d) {
			t.Fatal(d, "is right")
		}
		m := dbModelOf(d)
		for id := range int64(8) {
			want := map[string]string{}
			if m.writes[id] != nil {
				want = m.sees(id)
			}
			if got := impl.Seen(d, id); !slices.Equal(got, pairsFrom(want)) {
				t.Fatal(d, id, got)
			}
		}
		n, told := checkByModel(t, d, someReq(r, 6))
		if !impl.DbOk(n) {
			t.Fatal(d, n)
		}
		for _, x := range told[1:] {
			codes[x.Code]++
		}
		longest = max(longest, len(told))
	}
	for _, code := range []int64{impl.TcOk, impl.TcNone, impl.TcWait, impl.TcDead} {
		if codes[code] < 50 {
			t.Error("those that were woken were told", codeNames[code], codes[code], "times")
		}
	}
	if longest < 6 {
		t.Error("no request was told behind by more than", longest)
	}
}

// TestDbsOfAnyNumbers puts together databases that may be wrong in one way or
// more; DbOk is asked by another way through what makes them right.
func TestDbsOfAnyNumbers(t *testing.T) {
	r := rand.New(rand.NewSource(62))
	right := 0
	for range 60000 {
		d := anyDb(r)
		want := true
		for range r.Intn(2) {
			want = bend(r, &d) && want
		}
		if impl.DbOk(d) != want {
			t.Fatal(d, want)
		}
		if want {
			right++
		}
		if _, told := impl.TxnDo(d, someReq(r, 6)); (len(told) > 0) != want {
			t.Fatal(d, told)
		}
	}
	if right < 20000 || right > 50000 {
		t.Error(right)
	}
}

// bend changes one thing, and tells whether d is right then.
func bend(r *rand.Rand, d *impl.Db) bool {
	if len(d.Txns) == 0 {
		d.Last = r.Int63n(1003) - 1
		return d.Last >= 0 && d.Last <= 1000
	}
	i := r.Intn(len(d.Txns))
	x := &d.Txns[i]
	has := slices.ContainsFunc(slices.Concat(d.Locks.Held, d.Locks.Line), func(h impl.Hold) bool { return h.Txn == x.Id })
	switch r.Intn(5) {
	case 0:
		d.Txns = slices.Delete(d.Txns, i, i+1)
		return !has
	case 1:
		d.Last = d.Txns[len(d.Txns)-1].Id - r.Int63n(2)
		return d.Last == d.Txns[len(d.Txns)-1].Id
	case 2:
		waits := x.Wait.Kind > 0
		x.Wait = someReq(r, 6)
		return waits && wellFormed(x.Wait) && x.Wait.Txn == x.Id && x.Wait.Kind > 1 && x.Wait.Kind < 6
	case 3:
		waits := x.Wait.Kind > 0
		x.Wait = impl.Req{}
		return !waits
	}
	x.Writes = append(x.Writes, changesOf("b")...)
	return len(x.Writes) == 1 || x.Writes[len(x.Writes)-2].Key < "b"
}

// TestTxnDoOfLongHistories begins with a map alone, and has up to six by turns.
func TestTxnDoOfLongHistories(t *testing.T) {
	r := rand.New(rand.NewSource(63))
	for range 400 {
		d := impl.Db{Map: somePairs(r)}
		for range 100 {
			q := someReqIn(r, d)
			n, _ := checkByModel(t, d, q)
			checkLocks(t, n.Locks)
			d = n
		}
	}
}

// someReqIn is most often one that can be done.
func someReqIn(r *rand.Rand, d impl.Db) impl.Req {
	if len(d.Txns) == 0 || r.Intn(8) == 0 {
		return impl.Req{Txn: d.Last + 1 + r.Int63n(2), Kind: impl.TqBegin}
	}
	q := someReq(r, 1)
	if q.Kind != impl.TqBegin {
		q.Txn = d.Txns[r.Intn(len(d.Txns))].Id
	}
	return q
}
