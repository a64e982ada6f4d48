package tests

import (
	"fmt"
	"go/ast"
	"go/parser"
	"go/token"
	"maps"
	"math"
	"math/rand"
	"path/filepath"
	"reflect"
	"slices"
	"strconv"
	"strings"
	"testing"

	"loop.example/g00573/impl"
)

// everyFunction has all functions of all chapters.
func everyFunction() map[string]any {
	return map[string]any{
		"KeyOk": impl.KeyOk, "MapOk": impl.MapOk, "Get": impl.Get, "Put": impl.Put, "Drop": impl.Drop,
		"Range": impl.Range, "MapText": impl.MapText, "ReadMap": impl.ReadMap,
		"TreeOk": impl.TreeOk, "TreeOf": impl.TreeOf, "TreeMap": impl.TreeMap, "TreeGet": impl.TreeGet,
		"TreePut": impl.TreePut, "TreeDrop": impl.TreeDrop, "Height": impl.Height,
		"SumOf": impl.SumOf, "PageOk": impl.PageOk, "PageText": impl.PageText, "ReadPage": impl.ReadPage,
		"SuperText": impl.SuperText, "ReadSuper": impl.ReadSuper,
		"ShadowNew": impl.ShadowNew, "ShadowOk": impl.ShadowOk, "ShadowTree": impl.ShadowTree, "ShadowApply": impl.ShadowApply,
		"Fit": impl.Fit, "Both": impl.Both, "LocksOk": impl.LocksOk, "Ask": impl.Ask, "Free": impl.Free, "WaitsFor": impl.WaitsFor,
		"DbOk": impl.DbOk, "Seen": impl.Seen, "TxnDo": impl.TxnDo,
		"PlayAll": impl.PlayAll, "TurnsOf": impl.TurnsOf, "Committed": impl.Committed, "OneByOne": impl.OneByOne,
		"Seek": impl.Seek, "After": impl.After, "Before": impl.Before, "Rank": impl.Rank, "Nth": impl.Nth,
		"DeltaOk": impl.DeltaOk, "DeltaOf": impl.DeltaOf, "Changed": impl.Changed, "Joined": impl.Joined, "Merged": impl.Merged,
		"DiskOk": impl.DiskOk, "Do": impl.Do, "Sync": impl.Sync, "Crash": impl.Crash, "ReadFile": impl.ReadFile, "Replace": impl.Replace,
		"StoreShadow": impl.StoreShadow, "StoreView": impl.StoreView, "StoreDo": impl.StoreDo, "StorePlay": impl.StorePlay,
		"BitsOk": impl.BitsOk, "BitsOf": impl.BitsOf, "Take": impl.Take, "Give": impl.Give, "Count": impl.Count, "Packed": impl.Packed,
		"SnapsNew": impl.SnapsNew, "SnapsOk": impl.SnapsOk, "SnapTake": impl.SnapTake, "SnapDrop": impl.SnapDrop,
		"SnapApply": impl.SnapApply, "SnapBack": impl.SnapBack, "SnapView": impl.SnapView,
		"ScanUp": impl.ScanUp, "ScanDown": impl.ScanDown, "CountIn": impl.CountIn, "FirstUnlike": impl.FirstUnlike,
		"RunScript": impl.RunScript,
	}
}

func TestNoFunctionIsLeftOut(t *testing.T) {
	var declared, looked []string
	files, _ := filepath.Glob(filepath.Join("..", "impl", "*.go"))
	for _, name := range files {
		f, err := parser.ParseFile(token.NewFileSet(), name, nil, 0)
		if err != nil {
			t.Fatal(err)
		}
		for _, d := range f.Decls {
			if f, ok := d.(*ast.FuncDecl); ok && f.Recv == nil && f.Name.IsExported() {
				declared = append(declared, f.Name.Name)
			}
		}
	}
	for name := range everyFunction() {
		looked = append(looked, name)
	}
	slices.Sort(declared)
	slices.Sort(looked)
	if !slices.Equal(declared, looked) {
		t.Error(declared, looked)
	}
}

// roomy is v in new memory, with some room behind each list, in which there is
// something.
func roomy(v reflect.Value) reflect.Value {
	c := reflect.New(v.Type()).Elem()
	switch v.Kind() {
	case reflect.Slice:
		n := v.Len()
		c.Set(reflect.MakeSlice(v.Type(), n+3, n+3))
		for i := range n {
			c.Index(i).Set(roomy(v.Index(i)))
		}
		for i := n; i < n+3; i++ {
			mark(c.Index(i))
		}
		c.SetLen(n)
	case reflect.Struct:
		for i := range v.NumField() {
			c.Field(i).Set(roomy(v.Field(i)))
		}
	default:
		c.Set(v)
	}
	return c
}

// mark writes over all that v has.
func mark(v reflect.Value) {
	switch v.Kind() {
	case reflect.Slice:
		if v.Len() == 0 {
			v.Set(reflect.MakeSlice(v.Type(), 2, 2))
		}
		for i := range v.Len() {
			mark(v.Index(i))
		}
	case reflect.Struct:
		for i := range v.NumField() {
			mark(v.Field(i))
		}
	case reflect.Int64:
		v.SetInt(77)
	case reflect.String:
		v.SetString("mark")
	case reflect.Bool:
		v.SetBool(true)
	default:
		panic("no mark for " + v.Kind().String())
	}
}

// scribble writes over all that the lists in v have.
func scribble(v reflect.Value) {
	switch v.Kind() {
	case reflect.Slice:
		for i := range v.Len() {
			scribble(v.Index(i))
			mark(v.Index(i))
		}
	case reflect.Struct:
		for i := range v.NumField() {
			scribble(v.Field(i))
		}
	}
}

// written writes all that v has, and, where that is asked for, what is in the
// room behind each list. Nil is written as an empty list.
func written(v reflect.Value, room bool) string {
	var to strings.Builder
	write(&to, v, room)
	return to.String()
}

func write(to *strings.Builder, v reflect.Value, room bool) {
	switch v.Kind() {
	case reflect.Slice:
		to.WriteString(strconv.Itoa(v.Len()) + "[")
		if room {
			v = v.Slice(0, v.Cap())
		}
		for i := range v.Len() {
			write(to, v.Index(i), room)
		}
		to.WriteString("]")
	case reflect.Struct:
		to.WriteString("{")
		for i := range v.NumField() {
			write(to, v.Field(i), room)
		}
		to.WriteString("}")
	case reflect.String:
		to.WriteString(strconv.Quote(v.String()))
	default:
		fmt.Fprint(to, v.Interface(), ",")
	}
}

func writtenAll(l []reflect.Value, room bool) string {
	s := ""
	for _, v := range l {
		s += written(v, room) + "\n"
	}
	return s
}

// shown writes a value, so that two are alike just when their texts are.
func shown(v any) string { return written(reflect.ValueOf(v), false) }

// stretch is where the memory of one list is, with the room behind it.
type stretch struct{ from, to uintptr }

func stretches(l []reflect.Value) []stretch {
	var found []stretch
	var look func(v reflect.Value)
	look = func(v reflect.Value) {
		switch v.Kind() {
		case reflect.Slice:
			if v.Cap() > 0 {
				from := v.Pointer()
				found = append(found, stretch{from, from + uintptr(v.Cap())*v.Type().Elem().Size()})
			}
			for i := range v.Len() {
				look(v.Index(i))
			}
		case reflect.Struct:
			for i := range v.NumField() {
				look(v.Field(i))
			}
		}
	}
	for _, v := range l {
		look(v)
	}
	return found
}

func anyShared(a []stretch, b []stretch) bool {
	for _, x := range a {
		for _, y := range b {
			if x.from < y.to && y.from < x.to {
				return true
			}
		}
	}
	return false
}

func anySharedAmong(a []stretch) bool {
	for i := range a {
		if anyShared(a[:i], a[i:i+1]) {
			return true
		}
	}
	return false
}

// checkCall calls f twice, and looks at what the conventions say of every
// function.
func checkCall(t *testing.T, name string, f reflect.Value, args []reflect.Value) {
	t.Helper()
	given := make([]reflect.Value, len(args))
	for i, a := range args {
		given[i] = roomy(a)
	}
	before := writtenAll(given, true)
	out := f.Call(given)
	first := writtenAll(out, false)
	if writtenAll(given, true) != before {
		t.Fatal(name, "writes into an argument:", before)
	}
	memory := stretches(out)
	if anyShared(memory, stretches(given)) {
		t.Fatal(name, "answers with an argument's memory:", before)
	}
	if anySharedAmong(memory) {
		t.Fatal(name, "has two lists of one memory:", before)
	}
	checkRefusal(t, name, out)
	for _, v := range out {
		scribble(v)
	}
	if again := writtenAll(f.Call(given), false); again != first {
		t.Fatal(name, "answers another thing the second time:", before, first, again)
	}
}

// checkRefusal looks whether all is zero beside a last flag that is false.
func checkRefusal(t *testing.T, name string, out []reflect.Value) {
	t.Helper()
	last := len(out) - 1
	if out[last].Kind() != reflect.Bool || out[last].Bool() {
		return
	}
	for _, v := range out {
		if written(v, false) != written(reflect.Zero(v.Type()), false) {
			t.Fatal(name, "is false, and answers", written(v, false))
		}
	}
}

func someMaps() [][]impl.Pair {
	l := [][]impl.Pair{nil, pairsOf("a"), pairsOf("b", "d"), pairsOf("a", "b", "c", "d", "e", "h"), numbered(59), numbered(60)}
	for _, m := range wrongMaps() {
		l = append(l, m)
	}
	return l
}

func someTrees() [][]impl.Node {
	full, _ := impl.TreeOf(numbered(60))
	l := [][]impl.Node{
		full,
		treeFrom("()"),
		treeFrom("(a)"),
		treeFrom("(a b c d)"),
		treeFrom("((a b)(c d))"),
		treeFrom("((a b c)(d e)(f g h))"),
		treeFrom("((a b)(c d)(e f)(e1 e2 e3 h))"),
		treeFrom("(((a b)(c d))((e f)(g h)))"),
		treeFrom("(((a b)(c d)(e f))((g h)(i j)))"),
		treeFrom("(((a b)(c d))((e f)(g h)(i j)))"),
		treeFrom("((((a b)(c d))((e f)(g h)))(((i j)(k l))((m n)(o p))))"),
		wide(61),
		manyNodes(19),
	}
	for _, x := range wrongTrees() {
		if len(pairsIn(x)) < 1000 && len(x[0].Kids) < 1000 {
			l = append(l, x)
		}
	}
	return append(l, nil)
}

func someTexts() []string {
	return []string{
		"", "!", "a", "b", "bb", "c", "d", "e", "e5", "h", "k10", "k69", "~", "\xff", "too long a key",
		"a=1 b=2", "b=2 a=1",
		summed("page 7 leaf a=1 b=2"), summed("page 7 kids 9 8 10"), summed("page 7 leaf b=1 a=2"), summed("page 7 kids 7 8"),
		summed("super 3 5 9"), summed("super 3 9 9"), "page 7 leaf 0",
	}
}

func someScripts() []string {
	all := "1 begin\n2 begin\n1 put a 5\n2 get a\n1 put b 6\nwaits\n1 commit\n2 scan - z\n2 drop b\n2 commit\nshow\ntree\n"
	return []string{
		all, all + "fly away\n \n3 begin\n4 begin\n3 put a 1\n4 put b 1\n3 get b\n4 get a\n3 abort\n", all + "show", all + strings.Repeat(" ", 4000-len(all)-1) + "\n",
		"\n", " \n\n", "show\n", "show", "1 get a\n", "0 begin\n", "x get a\n", "1 get\n", "\t\r\n\xff\n", strings.Repeat("show\n", 40), strings.Repeat("show\n", 41), strings.Repeat(" ", 4000) + "\n",
	}
}

func somePages() []impl.Page {
	return slices.AppendSeq(slices.Collect(maps.Values(rightPages())), maps.Values(wrongPages()))
}

func someSupers() []impl.Super {
	return slices.Concat(rightSupers(), wrongSupers())
}

func someShadows() []impl.Shadow {
	return slices.AppendSeq(slices.Collect(maps.Values(rightShadows())), maps.Values(wrongShadows()))
}

func someChanges() [][]impl.Change {
	l := [][]impl.Change{
		nil,
		changesOf("a"), changesOf("e"), changesOf("zz"), changesOf("-a"), changesOf("-e"), changesOf("-zz"),
		changesOf("c:9", "cc", "ccc", "-d", "-a", "f:1"),
		changesOf("x", "-x"),
		changesOf(slices.Repeat([]string{"y"}, 30)...),
		changesOf(slices.Repeat([]string{"y"}, 31)...),
		changesOf("a", "too-long"),
		{{}},
	}
	l = slices.AppendSeq(l, maps.Values(rightDeltas()))
	return slices.AppendSeq(l, maps.Values(wrongDeltas()))
}

func someNumbers() []int64 {
	return []int64{0, 1, 2, 3, 4, 5, 6, 9, 501, 1000, 1001, -1, 1<<32 + 1, math.MaxInt64, math.MinInt64}
}

func someLocks() []impl.Locks {
	l := []impl.Locks{
		{Held: manyHeld(99), Line: manyWaiting(19)},
		locksOf("1.a.IS 2.a.S 2.b.X", "3.a.X 1.a.IX 4.b.S"),
		locksOf("1.a.X 2.c.S", "2.a.S 3.c.X"),
		locksOf("2.a.S 3.a.S", "2.a.X 1.a.X"),
		locksOf("1.a.X 1.b.X", "2.b.X 3.a.S 4.b.S 5.a.S 6.b.IS"),
	}
	l = slices.AppendSeq(l, maps.Values(rightLocks()))
	return slices.AppendSeq(l, maps.Values(wrongLocks()))
}

func someHolds() []impl.Hold {
	return append(holdsOf("0.a.S 1.a.IS 1.a.S 1.a.X 1.c.S 2.a.S 2.a.X 3.b.X 4..IX 5.a.IS 900.a.S 900.free.X 1000..IS 1001.a.S 4.a.0 4.a.5 4.toolong.S"), impl.Hold{})
}

func someDbs() []impl.Db {
	l := []impl.Db{
		dbOf("a:1 b:2", "1..S 2.a.S 2..IS 3.b.S 3..IS", "2..IX 3..IX 4..IX", "1; 2 ? put b 8; 3 ? put a 9; 4 ? put c 7", 4),
		dbOf("a:1 b:2", "1..IX 1.a.X 2..IX 2.b.X 2.c.X 3..IS", "3.b.S", "1 a:5 d:6; 2 b:7 -c; 3 ? get b", 6),
		dbOf("a:1", "2.b.X", "3.b.S", "1; 2; 3 ? get b", 5),
		{Map: numbered(60), Txns: []impl.Txn{{Id: 1, Writes: manyChanges(60)}, {Id: 2, Writes: manyChanges(59)}}, Last: 2},
	}
	l[2].Locks.Held = append(l[2].Locks.Held, heldBy(1, 98)...)
	l = slices.AppendSeq(l, maps.Values(rightDbs()))
	return slices.AppendSeq(l, maps.Values(wrongDbs()))
}

func someHistories() [][]impl.Req {
	l := [][]impl.Req{
		nil,
		historyOf("1 begin; 2 begin; 1 put a 5; 2 get a; 1 commit; 2 put b 6; 2 scan; 2 commit; 3 begin; 3 drop zz; 3 abort"),
		historyOf("1 begin; 2 begin; 3 begin; 1 scan; 2 get a; 3 get b; 2 put b 8; 3 put a 9; 1 commit; 2 commit"),
		historyOf("1 begin; 1 put e 5; 2 begin; 2 put f 6; 2 commit; 3 begin; 3 get f; 1 commit; 1 abort; 4 begin; 4 put f 1"),
		historyOf("2 commit; 1 begin a; 1 get toolong; 0 begin; 1001 begin; 1000 begin; 1000 scan; 1000 commit"),
		beginsAnd(100),
		beginsAnd(101),
		make([]impl.Req, 100),
		make([]impl.Req, 101),
	}
	r := rand.New(rand.NewSource(8))
	for range 10 {
		m := somePairs(r)
		l = append(l, someHistory(r, m, 100))
	}
	return l
}

// someDisks are right ones, with stores and without, and wrong ones; the heavy
// ones, which take long to write, are left out.
func someDisks() []impl.Disk {
	a, b := twoSlots(9, 2)
	fresh, _ := impl.StoreDo(impl.Disk{}, act(impl.AcNew))
	one, _ := impl.StoreDo(fresh, applies("a", "b", "c"))
	lost, _ := impl.StoreDo(one, withPower(applies("d", "e"), 5))
	l := []impl.Disk{lost, one, fresh, laid(a, b), laid(a, withoutFiles(b, "p7")), laid(withoutFiles(a, "p4"), b), laid(withoutFiles(a, "p4")), diskOf("a:1 b:2", "+a:3 >b:c +d:4567", "a:13 c:2 d:4567"), worn(laid(a, b).Live, 200)}
	for name, d := range rightDisks() {
		if !strings.Contains(name, "bytes") || name == "names of any bytes" {
			l = append(l, d)
		}
	}
	for name, d := range wrongDisks() {
		if !strings.Contains(name, "bytes") && !strings.HasPrefix(name, "an op, done nothing") {
			l = append(l, d)
		}
	}
	return l
}

func someActs() []impl.Act {
	l := []impl.Act{act(impl.AcNew), act(impl.AcOpen), withPower(act(impl.AcNew), 2), withPower(act(impl.AcOpen), 1), act(0), act(5), act(-1), act(math.MinInt64), {}}
	for _, words := range [][]string{nil, {"a"}, {"-a", "z"}, {"d", "e", "f", "g"}, {"toolong"}} {
		for _, power := range []int64{-1, 0, 1, 2, 4, math.MaxInt64} {
			l = append(l, withPower(applies(words...), power))
		}
	}
	for _, keep := range [][]int64{nil, {0}, {0, 1}, {1}, {1, 0}, {-1}, {0, 200}} {
		for _, torn := range []int64{0, 3, -1, math.MaxInt64} {
			l = append(l, crashed(keep, torn), withPower(crashed(keep, torn), 1))
		}
	}
	return l
}

func someActLists() [][]impl.Act {
	return [][]impl.Act{
		nil,
		{act(impl.AcOpen)},
		{act(impl.AcNew), applies("a", "b"), applies("c"), act(impl.AcOpen)},
		{withPower(applies("q"), 3), crashed(nil, 0), applies("q"), withPower(applies("r"), 5), crashed([]int64{0}, 3)},
		{act(9), applies("toolong"), crashed([]int64{-1}, 0)},
		someActs(),
	}
}

func someBits() []impl.Bits {
	var l []impl.Bits
	for _, s := range rightBits() {
		l = append(l, bitsFrom(s))
	}
	return slices.AppendSeq(l, maps.Values(wrongBits()))
}

// someSnaps are right ones and wrong ones; those that are no more than a store
// that is not right are left out.
func someSnaps() []impl.Snaps {
	l := slices.Collect(maps.Values(rightSnaps()))
	for name, s := range wrongSnaps() {
		if !strings.HasPrefix(name, "a store: ") {
			l = append(l, s)
		}
	}
	return l
}

// valuesOf are arguments for a parameter of that type, a few of them where those
// ahead of it have many.
func valuesOf(t *testing.T, of reflect.Type, ahead int) []reflect.Value {
	t.Helper()
	if ahead == 0 && of.Kind() == reflect.String {
		return eachOf(slices.Concat(someTexts(), someScripts()))
	}
	if ahead >= 2 && of.Kind() == reflect.String {
		return []reflect.Value{reflect.ValueOf(""), reflect.ValueOf("d"), reflect.ValueOf("new"), reflect.ValueOf("too long")}
	}
	if ahead >= 3 && of.Kind() == reflect.Int64 {
		return []reflect.Value{reflect.ValueOf(int64(-1)), reflect.ValueOf(int64(2)), reflect.ValueOf(int64(math.MaxInt64))}
	}
	for _, l := range []any{someMaps(), someTrees(), someTexts(), somePages(), someSupers(), someShadows(), someChanges(), someNumbers(), someLocks(), someHolds(), someDbs(), someReqs(), someHistories(), someDisks(), someDops(), someKeeps(), someActs(), someActLists(), someBits(), someSnaps()} {
		if reflect.TypeOf(l).Elem() == of {
			return eachOf(l)
		}
	}
	t.Fatal("no values of type", of)
	return nil
}

func eachOf(l any) []reflect.Value {
	var values []reflect.Value
	for i := range reflect.ValueOf(l).Len() {
		values = append(values, reflect.ValueOf(l).Index(i))
	}
	return values
}

// choices has the arguments for each parameter of f.
func choices(t *testing.T, f reflect.Value) [][]reflect.Value {
	t.Helper()
	var of [][]reflect.Value
	for i := range f.Type().NumIn() {
		of = append(of, valuesOf(t, f.Type().In(i), i))
	}
	return of
}

func TestConventions(t *testing.T) {
	for name, f := range everyFunction() {
		f := reflect.ValueOf(f)
		of := choices(t, f)
		var give func(args []reflect.Value)
		give = func(args []reflect.Value) {
			if len(args) == len(of) {
				checkCall(t, name, f, args)
				return
			}
			for _, v := range of[len(args)] {
				give(append(slices.Clone(args), v))
			}
		}
		give(nil)
	}
}

// longChain has that many pages, each of which leads to the next two.
func longChain(n int64) impl.Snaps {
	s := impl.Snaps{Super: impl.Super{Gen: 1, Root: 1, Next: n + 1}, Taken: takenOf("one:1 two:2")}
	for id := int64(1); id <= n; id++ {
		s.Pages = append(s.Pages, page(id, id+1, id+2))
	}
	return s
}

// TestGreatArguments would stop at a panic, or not end.
func TestGreatArguments(t *testing.T) {
	var many []impl.Pair
	for i := range 100000 {
		many = append(many, impl.Pair{Key: strconv.Itoa(100000 + i), Val: "1"})
	}
	heavy := impl.DOp{Kind: impl.DkAppend, Name: "a", Data: strings.Repeat("a", 10000000)}
	files := make([]impl.File, 100000)
	for i := range files {
		files[i] = impl.File{Name: strconv.Itoa(100000 + i), Data: heavy.Data}
	}
	great := []any{
		many, puts(many), drops(many), []impl.Node{{Pairs: many}},
		strings.Repeat("a", 100000), strings.Repeat("a=1 ", 100000), strings.Repeat(" ", 100000),
		strings.Repeat("\n", 10000000), strings.Repeat("1 begin\n", 1000000), strings.Repeat("1 ", 1000) + "\n", strings.Repeat("x", 3999) + "\n", strings.Repeat("\x00", 3999) + "\n", strings.Repeat("9", 3000) + " begin\n", "1 put " + strings.Repeat("a", 3000) + " 1\n",
		make([]impl.Pair, 100000), make([]impl.Node, 100000), make([]impl.Change, 100000),
		impl.Page{Id: 1, Pairs: make([]impl.Pair, 100000)}, impl.Page{Id: 1, Kids: make([]int64, 100000)},
		impl.Shadow{Pages: make([]impl.Page, 100000), Super: impl.Super{Gen: 1, Root: 1, Next: 2}},
		impl.Shadow{Pages: []impl.Page{{Id: 1, Kids: make([]int64, 100000)}}, Super: impl.Super{Gen: 1, Root: 1, Next: 2}},
		impl.Super{Gen: math.MaxInt64, Root: math.MinInt64, Next: math.MaxInt64},
		impl.Super{Gen: math.MinInt64, Root: math.MaxInt64, Next: math.MinInt64},
		impl.Locks{Held: make([]impl.Hold, 100000)}, impl.Locks{Line: make([]impl.Hold, 100000)},
		impl.Hold{Txn: 1, Key: strings.Repeat("a", 100000), Mode: impl.LkS},
		impl.Hold{Txn: math.MinInt64, Mode: math.MaxInt64}, impl.Hold{Txn: 1, Mode: math.MinInt64},
		impl.Db{Map: make([]impl.Pair, 100000)}, impl.Db{Txns: make([]impl.Txn, 100000), Last: 1000},
		impl.Db{Locks: impl.Locks{Held: make([]impl.Hold, 100000)}, Txns: txnsOf("1"), Last: 1},
		impl.Db{Txns: []impl.Txn{{Id: 1, Writes: make([]impl.Change, 100000)}}, Last: 1},
		impl.Db{Txns: []impl.Txn{{Id: math.MaxInt64}}, Last: math.MaxInt64}, impl.Db{Txns: []impl.Txn{{Id: math.MinInt64}}, Last: math.MinInt64},
		impl.Req{Txn: math.MaxInt64, Kind: impl.TqBegin}, impl.Req{Txn: math.MinInt64, Kind: impl.TqGet, Key: "a"},
		impl.Req{Txn: 1, Kind: math.MaxInt64}, impl.Req{Txn: 1, Kind: math.MinInt64},
		impl.Req{Txn: 1, Kind: impl.TqPut, Key: strings.Repeat("a", 100000), Val: strings.Repeat("a", 100000)},
		impl.Req{Txn: 1, Kind: impl.TqScan, Key: strings.Repeat("a", 100000), Val: strings.Repeat("a", 100000)},
		impl.Disk{Live: make([]impl.File, 100000)}, impl.Disk{Safe: make([]impl.File, 100000)}, impl.Disk{Ops: make([]impl.DOp, 100000)},
		impl.Disk{Live: files, Safe: files}, impl.Disk{Ops: slices.Repeat([]impl.DOp{heavy}, 200)}, impl.Disk{Ops: slices.Repeat([]impl.DOp{heavy}, 100000)},
		syncedDisk([]impl.File{{Name: "a", Data: heavy.Data}}), syncedDisk([]impl.File{{Name: heavy.Data}}),
		heavy, impl.DOp{Kind: impl.DkAppend, Name: heavy.Data}, impl.DOp{Kind: impl.DkRename, Name: "a", To: heavy.Data}, impl.DOp{Kind: math.MinInt64, Name: "a"}, heavy.Data,
		make([]int64, 100000), rising(0, 100000), []int64{math.MinInt64, math.MaxInt64}, int64(math.MinInt64), int64(math.MaxInt64),
		make([]impl.Act, 100000), impl.Act{Kind: math.MaxInt64, Power: math.MinInt64}, impl.Act{Kind: impl.AcCrash, Keep: rising(0, 100000), Torn: math.MaxInt64},
		impl.Act{Kind: impl.AcApply, Changes: make([]impl.Change, 100000), Power: math.MaxInt64},
		impl.Bits{Size: 100000, Used: make([]bool, 100000)}, impl.Bits{Size: 200, Used: make([]bool, 100000)}, impl.Bits{Size: math.MaxInt64, Used: make([]bool, 200)}, impl.Bits{Size: math.MinInt64},
		impl.Snaps{Pages: make([]impl.Page, 100000), Super: impl.Super{Gen: 1, Root: 1, Next: 2}}, impl.Snaps{Pages: manyPages(100000), Super: impl.Super{Gen: 1, Root: 1, Next: 1000000}},
		impl.Snaps{Pages: []impl.Page{{Id: 1}}, Super: impl.Super{Gen: 1, Root: 1, Next: 2}, Taken: make([]impl.Snap, 100000)},
		impl.Snaps{Pages: []impl.Page{{Id: 1}}, Super: impl.Super{Gen: 1, Root: 1, Next: 2}, Taken: []impl.Snap{{Name: heavy.Data, Root: 1}}},
		impl.Snaps{Pages: []impl.Page{{Id: 1}}, Super: impl.Super{Gen: 1, Root: 1, Next: 2}, Taken: []impl.Snap{{Name: "one", Root: math.MaxInt64}, {Name: "two", Root: math.MinInt64}}},
		impl.Snaps{Pages: []impl.Page{{Id: 1, Kids: make([]int64, 100000)}}, Super: impl.Super{Gen: 1, Root: 1, Next: 2}}, longChain(400), longChain(401),
		make([]impl.Req, 100000), reqsOf(slices.Repeat([]string{"1 begin"}, 100000)...),
	}
	for name, f := range everyFunction() {
		f := reflect.ValueOf(f)
		of := choices(t, f)
		for _, g := range great {
			var args []reflect.Value
			found := false
			for i := range of {
				if reflect.TypeOf(g) == f.Type().In(i) {
					args, found = append(args, reflect.ValueOf(g)), true
				} else {
					args = append(args, of[i][1])
				}
			}
			if found {
				checkRefusal(t, name, f.Call(args))
			}
		}
	}
}

// TestTreesOfAnyNumbers gives lists of nodes whose kids are whatever comes.
func TestTreesOfAnyNumbers(t *testing.T) {
	r := rand.New(rand.NewSource(7))
	places := []int64{0, 1, 2, 3, 4, 5, 6, 7, -1, 1 << 32, math.MaxInt64, math.MinInt64}
	for range 30000 {
		x := make([]impl.Node, r.Intn(8))
		next := byte('a')
		for i := range x {
			if r.Intn(2) == 0 {
				for range r.Intn(4) {
					x[i].Kids = append(x[i].Kids, places[r.Intn(len(places))])
				}
				continue
			}
			for range 1 + r.Intn(4) {
				x[i].Pairs = append(x[i].Pairs, impl.Pair{Key: string([]byte{next}), Val: "1"})
				next++
			}
		}
		want := problemOf(x) == ""
		_, put := impl.TreePut(x, "~", "1")
		_, dropped := impl.TreeDrop(x, "a")
		if impl.TreeOk(x) != want || put != want || dropped != (want && len(pairsIn(x)) > 0) {
			t.Fatal(x, want, put, dropped)
		}
		if (impl.Height(x) > 0) != want || len(impl.TreeMap(x)) > 0 && !want {
			t.Fatal(x, want, impl.Height(x))
		}
	}
}
