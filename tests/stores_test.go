package tests

import (
	"fmt"
	"maps"
	"math"
	"math/rand"
	"slices"
	"strconv"
	"strings"
	"testing"

	"loop.example/g00573/impl"
)

// pageData is what a page's file has, be the page right or not.
func pageData(p impl.Page) string {
	if len(p.Kids) > 0 {
		return summed(wordsOf(p, "kids"))
	}
	return summed(wordsOf(p, "leaf"))
}

func superData(gen int64, root int64, next int64) string {
	return summed(fmt.Sprintf("super %d %d %d", gen, root, next))
}

func pageName(id int64) string { return "p" + strconv.FormatInt(id, 10) }

// filesOfStore has the files of s with that slot.
func filesOfStore(s impl.Shadow, slot string) map[string]string {
	files := map[string]string{slot: superData(s.Super.Gen, s.Super.Root, s.Super.Next)}
	for _, p := range s.Pages {
		files[pageName(p.Id)] = pageData(p)
	}
	return files
}

// laid is a synced disk that has all of these files, the last ones where several
// have a name.
func laid(l ...map[string]string) impl.Disk {
	files := map[string]string{}
	for _, more := range l {
		maps.Copy(files, more)
	}
	return syncedDisk(filesIn(files))
}

// twoSlots has two pages with pairs below a first one, and one page alone.
func twoSlots(gen0 int64, gen1 int64) (map[string]string, map[string]string) {
	a := storeOf(fmt.Sprint(gen0, " 3 6"), "3 kids 4 5", "4 leaf a b", "5 leaf c d")
	b := storeOf(fmt.Sprint(gen1, " 7 8"), "7 leaf x y z")
	return filesOfStore(a, "s0"), filesOfStore(b, "s1")
}

// without is files but for these.
func withoutFiles(files map[string]string, names ...string) map[string]string {
	left := maps.Clone(files)
	for _, name := range names {
		delete(left, name)
	}
	return left
}

// slotByModel is the store of a slot. It begins with the slot, and reads the
// files by forms of their words; false when the slot is not whole.
func slotByModel(files map[string]string, slot string) (impl.Shadow, bool) {
	var s impl.Shadow
	fmt.Sscanf(files[slot], "super %d %d %d", &s.Super.Gen, &s.Super.Root, &s.Super.Next)
	if files[slot] != superData(s.Super.Gen, s.Super.Root, s.Super.Next) {
		return impl.Shadow{}, false
	}
	wanted := []int64{s.Super.Root}
	for len(wanted) > 0 && len(s.Pages) <= 100 {
		data := files[pageName(wanted[0])]
		words, _, _ := cutLast(data)
		p, ok := pageOf(words)
		if !ok || p.Id != wanted[0] || data != pageData(p) {
			return impl.Shadow{}, false
		}
		s.Pages = append(s.Pages, p)
		wanted = append(wanted[1:], p.Kids...)
	}
	slices.SortFunc(s.Pages, func(a impl.Page, b impl.Page) int { return int(a.Id - b.Id) })
	if storeProblem(s) != "" {
		return impl.Shadow{}, false
	}
	return s, true
}

func cutLast(s string) (string, string, bool) {
	i := strings.LastIndex(s, " ")
	if i < 0 {
		return s, "", false
	}
	return s[:i], s[i+1:], true
}

// storeByModel is a second way to work out StoreShadow; it tells the slot, too.
func storeByModel(d impl.Disk) (impl.Shadow, string, int64) {
	if diskProblem(d) != "" {
		return impl.Shadow{}, "", impl.StDisk
	}
	files := filesMap(d.Live)
	best, slot, code := impl.Shadow{}, "", int64(impl.StNone)
	for _, name := range []string{"s0", "s1"} {
		if _, there := files[name]; there && code == impl.StNone {
			code = impl.StBad
		}
		if s, whole := slotByModel(files, name); whole && s.Super.Gen > best.Super.Gen {
			best, slot, code = s, name, impl.StOk
		}
	}
	return best, slot, code
}

// machine makes the steps of an act, one by one, as they are told, by what Do and
// Sync do.
type machine struct {
	d     impl.Disk
	power int64
	code  int64
}

func (m *machine) hasPower() bool {
	if m.code == impl.StOk && m.power == 0 {
		m.code = impl.StPower
	}
	m.power--
	return m.code == impl.StOk
}

func (m *machine) do(kind int64, name string, data string) {
	if !m.hasPower() {
		return
	}
	n, code := impl.Do(m.d, impl.DOp{Kind: kind, Name: name, Data: data})
	if code != impl.DkOk {
		m.code = impl.StFull
		return
	}
	m.d = n
}

func (m *machine) sync() {
	if m.hasPower() {
		m.d = impl.Sync(m.d)
	}
}

func (m *machine) lay(name string, data string) {
	if _, there := impl.ReadFile(m.d, name); there {
		m.do(impl.DkRemove, name, "")
	}
	m.do(impl.DkAppend, name, data)
}

func (m *machine) turn(s impl.Shadow, made []int64, slot string) {
	for _, p := range s.Pages {
		if slices.Contains(made, p.Id) {
			m.lay(pageName(p.Id), pageData(p))
		}
	}
	m.sync()
	m.lay(slot, superData(s.Super.Gen, s.Super.Root, s.Super.Next))
	m.sync()
}

func (m *machine) open() {
	s, slot, code := storeByModel(m.d)
	if code != impl.StOk {
		m.code = code
		return
	}
	wanted, some := filesOfStore(s, slot), false
	for _, f := range m.d.Live {
		if _, stays := wanted[f.Name]; !stays {
			m.do(impl.DkRemove, f.Name, "")
			some = true
		}
	}
	if some {
		m.sync()
	}
}

func (m *machine) begin() {
	if _, _, code := storeByModel(m.d); code != impl.StNone {
		m.code = impl.StForm
		return
	}
	for _, f := range m.d.Live {
		m.do(impl.DkRemove, f.Name, "")
	}
	m.turn(storeOf("1 1 2", "1 leaf"), []int64{1}, "s0")
}

func (m *machine) apply(l []impl.Change) {
	s, slot, code := storeByModel(m.d)
	if code != impl.StOk {
		m.code = code
		return
	}
	n, made, gone, ok := applied(s, l)
	if !ok {
		m.code = impl.StForm
		return
	}
	m.turn(n, made, map[string]string{"s0": "s1", "s1": "s0"}[slot])
	for _, id := range gone {
		m.do(impl.DkRemove, pageName(id), "")
	}
}

// actByModel is a second way to work out StoreDo.
func actByModel(d impl.Disk, a impl.Act) (impl.Disk, int64) {
	if diskProblem(d) != "" {
		return impl.Disk{}, impl.StDisk
	}
	if a.Kind == impl.AcCrash {
		n, ok := impl.Crash(d, a.Keep, a.Torn)
		if !ok {
			return d, impl.StForm
		}
		d = n
	}
	m := &machine{d: d, power: a.Power}
	if a.Power < 0 {
		m.power = math.MaxInt64
	}
	switch a.Kind {
	case impl.AcNew:
		m.begin()
	case impl.AcApply:
		m.apply(a.Changes)
	case impl.AcOpen, impl.AcCrash:
		m.open()
	default:
		m.code = impl.StForm
	}
	if m.code != impl.StOk && m.code != impl.StPower {
		return d, m.code
	}
	return m.d, m.code
}

// checkAct does a both ways.
func checkAct(t *testing.T, name string, d impl.Disk, a impl.Act) (impl.Disk, int64) {
	t.Helper()
	n, code := impl.StoreDo(d, a)
	want, wantCode := actByModel(d, a)
	if code != wantCode || shown(n) != shown(want) {
		t.Fatalf("%s: %v of\n%.1500v is\n%.1500v %v, not\n%.1500v %v", name, a, d, n, code, want, wantCode)
	}
	if code != impl.StDisk && !impl.DiskOk(n) {
		t.Fatalf("%s: %v of\n%.1500v leaves a wrong disk\n%.1500v", name, a, d, n)
	}
	return n, code
}

// checkStore reads the store of d both ways.
func checkStore(t *testing.T, name string, d impl.Disk) int64 {
	t.Helper()
	s, code := impl.StoreShadow(d)
	m, other := impl.StoreView(d)
	want, _, wantCode := storeByModel(d)
	if code != wantCode || other != wantCode || shown(s) != shown(want) {
		t.Fatalf("%s: %.1500v is %v %v %v, not %v %v", name, d, s, code, other, want, wantCode)
	}
	var pairs []impl.Pair
	if code == impl.StOk {
		pairs = pairsIn(nodesOf(want))
	}
	if !slices.Equal(m, pairs) {
		t.Fatalf("%s: %.1500v has %v, not %v", name, d, m, pairs)
	}
	return code
}

func act(kind int64) impl.Act { return impl.Act{Kind: kind, Power: -1} }

func applies(words ...string) impl.Act {
	return impl.Act{Kind: impl.AcApply, Changes: changesOf(words...), Power: -1}
}

func crashed(keep []int64, torn int64) impl.Act {
	return impl.Act{Kind: impl.AcCrash, Keep: keep, Torn: torn, Power: -1}
}

func withPower(a impl.Act, power int64) impl.Act {
	a.Power = power
	return a
}

// acted is the disk behind these acts, each of which is StOk.
func acted(t *testing.T, d impl.Disk, l ...impl.Act) impl.Disk {
	t.Helper()
	for i, a := range l {
		n, code := checkAct(t, fmt.Sprint("act ", i), d, a)
		if code != impl.StOk {
			t.Fatalf("act %d, %v, of %.1500v: %v", i, a, d, code)
		}
		d = n
	}
	return d
}

// TestNumbersOfStores holds the names against the numbers that the document gives
// them.
func TestNumbersOfStores(t *testing.T) {
	got := []int{impl.AcNew, impl.AcApply, impl.AcOpen, impl.AcCrash, impl.StOk, impl.StDisk, impl.StBad, impl.StForm, impl.StFull, impl.StPower, impl.StNone}
	if !slices.Equal(got, []int{1, 2, 3, 4, 0, 1, 2, 3, 4, 5, 7}) {
		t.Error(got)
	}
}

func TestStoresOnADisk(t *testing.T) {
	for name, s := range rightShadows() {
		for _, slot := range []string{"s0", "s1"} {
			if len(s.Pages) >= 60 {
				continue
			}
			d := laid(filesOfStore(s, slot))
			if code := checkStore(t, name, d); code != impl.StOk {
				t.Error(name, slot, code)
			}
			if got, code := impl.StoreShadow(d); code != impl.StOk || shown(got) != shown(s) {
				t.Error(name, slot, got, code)
			}
			if m, code := impl.StoreView(d); code != impl.StOk || !slices.Equal(m, pairsIn(nodesOf(s))) {
				t.Error(name, slot, m, code)
			}
		}
	}
	tried := 0
	for name, s := range wrongShadows() {
		if len(s.Pages) >= 59 || name == "a page with the id Next, twice" {
			continue
		}
		tried++
		d := laid(filesOfStore(s, "s0"))
		checkStore(t, name, d)
		good := storeOf("1 900 901", "900 leaf n")
		if checkStore(t, name, laid(filesOfStore(s, "s0"), filesOfStore(good, "s1"))) != impl.StOk {
			t.Error(name, "beside a good one")
		}
	}
	if tried < 40 {
		t.Error(tried)
	}
}

// TestSlotsThatAreNotWhole has one slot that is not whole, alone and beside an
// older one that is.
func TestSlotsThatAreNotWhole(t *testing.T) {
	newer, older := twoSlots(9, 2)
	below := func(words ...string) map[string]string {
		return filesOfStore(storeOf("9 3 60", words...), "s0")
	}
	for name, files := range map[string]map[string]string{
		"its pages are not there":              withoutFiles(newer, "p3", "p4", "p5"),
		"its first page is not there":          withoutFiles(newer, "p3"),
		"a kid is not there":                   withoutFiles(newer, "p4"),
		"the last kid is not there":            withoutFiles(newer, "p5"),
		"Root has another Id":                  with(newer, "p3", pageData(page(6, 4, 5))),
		"a kid has another Id":                 with(newer, "p4", pageData(leaf(5, "a", "b"))),
		"a kid has Root's Id":                  with(newer, "p4", pageData(leaf(3, "a", "b"))),
		"a page has another byte":              with(newer, "p4", strings.Replace(newer["p4"], "va", "vb", 1)),
		"a page has a byte less":               with(newer, "p5", newer["p5"][:len(newer["p5"])-1]),
		"a page has a byte more":               with(newer, "p5", newer["p5"]+" "),
		"a page has a line feed more":          with(newer, "p5", newer["p5"]+"\n"),
		"a page is empty":                      with(newer, "p5", ""),
		"a page is there twice in its file":    with(newer, "p4", newer["p4"]+newer["p4"]),
		"a page is a slot's text":              with(newer, "p4", newer["s0"]),
		"a page without its sum":               with(newer, "p4", "page 4 leaf a=va b=vb"),
		"a page with a wrong pair":             with(newer, "p4", summed("page 4 leaf a= b=vb")),
		"Root has a name that is no number":    with(withoutFiles(newer, "p3"), "p03", newer["p3"]),
		"a page has a great P":                 with(withoutFiles(newer, "p4"), "P4", newer["p4"]),
		"a page has a name of another form":    with(withoutFiles(newer, "p4"), "p4.new", newer["p4"]),
		"a page has an Id as its name":         with(withoutFiles(newer, "p4"), "4", newer["p4"]),
		"the slot is empty":                    with(newer, "s0", ""),
		"the slot has another byte":            with(newer, "s0", strings.Replace(newer["s0"], "9", "8", 1)),
		"the slot has a byte less":             with(newer, "s0", newer["s0"][:len(newer["s0"])-1]),
		"the slot has a byte more":             with(newer, "s0", newer["s0"]+"0"),
		"the slot is torn in the middle":       with(newer, "s0", newer["s0"][:9]),
		"the slot has two texts":               with(newer, "s0", superData(8, 3, 6)+newer["s0"]),
		"the slot is a page's text":            with(newer, "s0", newer["p3"]),
		"the slot is any text":                 with(newer, "s0", "store"),
		"the slot's Gen is 0":                  with(newer, "s0", superData(0, 3, 6)),
		"the slot's Gen is too great":          with(newer, "s0", superData(1000001, 3, 6)),
		"the slot's Root is Next":              with(newer, "s0", superData(9, 3, 3)),
		"the slot's Root is 0":                 with(newer, "s0", superData(9, 0, 6)),
		"the slot's Next is too great":         with(newer, "s0", superData(9, 3, 1000001)),
		"a kid is Next":                        with(newer, "s0", superData(9, 3, 5)),
		"a kid is above Next":                  with(newer, "s0", superData(9, 3, 4)),
		"Root is a page that is not there":     with(newer, "s0", superData(9, 2, 6)),
		"a page is met twice":                  below("3 kids 4 5", "4 kids 6 8", "5 kids 8 9", "6 leaf a b", "8 leaf c d", "9 leaf e f"),
		"a page is met twice, with too little": below("3 kids 4 5", "4 kids 6 8", "5 kids 6 8", "6 leaf a b", "8 leaf c d"),
		"a page is its own kid":                below("3 kids 4 5", "4 kids 3 6", "5 leaf c d", "6 leaf a b"),
		"Root is its own kid, below":           below("3 kids 4 5", "4 kids 5 3", "5 leaf c d"),
		"two that lead round":                  below("3 kids 4 5", "4 kids 5 6", "5 kids 4 6", "6 leaf a b"),
		"kids at unlike depths":                below("3 kids 4 5", "4 leaf a b", "5 kids 6 8", "6 leaf c d", "8 leaf e f"),
		"a kid with one pair":                  below("3 kids 4 5", "4 leaf a", "5 leaf c d"),
		"a kid with none":                      below("3 kids 4 5", "4 leaf a b", "5 leaf"),
		"keys fall between pages":              below("3 kids 5 4", "4 leaf a b", "5 leaf c d"),
		"a key in two pages":                   below("3 kids 4 5", "4 leaf a b", "5 leaf b c"),
		"61 pairs":                             filesOfStore(withGen(storeFrom(wide(61), rising(10, 21), 40), 9), "s0"),
	} {
		if code := checkStore(t, name, laid(files)); code != impl.StBad {
			t.Error(name, "alone", code)
		}
		checkOlder(t, name, laid(files, older))
		// And the other way round.
		swapped := withoutFiles(files, "s0")
		swapped["s1"] = files["s0"]
		moved := withoutFiles(older, "s1")
		moved["s0"] = older["s1"]
		if code := checkStore(t, name, laid(swapped)); code != impl.StBad {
			t.Error(name, "alone, as s1", code)
		}
		checkOlder(t, name+", as s1", laid(swapped, moved))
	}
}

// checkOlder looks whether the store is the older one of twoSlots.
func checkOlder(t *testing.T, name string, d impl.Disk) {
	t.Helper()
	checkStore(t, name, d)
	s, code := impl.StoreShadow(d)
	m, _ := impl.StoreView(d)
	if code != impl.StOk || s.Super != (impl.Super{Gen: 2, Root: 7, Next: 8}) || !slices.Equal(m, pairsOf("x", "y", "z")) {
		t.Error(name, "beside an older one:", s, code)
	}
	for _, a := range []impl.Act{act(impl.AcOpen), applies("w"), applies("x:9", "-y"), crashed(nil, 0)} {
		n, code := checkAct(t, name, d, a)
		if code != impl.StOk || checkStore(t, name, n) != impl.StOk {
			t.Error(name, a, code)
		}
	}
}

func with(files map[string]string, name string, data string) map[string]string {
	more := maps.Clone(files)
	more[name] = data
	return more
}

func withGen(s impl.Shadow, gen int64) impl.Shadow {
	s.Super.Gen = gen
	return s
}

func TestTwoSlots(t *testing.T) {
	for _, c := range []struct {
		gen0, gen1, want int64
		slot             string
	}{
		{1, 2, 2, "s1"}, {2, 1, 2, "s0"}, {1, 1, 1, "s0"}, {9, 10, 10, "s1"}, {10, 9, 10, "s0"}, {1000000, 1000000, 1000000, "s0"},
		{999999, 1000000, 1000000, "s1"}, {1000000, 1, 1000000, "s0"}, {5, 100, 100, "s1"}, {100, 5, 100, "s0"},
	} {
		a, b := twoSlots(c.gen0, c.gen1)
		d := laid(a, b)
		s, code := impl.StoreShadow(d)
		want := pairsOf("a", "b", "c", "d")
		if c.slot == "s1" {
			want = pairsOf("x", "y", "z")
		}
		m, other := impl.StoreView(d)
		if checkStore(t, c.slot, d) != impl.StOk || code != impl.StOk || other != impl.StOk || s.Super.Gen != c.want || !slices.Equal(m, want) {
			t.Error(c, s, code, m)
		}
		// The other slot is the one that is laid, and opened it is gone.
		n, code := checkAct(t, c.slot, d, act(impl.AcOpen))
		if _, there := filesMap(n.Live)[c.slot]; code != impl.StOk || !there || len(n.Live) != len(s.Pages)+1 {
			t.Error(c, n, code)
		}
		n, code = checkAct(t, c.slot, d, applies("q"))
		if c.want == 1000000 {
			if code != impl.StForm {
				t.Error(c, code)
			}
			continue
		}
		free := map[string]string{"s0": "s1", "s1": "s0"}[c.slot]
		if data, ok := impl.ReadFile(n, free); code != impl.StOk || !ok || !strings.HasPrefix(data, fmt.Sprintf("super %d ", c.want+1)) {
			t.Error(c, n, code)
		}
	}
}

func TestDisksWithoutAStore(t *testing.T) {
	newer, older := twoSlots(9, 2)
	for name, c := range map[string]struct {
		files map[string]string
		code  int64
	}{
		"nothing at all":                   {nil, impl.StNone},
		"other files":                      {map[string]string{"a": "1", "zz": "2"}, impl.StNone},
		"pages without a slot":             {withoutFiles(newer, "s0"), impl.StNone},
		"names like a slot's":              {map[string]string{"s": newer["s0"], "s2": newer["s0"], "s00": newer["s0"], "S0": newer["s0"], "s0 ": newer["s0"], "s-1": "", "p0": newer["s0"]}, impl.StNone},
		"s0 is empty":                      {map[string]string{"s0": ""}, impl.StBad},
		"s1 is empty":                      {map[string]string{"s1": ""}, impl.StBad},
		"s0 is any text":                   {map[string]string{"s0": "any", "a": "1"}, impl.StBad},
		"s1 is any text":                   {map[string]string{"s1": "any", "a": "1"}, impl.StBad},
		"both are any texts":               {map[string]string{"s0": "any", "s1": "any"}, impl.StBad},
		"s0 without pages":                 {map[string]string{"s0": newer["s0"]}, impl.StBad},
		"s1 without pages":                 {map[string]string{"s1": older["s1"]}, impl.StBad},
		"both without pages":               {map[string]string{"s0": newer["s0"], "s1": older["s1"]}, impl.StBad},
		"s0 torn, s1 without pages":        {map[string]string{"s0": newer["s0"][:5], "s1": older["s1"]}, impl.StBad},
		"s0 without a page, s1 any":        {with(withoutFiles(newer, "p4"), "s1", "any"), impl.StBad},
		"s0 with the other one's pages":    {map[string]string{"s0": newer["s0"], "p7": older["p7"]}, impl.StBad},
		"s0 and s1 with each other's text": {map[string]string{"s0": older["s1"], "s1": newer["s0"]}, impl.StBad},
	} {
		d := laid(c.files)
		if code := checkStore(t, name, d); code != c.code {
			t.Error(name, code)
		}
		for _, a := range []impl.Act{applies("a"), applies(), applies("a", "too-long"), act(impl.AcOpen), crashed(nil, 0), withPower(applies("a"), 0), withPower(act(impl.AcOpen), 0), withPower(crashed(nil, 0), 0)} {
			if n, code := checkAct(t, name, d, a); code != c.code || shown(n) != shown(d) {
				t.Error(name, a, n, code)
			}
		}
		want := int64(impl.StForm)
		if c.code == impl.StNone {
			want = impl.StOk
		}
		n, code := checkAct(t, name, d, act(impl.AcNew))
		if code != want || code == impl.StForm && shown(n) != shown(d) {
			t.Error(name, "AcNew", n, code)
		}
		if code == impl.StOk && shown(n) != shown(laid(filesOfStore(impl.ShadowNew(), "s0"))) {
			t.Error(name, "AcNew", n)
		}
	}
}

// TestStoresOnWrongDisks has disks that are not right, some of them with a store
// for all that.
func TestStoresOnWrongDisks(t *testing.T) {
	disks := wrongDisks()
	store := laid(filesOfStore(storeOf("4 3 6", "3 kids 4 5", "4 leaf a b", "5 leaf c d"), "s1"))
	disks["a store that nothing made"] = impl.Disk{Live: store.Live}
	disks["a store that is not seen"] = impl.Disk{Safe: store.Live}
	disks["a store, the last file twice"] = syncedDisk(append(slices.Clone(store.Live), store.Live[3]))
	disks["a store, and a name of 101"] = laid(filesMap(store.Live), map[string]string{named(101): ""})
	disks["a store, and an op of no kind"] = impl.Disk{Live: store.Live, Safe: store.Live, Ops: []impl.DOp{{Name: "p3"}}}
	disks["a store, and 201 ops"] = worn(store.Live, 201)
	disks["a store, and 200001 bytes"] = laid(filesMap(store.Live), map[string]string{"a": strings.Repeat("x", 200001)})
	disks["a store, and 61 files"] = laid(filesMap(store.Live), filesMap(manyFiles(57, 0)))
	none, all := shown(impl.Disk{}), []impl.Act{act(0), act(impl.AcNew), applies("a"), applies("toolong"), act(impl.AcOpen), withPower(act(impl.AcOpen), 0), crashed(nil, 0), crashed([]int64{0}, 9)}
	for name, d := range disks {
		if s, code := impl.StoreShadow(d); code != impl.StDisk || shown(s) != shown(impl.Shadow{}) {
			t.Error(name, "StoreShadow", s, code)
		}
		if m, code := impl.StoreView(d); code != impl.StDisk || len(m) != 0 {
			t.Error(name, "StoreView", m, code)
		}
		for _, a := range all {
			if n, code := impl.StoreDo(d, a); code != impl.StDisk || shown(n) != none {
				t.Error(name, a, "StoreDo", code)
			}
		}
		if n, codes := impl.StorePlay(d, all); len(codes) != 0 || shown(n) != none {
			t.Error(name, "StorePlay", codes)
		}
	}
}

// TestFilesOfNoStore has files beside a store's: they do not hinder, and AcOpen
// takes them away.
func TestFilesOfNoStore(t *testing.T) {
	s := storeOf("4 3 6", "3 kids 4 5", "4 leaf a b", "5 leaf c d")
	store := filesOfStore(s, "s1")
	for name, more := range map[string]map[string]string{
		"none":                             nil,
		"any":                              {"a": "1", "q": "", "zz": "2"},
		"a slot that is torn":              {"s0": "super 5 3"},
		"a slot that is newer":             {"s0": superData(5, 7, 8)},
		"a slot that is older, and whole":  {"s0": superData(3, 4, 5)},
		"a slot like it":                   {"s0": superData(4, 9, 10), "p9": "any"},
		"a page that is to come":           {"p6": pageData(leaf(6, "a", "b", "c"))},
		"a page that is gone":              {"p2": pageData(leaf(2, "a"))},
		"names like the store's":           {"p03": "1", "p": "2", "p33": "3", "P3": "4", "s": "5", "s11": "6", "p3.new": "7", "p-3": "8"},
		"a name of 100":                    {named(100): "1", "\x00": "2", "\xff": "3"},
		"pages of which none leads to any": {"p1": pageData(page(1, 3, 2)), "p2": pageData(leaf(2, "y", "z")), "p6": "torn"},
	} {
		d := laid(store, more)
		if got, code := impl.StoreShadow(d); checkStore(t, name, d) != impl.StOk || code != impl.StOk || shown(got) != shown(s) {
			t.Error(name, got, code)
		}
		for _, a := range []impl.Act{act(impl.AcOpen), crashed(nil, 0)} {
			if n, code := checkAct(t, name, d, a); code != impl.StOk || shown(n) != shown(laid(store)) {
				t.Error(name, a, n, code)
			}
		}
		n, code := checkAct(t, name, d, applies("e"))
		m, _ := impl.StoreView(n)
		if code != impl.StOk || !slices.Equal(m, pairsOf("a", "b", "c", "d", "e")) {
			t.Error(name, n, code)
		}
		files := filesMap(n.Live)
		for f, data := range more {
			if f != "s0" && f != "p6" && files[f] != data {
				t.Error(name, f, "is another one")
			}
		}
	}
}

// stepsMade tells the steps of an act: what each bit of power more does.
func stepsMade(t *testing.T, name string, d impl.Disk, a impl.Act) string {
	t.Helper()
	whole, code := checkAct(t, name, d, withPower(a, -1))
	start := d
	if a.Kind == impl.AcCrash {
		start, _ = impl.Crash(d, a.Keep, a.Torn)
	}
	var words []string
	was, ended := checkAct(t, name, d, withPower(a, 0))
	if ended == impl.StPower && shown(was) != shown(start) {
		t.Fatal(name, "does something without power:", was)
	}
	for power := int64(1); ended == impl.StPower; power++ {
		n, next := checkAct(t, name, d, withPower(a, power))
		switch {
		case next == impl.StFull:
			words = append(words, "full")
		case len(n.Ops) == len(was.Ops)+1:
			words = append(words, dopWord(n.Ops[len(was.Ops)]))
		case len(n.Ops) == 0 && shown(n) == shown(impl.Sync(was)):
			words = append(words, "sync")
		default:
			t.Fatal(name, power, was, n)
		}
		was, ended = n, next
	}
	if ended != code || shown(was) != shown(whole) {
		t.Fatal(name, "ends with", ended, was, "not", code, whole)
	}
	for _, power := range []int64{1000, math.MaxInt64, -2, math.MinInt64} {
		if n, other := checkAct(t, name, d, withPower(a, power)); other != code || shown(n) != shown(whole) {
			t.Fatal(name, power, n, other)
		}
	}
	return strings.Join(words, " ")
}

func dopWord(x impl.DOp) string {
	switch x.Kind {
	case impl.DkAppend:
		return "+" + x.Name
	case impl.DkRemove:
		return "-" + x.Name
	}
	return ">" + x.Name + ":" + x.To
}

func TestStepsOfActs(t *testing.T) {
	fresh := acted(t, impl.Disk{}, act(impl.AcNew))
	one := acted(t, fresh, applies("a", "b"))
	two := acted(t, one, applies("c", "d", "e"))
	wide := storeOf("3 3 8", "3 kids 4 5 6 7", "4 leaf a b", "5 leaf c d", "6 leaf e f g", "7 leaf h i j k")
	left := laid(filesOfStore(wide, "s0"), map[string]string{"p8": "any", "p9": "any", "p10": pageData(leaf(10, "a")), "a": "1"})
	for _, c := range []struct {
		name  string
		d     impl.Disk
		a     impl.Act
		steps string
	}{
		{"new", impl.Disk{}, act(impl.AcNew), "+p1 sync +s0 sync"},
		{"new, with other files", laid(map[string]string{"b": "1", "a": "2", "z": "", "p10": "", "p2": ""}), act(impl.AcNew), "-a -b -p10 -p2 -z +p1 sync +s0 sync"},
		{"new, with its page", laid(map[string]string{"p1": pageData(leaf(1))}), act(impl.AcNew), "-p1 +p1 sync +s0 sync"},
		{"new, with ops", diskOf("a:1 c:2", "-a +b:2", "b:2 c:2"), act(impl.AcNew), "-b -c +p1 sync +s0 sync"},
		{"the first pairs", fresh, applies("a", "b"), "+p2 sync +s1 sync -p1"},
		{"nothing, first", fresh, applies(), "sync +s1 sync"},
		{"nothing", one, applies(), "sync -s0 +s0 sync"},
		{"what is there", one, applies("a", "-q"), "sync -s0 +s0 sync"},
		{"a page for a page", one, applies("c"), "+p3 sync -s0 +s0 sync -p2"},
		{"one page becomes three", one, applies("c", "d", "e"), "+p3 +p4 +p5 sync -s0 +s0 sync -p2"},
		{"three become three", two, applies("a:9", "e:9"), "+p6 +p7 +p8 sync -s1 +s1 sync -p3 -p4 -p5"},
		{"three become one", two, applies("-a", "-b"), "+p6 sync -s1 +s1 sync -p3 -p4 -p5"},
		{"a page stays", two, applies("e:9"), "+p6 +p7 sync -s1 +s1 sync -p3 -p5"},
		{"a kid becomes the first one", laid(filesOfStore(storeOf("3 3 6", "3 kids 4 5", "4 leaf a b", "5 leaf c d"), "s0")), applies("-a", "-b"), "sync +s1 sync -p3 -p4"},
		{"pages by rising ids", left, applies("k:9", "l", "c:9"), "-p8 +p8 -p9 +p9 -p10 +p10 +p11 +p12 +p13 sync +s1 sync -p3 -p5 -p7"},
		{"one page becomes two, above", left, applies("l"), "-p8 +p8 -p9 +p9 -p10 +p10 +p11 +p12 sync +s1 sync -p3 -p7"},
		{"p10 behind p9", laid(filesOfStore(storeOf("3 8 11", "8 kids 9 10", "9 leaf a b", "10 leaf c d"), "s1")), applies("a:9", "c:9"), "+p11 +p12 +p13 sync +s0 sync -p8 -p9 -p10"},
		{"open, nothing there", laid(filesOfStore(wide, "s0")), act(impl.AcOpen), ""},
		{"open, old slot there", one, act(impl.AcOpen), "-s0 sync"},
		{"open", left, act(impl.AcOpen), "-a -p10 -p8 -p9 sync"},
		{"open, all new, not safe yet", impl.Disk{Live: laid(filesOfStore(impl.ShadowNew(), "s0")).Live, Ops: []impl.DOp{{Kind: impl.DkAppend, Name: "p1", Data: pageData(leaf(1))}, {Kind: impl.DkAppend, Name: "s0", Data: superData(1, 1, 2)}}}, act(impl.AcOpen), ""},
		{"crash, none kept", one, crashed(nil, 0), "-p1 -s0 sync"},
		{"crash, all kept", one, crashed([]int64{0}, 0), "-s0 sync"},
		{"crash, nothing to take away", laid(filesOfStore(wide, "s0")), crashed(nil, 0), ""},
		{"crash of what is laid", left, crashed(nil, 7), "-a -p10 -p8 -p9 sync"},
		{"none of the kinds", one, act(9), ""},
		{"refused changes", one, applies("toolong"), ""},
		{"new, though there is one", one, act(impl.AcNew), ""},
	} {
		if got := stepsMade(t, c.name, c.d, c.a); got != c.steps {
			t.Errorf("%s: %q, not %q", c.name, got, c.steps)
		}
	}
}

// TestActsOnAFewDisks looks at what a store has behind each act.
func TestActsOnAFewDisks(t *testing.T) {
	d := acted(t, laid(map[string]string{"a": "1"}), act(impl.AcNew))
	var m []impl.Pair
	for i, l := range [][]string{{"a", "b"}, {}, {"c:9", "-a"}, {"d", "e", "f", "g", "h"}, {"-zz"}, {"a", "b:8", "-h"}, {"-a", "-b", "-c", "-d", "-e", "-f", "-g"}, {"n"}} {
		d = acted(t, d, applies(l...))
		m = changedMap(m, changesOf(l...))
		got, code := impl.StoreView(d)
		s, other := impl.StoreShadow(d)
		if code != impl.StOk || other != impl.StOk || !slices.Equal(got, m) || s.Super.Gen != int64(i+2) || !impl.ShadowOk(s) {
			t.Fatal(l, got, code, s, other, "not", m)
		}
		// But for the old slot there are just the store's files.
		if len(d.Live) != len(s.Pages)+2 {
			t.Fatal(l, d)
		}
		opened := acted(t, d, act(impl.AcOpen))
		if len(opened.Live) != len(s.Pages)+1 || len(opened.Ops) != 0 {
			t.Fatal(l, opened)
		}
		crash := acted(t, d, crashed(rising(0, len(d.Ops)), 0))
		if shown(crash) != shown(opened) {
			t.Fatal(l, crash, "not", opened)
		}
	}
}

// TestWhichCodeIsTold has several refusals hold at once.
func TestWhichCodeIsTold(t *testing.T) {
	wrong := diskOf("a:1", "", "b:1")
	fresh := acted(t, impl.Disk{}, act(impl.AcNew))
	bad := laid(map[string]string{"s0": "any"})
	badNow := impl.Disk{Safe: fresh.Live, Live: withoutPage(fresh.Live), Ops: dopsOf("-p1")}
	full := worn(filesOf("a:1 b:2"), 200)
	fullStore := worn(append(filesOf("a:1"), acted(t, fresh, act(impl.AcOpen)).Live...), 200)
	tooMany := applies(slices.Repeat([]string{"y"}, 31)...)
	for _, c := range []struct {
		name string
		d    impl.Disk
		a    impl.Act
		code int64
	}{
		{"a wrong disk, no kind", wrong, act(9), impl.StDisk},
		{"a wrong disk, new", wrong, act(impl.AcNew), impl.StDisk},
		{"a wrong disk, wrong changes", wrong, applies("toolong"), impl.StDisk},
		{"a wrong disk, open", wrong, withPower(act(impl.AcOpen), 0), impl.StDisk},
		{"a wrong disk, a wrong crash", wrong, crashed([]int64{5}, -1), impl.StDisk},
		{"no kind, no store", impl.Disk{}, act(9), impl.StForm},
		{"no kind, a bad store", bad, act(0), impl.StForm},
		{"no kind, no power", fresh, withPower(act(5), 0), impl.StForm},
		{"kind -1", fresh, act(-1), impl.StForm},
		{"the greatest kind", fresh, act(math.MaxInt64), impl.StForm},
		{"kind 2^32 and 1", impl.Disk{}, act(1<<32 + 1), impl.StForm},
		{"no kind, a wrong crash", fresh, impl.Act{Kind: 9, Keep: []int64{7}, Torn: -1}, impl.StForm},
		{"new, there is one, no power", fresh, withPower(act(impl.AcNew), 0), impl.StForm},
		{"new, a bad store, no power", bad, withPower(act(impl.AcNew), 0), impl.StForm},
		{"new, all that it has not to ask for", impl.Disk{}, impl.Act{Kind: impl.AcNew, Changes: []impl.Change{{}}, Keep: []int64{-1}, Torn: -1, Power: -1}, impl.StOk},
		{"open, all that it has not to ask for", fresh, impl.Act{Kind: impl.AcOpen, Changes: []impl.Change{{}}, Keep: []int64{-1}, Torn: -1, Power: -1}, impl.StOk},
		{"apply, all that it has not to ask for", fresh, impl.Act{Kind: impl.AcApply, Keep: []int64{-1}, Torn: -1, Power: -1}, impl.StOk},
		{"crash, all that it has not to ask for", fresh, impl.Act{Kind: impl.AcCrash, Changes: []impl.Change{{}}, Power: -1}, impl.StOk},
		{"wrong changes, no store", impl.Disk{}, applies("toolong"), impl.StNone},
		{"wrong changes, a bad store", bad, applies("toolong"), impl.StBad},
		{"wrong changes, no power", fresh, withPower(applies("toolong"), 0), impl.StForm},
		{"wrong changes, no op left", fullStore, applies("toolong"), impl.StForm},
		{"31 changes", fresh, tooMany, impl.StForm},
		{"an empty change", fresh, applies(""), impl.StForm},
		{"no store, no power", impl.Disk{}, withPower(applies("a"), 0), impl.StNone},
		{"open, no store, no power", impl.Disk{}, withPower(act(impl.AcOpen), 0), impl.StNone},
		{"open, no store, no op left", full, act(impl.AcOpen), impl.StNone},
		{"a wrong crash, no store", impl.Disk{}, crashed([]int64{0}, 0), impl.StForm},
		{"a wrong crash, a bad store", bad, crashed(nil, -1), impl.StForm},
		{"a wrong crash, no power", fresh, withPower(crashed([]int64{9}, 0), 0), impl.StForm},
		{"crash, a bad store that was not bad", badNow, crashed(nil, 0), impl.StOk},
		{"crash, a bad store", badNow, crashed([]int64{0}, 0), impl.StBad},
		{"open, a bad store that was not bad", badNow, act(impl.AcOpen), impl.StBad},
		{"new, no op left", full, act(impl.AcNew), impl.StFull},
		{"new, no op left, no power", full, withPower(act(impl.AcNew), 0), impl.StPower},
		{"open, no op left", fullStore, act(impl.AcOpen), impl.StFull},
		{"open, no op left, no power", fullStore, withPower(act(impl.AcOpen), 0), impl.StPower},
		{"open, no op left, some power", fullStore, withPower(act(impl.AcOpen), 1), impl.StFull},
	} {
		n, code := checkAct(t, c.name, c.d, c.a)
		if code != c.code {
			t.Error(c.name, n, code)
		}
		want := c.d
		if code == impl.StDisk {
			want = impl.Disk{}
		}
		if c.a.Kind != impl.AcCrash && code != impl.StOk && shown(n) != shown(want) {
			t.Error(c.name, n)
		}
	}
}

func withoutPage(l []impl.File) []impl.File {
	return slices.DeleteFunc(slices.Clone(l), func(f impl.File) bool { return f.Name == "p1" })
}

// TestCrashThatLeavesNoStore has the disk as it is behind the loss of power, or,
// where that is refused, as it was.
func TestCrashThatLeavesNoStore(t *testing.T) {
	newer, _ := twoSlots(9, 2)
	text := newer["s0"]
	d := impl.Disk{Live: filesIn(newer), Safe: filesIn(withoutFiles(newer, "s0", "p5")), Ops: []impl.DOp{
		{Kind: impl.DkAppend, Name: "p5", Data: newer["p5"][:4]}, {Kind: impl.DkAppend, Name: "p5", Data: newer["p5"][4:]}, {Kind: impl.DkAppend, Name: "s0", Data: text},
	}}
	for _, c := range []struct {
		keep []int64
		torn int64
		code int64
		want map[string]string
	}{
		{nil, 0, impl.StNone, withoutFiles(newer, "s0", "p5")},
		{[]int64{0, 1}, 99, impl.StNone, withoutFiles(newer, "s0")},
		{[]int64{2}, 99, impl.StBad, withoutFiles(newer, "p5")},
		{[]int64{0, 2}, 99, impl.StBad, with(newer, "p5", newer["p5"][:4])},
		{[]int64{1, 2}, 99, impl.StBad, with(newer, "p5", newer["p5"][4:])},
		{[]int64{0, 1, 2}, 0, impl.StBad, with(newer, "s0", "")},
		{[]int64{0, 1, 2}, int64(len(text)) - 1, impl.StBad, with(newer, "s0", text[:len(text)-1])},
		{[]int64{0, 1, 2}, int64(len(text)), impl.StOk, newer},
		{[]int64{0, 1, 2}, int64(len(text)) + 1, impl.StOk, newer},
	} {
		for _, power := range []int64{-1, 0, 5} {
			n, code := checkAct(t, "crash", d, withPower(crashed(c.keep, c.torn), power))
			if code != c.code || shown(n) != shown(laid(c.want)) {
				t.Error(c.keep, c.torn, n, code)
			}
		}
	}
	for _, a := range []impl.Act{crashed([]int64{1, 0}, 0), crashed([]int64{3}, 0), crashed([]int64{-1}, 0), crashed(nil, -1), crashed([]int64{0, 0}, 1)} {
		if n, code := checkAct(t, "a wrong crash", d, a); code != impl.StForm || shown(n) != shown(d) {
			t.Error(a, n, code)
		}
	}
	// What is left would be too much.
	over := playedDisk(t, laid(filesOfStore(impl.ShadowNew(), "s0"), filesMap(manyFiles(57, 0))), dopsOf("+a:1 -a +b:1")...)
	if n, code := checkAct(t, "too many files", over, crashed([]int64{0, 2}, 9)); code != impl.StForm || shown(n) != shown(over) {
		t.Error(n, code)
	}
}

// refused is an act of which a step is refused: the steps up to that one, and
// "full"; or, so that this is seen to be the limit, all steps.
type refused struct {
	name  string
	d     impl.Disk
	a     impl.Act
	steps string
}

func (c refused) check(t *testing.T) {
	t.Helper()
	got := stepsMade(t, c.name, c.d, c.a)
	if got != c.steps {
		t.Errorf("%s: %q, not %q", c.name, got, c.steps)
	}
	n, code := impl.StoreDo(c.d, c.a)
	if full := strings.HasSuffix(got, "full"); full != (code == impl.StFull) || full && shown(n) != shown(c.d) {
		t.Errorf("%s: %.300v %v", c.name, n, code)
	}
}

var smallStore = filesOfStore(storeOf("4 3 6", "3 kids 4 5", "4 leaf a b", "5 leaf c d"), "s1")

var stalePages = map[string]string{"p6": "any", "p7": "any"}

// tired has smallStore, and n ops.
func tired(n int, more ...map[string]string) impl.Disk {
	return worn(laid(append(more, smallStore)...).Live, n)
}

// filled has smallStore, and n files in all.
func filled(n int, more ...map[string]string) impl.Disk {
	d := laid(append(more, smallStore)...)
	return laid(filesMap(d.Live), filesMap(manyFiles(n-len(d.Live), 0)))
}

// heavy has smallStore, and so many bytes in all.
func heavy(bytes int, more ...map[string]string) impl.Disk {
	d := laid(append(more, smallStore)...)
	for _, f := range d.Live {
		bytes -= len(f.Data)
	}
	return laid(filesMap(d.Live), map[string]string{"big": strings.Repeat("x", bytes)})
}

// TestWhereAnApplyIsRefused has StFull at each step that may come to it.
func TestWhereAnApplyIsRefused(t *testing.T) {
	two, three := applies("d:9"), applies("a:9", "d:9")
	leaf6, leaf7, super := pageData(page(6, 4, 7)), pageData(leaf(7, "c", "d:9")), superData(5, 6, 8)
	for _, c := range []refused{
		{"60 files", filled(60), two, "full"},
		{"59 files", filled(59), two, "+p6 full"},
		{"58 files", filled(58), two, "+p6 +p7 sync full"},
		{"57 files", filled(57), two, "+p6 +p7 sync +s0 sync -p3 -p5"},
		{"58 files, three pages", filled(58), three, "+p6 +p7 full"},
		{"58 files, both slots", filled(58, map[string]string{"s0": ""}), two, "+p6 +p7 sync -s0 +s0 sync -p3 -p5"},
		{"60 files, the pages are there", filled(60, stalePages), two, "-p6 +p6 -p7 +p7 sync full"},
		{"60 files, all is there", filled(60, stalePages, map[string]string{"s0": "any"}), two, "-p6 +p6 -p7 +p7 sync -s0 +s0 sync -p3 -p5"},
		{"60 files, nothing new but the slot", filled(60), applies(), "sync full"},
		{"59 files, nothing new but the slot", filled(59), applies(), "sync +s0 sync"},
		{"200000 bytes", heavy(200000), two, "full"},
		{"no bytes for the first page", heavy(200001 - len(leaf6)), two, "full"},
		{"bytes for the first page", heavy(200000 - len(leaf6)), two, "+p6 full"},
		{"a byte too few for the second one", heavy(200001 - len(leaf6) - len(leaf7)), two, "+p6 full"},
		{"bytes for both", heavy(200000 - len(leaf6) - len(leaf7)), two, "+p6 +p7 sync full"},
		{"a byte too few for the slot", heavy(200001 - len(leaf6) - len(leaf7) - len(super)), two, "+p6 +p7 sync full"},
		{"bytes for all", heavy(200000 - len(leaf6) - len(leaf7) - len(super)), two, "+p6 +p7 sync +s0 sync -p3 -p5"},
		{"bytes for all, the slot was as long", heavy(200000-len(leaf6)-len(leaf7), map[string]string{"s0": super}), two, "+p6 +p7 sync -s0 +s0 sync -p3 -p5"},
		{"no op left", tired(200), two, "full"},
		{"one op left", tired(199), two, "+p6 full"},
		{"two ops left", tired(198), two, "+p6 +p7 sync +s0 sync -p3 -p5"},
		{"no op left, pages there", tired(200, stalePages), two, "full"},
		{"one op left, pages there", tired(199, stalePages), two, "-p6 full"},
		{"three ops left, pages there", tired(197, stalePages), two, "-p6 +p6 -p7 full"},
		{"four ops left, pages there", tired(196, stalePages), two, "-p6 +p6 -p7 +p7 sync +s0 sync -p3 -p5"},
		{"no op left, no page", tired(200), applies(), "sync +s0 sync"},
	} {
		c.check(t)
	}
}

func TestWhereOtherActsAreRefused(t *testing.T) {
	for _, c := range []refused{
		{"open, no op left", tired(200, stalePages), act(impl.AcOpen), "full"},
		{"open, one op left", tired(199, stalePages), act(impl.AcOpen), "-p6 full"},
		{"open, two ops left", tired(198, stalePages), act(impl.AcOpen), "-p6 -p7 sync"},
		{"open, no op left, nothing to do", tired(200), act(impl.AcOpen), ""},
		{"open, 60 files", filled(60, stalePages), act(impl.AcOpen), strings.Join(removals(54), " ") + " -p6 -p7 sync"},
		{"crash, no op left", tired(200, stalePages), crashed(nil, 0), "-p6 -p7 sync"},
		{"crash, all kept", tired(200, stalePages), crashed(rising(0, 200), 0), "-p6 -p7 sync"},
		{"new, no op left", worn(manyFiles(2, 1), 200), act(impl.AcNew), "full"},
		{"new, one op left", worn(manyFiles(2, 1), 199), act(impl.AcNew), "-f10 full"},
		{"new, two ops left", worn(manyFiles(2, 1), 198), act(impl.AcNew), "-f10 -f11 full"},
		{"new, three ops left", worn(manyFiles(2, 1), 197), act(impl.AcNew), "-f10 -f11 +p1 sync +s0 sync"},
		{"new, 60 files", syncedDisk(manyFiles(60, 1)), act(impl.AcNew), strings.Join(removals(60), " ") + " +p1 sync +s0 sync"},
		{"new, 60 files, 140 ops", worn(manyFiles(60, 1), 140), act(impl.AcNew), strings.Join(removals(60), " ") + " full"},
		{"new, 60 files, 139 ops", worn(manyFiles(60, 1), 139), act(impl.AcNew), strings.Join(removals(60), " ") + " +p1 sync +s0 sync"},
		{"new, 200000 bytes", syncedDisk(manyFiles(1, 200000)), act(impl.AcNew), "-f10 +p1 sync +s0 sync"},
		{"new, nothing there, 200 ops", impl.Disk{Ops: slices.Repeat(dopsOf("+a: -a"), 100)}, act(impl.AcNew), "full"},
		{"new, nothing there, 199 ops", playedDisk(t, impl.Disk{Ops: slices.Repeat(dopsOf("+a: -a"), 99)}, dopsOf("+a:")...), act(impl.AcNew), "-a full"},
	} {
		c.check(t)
	}
}

// removals are the steps that remove n of manyFiles.
func removals(n int) []string {
	var l []string
	for _, f := range manyFiles(n, 0) {
		l = append(l, "-"+f.Name)
	}
	return l
}

func TestStorePlay(t *testing.T) {
	d := diskOf("a:1", "+b:2", "a:1 b:2")
	if n, codes := impl.StorePlay(d, nil); shown(n) != shown(d) || len(codes) != 0 {
		t.Error("none:", n, codes)
	}
	if n, codes := impl.StorePlay(d, []impl.Act{}); shown(n) != shown(d) || len(codes) != 0 {
		t.Error("none, not nil:", n, codes)
	}
	wrong := diskOf("a:1", "", "")
	for _, l := range [][]impl.Act{nil, {act(impl.AcNew)}, {act(9), act(impl.AcOpen)}} {
		if n, codes := impl.StorePlay(wrong, l); shown(n) != shown(impl.Disk{}) || len(codes) != 0 {
			t.Error("a wrong disk:", l, n, codes)
		}
	}
	l := []impl.Act{act(impl.AcOpen), act(9), act(impl.AcNew), act(impl.AcNew), applies("a"), applies("toolong"), withPower(applies("b"), 3), crashed([]int64{0}, 3), crashed([]int64{9}, 0), withPower(act(impl.AcOpen), 0), applies("c")}
	n, codes := impl.StorePlay(d, l)
	if want := []int64{impl.StNone, impl.StForm, impl.StOk, impl.StForm, impl.StOk, impl.StForm, impl.StPower, impl.StOk, impl.StForm, impl.StOk, impl.StOk}; !slices.Equal(codes, want) {
		t.Error(codes)
	}
	if m, code := impl.StoreView(n); code != impl.StOk || !slices.Equal(m, pairsOf("a", "c")) {
		t.Error(m, code)
	}
	var many []impl.Act
	for i := range 300 {
		many = append(many, applies("k"+strconv.Itoa(i%40)))
	}
	n, codes = impl.StorePlay(acted(t, impl.Disk{}, act(impl.AcNew)), many)
	m, code := impl.StoreView(n)
	if len(codes) != 300 || slices.Max(codes) != impl.StOk || code != impl.StOk || len(m) != 40 {
		t.Error(codes, m, code)
	}
}

// someChangesOf are a few changes of a few keys.
func someChangesOf(r *rand.Rand) []impl.Change {
	var l []impl.Change
	for range r.Intn(5) {
		k := string([]byte{'a' + byte(r.Intn(9))})
		l = append(l, impl.Change{Key: k, Val: strconv.Itoa(r.Intn(3))})
		if r.Intn(3) == 0 {
			l[len(l)-1] = impl.Change{Key: k, Gone: true}
		}
	}
	return l
}

func someAct(r *rand.Rand, d impl.Disk) impl.Act {
	a := impl.Act{Kind: impl.AcApply, Changes: someChangesOf(r), Power: r.Int63n(14) - 3}
	switch r.Intn(12) {
	case 0:
		a.Kind = impl.AcNew
	case 1:
		a.Kind = r.Int63n(7) - 1
	case 2, 3:
		a.Kind = impl.AcOpen
	case 4, 5, 6:
		a.Kind, a.Keep, a.Torn = impl.AcCrash, someKeep(r, len(d.Ops)), r.Int63n(50)
	case 7:
		a.Changes = append(a.Changes, impl.Change{Key: "wrong"})
	}
	return a
}

// meddled is d with one thing done to it by another one.
func meddled(r *rand.Rand, d impl.Disk) impl.Disk {
	name := []string{"p1", "p2", "p3", "p4", "s0", "s1", "a", "z"}[r.Intn(8)]
	if len(d.Live) > 0 && r.Intn(2) == 0 {
		name = d.Live[r.Intn(len(d.Live))].Name
	}
	x := impl.DOp{Kind: impl.DkRemove, Name: name}
	switch r.Intn(4) {
	case 0:
		x = impl.DOp{Kind: impl.DkAppend, Name: name, Data: " "}
	case 1:
		x = impl.DOp{Kind: impl.DkRename, Name: name, To: []string{"s0", "s1", "p3"}[r.Intn(3)]}
	case 2:
		x = impl.DOp{Kind: impl.DkAppend, Name: name, Data: superData(1+r.Int63n(9), 1+r.Int63n(9), 10)}
	}
	n, _ := impl.Do(d, x)
	return n
}

func TestStoresAgainstAModel(t *testing.T) {
	r := rand.New(rand.NewSource(11))
	codes, views := map[int64]int{}, map[int64]int{}
	for range 400 {
		d := impl.Disk{}
		if r.Intn(5) > 0 {
			d, _ = impl.StoreDo(d, act(impl.AcNew))
		}
		start := d
		var acts []impl.Act
		var told []int64
		for range 20 {
			if r.Intn(12) == 0 {
				d = meddled(r, d)
				start, acts, told = d, nil, nil
			}
			a := someAct(r, d)
			n, code := checkAct(t, "some", d, a)
			codes[code]++
			views[checkStore(t, "some", n)]++
			acts, told, d = append(acts, a), append(told, code), n
		}
		if n, all := impl.StorePlay(start, acts); shown(n) != shown(d) || !slices.Equal(all, told) {
			t.Fatal(start, acts, n, all, "not", d, told)
		}
	}
	for _, code := range []int64{impl.StOk, impl.StBad, impl.StForm, impl.StPower, impl.StNone} {
		if codes[code] < 100 {
			t.Error(codes)
		}
	}
	if views[impl.StOk] < 1000 || views[impl.StBad] < 100 || views[impl.StNone] < 100 {
		t.Error(views)
	}
}

// losses calls with each choice of what is kept of a disk's ops, and each way in
// which the last one may be torn that makes a difference worth a look.
func losses(r *rand.Rand, d impl.Disk, look func(a impl.Act)) {
	n := len(d.Ops)
	choices := make([][]int64, 0, 256)
	for set := range 1 << min(n, 7) {
		var keep []int64
		for i := range n {
			// Of many ops not each choice is tried, but the last ones' are.
			if back := n - 1 - i; back < 7 && set>>back&1 == 1 || back >= 7 && r.Intn(2) == 0 {
				keep = append(keep, int64(i))
			}
		}
		choices = append(choices, keep)
	}
	for _, keep := range choices {
		torn := []int64{0}
		if len(keep) > 0 {
			if x := d.Ops[keep[len(keep)-1]]; x.Kind == impl.DkAppend {
				size := int64(len(x.Data))
				torn = []int64{0, 1, size / 2, size - 2, size - 1, size, size + 1}
			}
		}
		for _, n := range torn {
			look(crashed(keep, max(n, 0)))
		}
	}
}

// checkLosses has power be lost between any two steps of an act, with anything
// kept, and looks whether there is what was there, or what there was to be.
func checkLosses(t *testing.T, r *rand.Rand, d impl.Disk, a impl.Act) int {
	t.Helper()
	was, wasCode := impl.StoreView(d)
	done, code := impl.StoreDo(d, a)
	if code != impl.StOk {
		t.Fatal(a, d, code)
	}
	is, _ := impl.StoreView(done)
	tried := 0
	for power := int64(0); ; power++ {
		n, code := checkAct(t, "power", d, withPower(a, power))
		losses(r, n, func(crash impl.Act) {
			tried++
			left, code := impl.StoreDo(n, crash)
			m, _ := impl.StoreView(left)
			if wasCode == impl.StNone && code != impl.StOk {
				// There was no store, and there is none yet.
				if code != impl.StNone && code != impl.StBad {
					t.Fatal(a, power, crash, left, code)
				}
				return
			}
			if code != impl.StOk || !slices.Equal(m, was) && !slices.Equal(m, is) {
				t.Fatalf("%v with power %d, then %v of\n%v leaves %v %v, not %v or %v", a, power, crash, n, m, code, was, is)
			}
			checkClean(t, left)
			if r.Intn(20) == 0 {
				checkSecondLoss(t, r, n, crash, m)
			}
		})
		if code == impl.StOk {
			return tried
		}
	}
}

// checkClean looks whether a disk has just a store's files, and all safe.
func checkClean(t *testing.T, d impl.Disk) {
	t.Helper()
	s, slot, _ := storeByModel(d)
	if len(d.Ops) != 0 || shown(d) != shown(laid(filesOfStore(s, slot))) {
		t.Fatal(d, "is not clean")
	}
}

// checkSecondLoss has power be lost once more while the store is opened: there
// is what there was.
func checkSecondLoss(t *testing.T, r *rand.Rand, d impl.Disk, crash impl.Act, m []impl.Pair) {
	t.Helper()
	for power := int64(0); ; power++ {
		n, code := checkAct(t, "opened", d, withPower(crash, power))
		losses(r, n, func(again impl.Act) {
			left, code := impl.StoreDo(n, again)
			if got, _ := impl.StoreView(left); code != impl.StOk || !slices.Equal(got, m) {
				t.Fatal(crash, power, again, left, code, "not", m)
			}
		})
		if code == impl.StOk {
			return
		}
	}
}

// TestLossesOfPower is promise 11: acts on stores, each of which loses power
// between any two steps, with any of what was not synced kept.
func TestLossesOfPower(t *testing.T) {
	r := rand.New(rand.NewSource(12))
	tried := 0
	for range 40 {
		d := impl.Disk{}
		if r.Intn(2) == 0 {
			d = laid(map[string]string{"p1": pageData(leaf(1, "old")), "p2": "any", "zz": "1"})
		}
		tried += checkLosses(t, r, d, act(impl.AcNew))
		d = acted(t, d, act(impl.AcNew))
		for range 8 {
			a := impl.Act{Kind: impl.AcApply, Changes: someChangesOf(r), Power: -1}
			tried += checkLosses(t, r, d, a)
			tried += checkLosses(t, r, d, act(impl.AcOpen))
			// The next one begins behind the act, or behind a loss in it.
			switch r.Intn(3) {
			case 0:
				d = acted(t, d, a)
			case 1:
				d = acted(t, d, a, act(impl.AcOpen))
			default:
				n, _ := checkAct(t, "lost", d, withPower(a, r.Int63n(8)))
				d = acted(t, n, crashed(someKeep(r, len(n.Ops)), r.Int63n(40)))
			}
		}
	}
	if tried < 10000 {
		t.Error(tried)
	}
}

// TestTheFirstSlotTorn has power be lost while the first slot of all is laid.
func TestTheFirstSlotTorn(t *testing.T) {
	d, code := checkAct(t, "new", impl.Disk{}, withPower(act(impl.AcNew), 3))
	if code != impl.StPower || len(d.Ops) != 1 {
		t.Fatal(d, code)
	}
	size := int64(len(d.Ops[0].Data))
	for torn := range size {
		left, code := checkAct(t, "torn", d, crashed([]int64{0}, torn))
		if code != impl.StBad || checkStore(t, "torn", left) != impl.StBad {
			t.Error(torn, left, code)
		}
		if _, code := checkAct(t, "new again", left, act(impl.AcNew)); code != impl.StForm {
			t.Error(torn, code)
		}
	}
	left, code := checkAct(t, "no slot", d, crashed(nil, 0))
	if code != impl.StNone {
		t.Error(left, code)
	}
	again := acted(t, left, act(impl.AcNew))
	whole := acted(t, d, crashed([]int64{0}, size))
	if shown(again) != shown(whole) {
		t.Error(again, whole)
	}
}

// TestGoingOnWithoutALoss has an act behind one that ended with StPower, though
// no power was lost: the steps are as they are told, and do not keep the store.
func TestGoingOnWithoutALoss(t *testing.T) {
	d := acted(t, impl.Disk{}, act(impl.AcNew), applies("a", "b"))
	half, code := checkAct(t, "half", d, withPower(applies("c"), 4))
	if m, other := impl.StoreView(half); code != impl.StPower || other != impl.StOk || len(m) != 3 {
		t.Fatal(half, code, m, other)
	}
	more := acted(t, half, applies("d"), applies("-a"))
	if m, code := impl.StoreView(more); code != impl.StOk || !slices.Equal(m, pairsOf("b", "c", "d")) {
		t.Error(more, m, code)
	}
	open, code := checkAct(t, "open", half, withPower(act(impl.AcOpen), 2))
	if code != impl.StPower || len(open.Ops) != 4 {
		t.Fatal(open, code)
	}
	if n, code := checkAct(t, "all kept", open, crashed(rising(0, 4), 0)); code != impl.StOk {
		t.Error(n, code)
	}
	if n, code := checkAct(t, "the removals alone are kept", open, crashed([]int64{2, 3}, 0)); code != impl.StBad {
		t.Error(n, code)
	}
}

// TestAStoreThatGrowsAndShrinks has many pairs, and loses power now and then.
func TestAStoreThatGrowsAndShrinks(t *testing.T) {
	r := rand.New(rand.NewSource(13))
	d := acted(t, impl.Disk{}, act(impl.AcNew))
	var m []impl.Pair
	lost, old, most := 0, 0, 0
	for i := range 250 {
		l := someWords(r, i/60%2 == 0)
		a := impl.Act{Kind: impl.AcApply, Changes: l, Power: -1}
		if r.Intn(3) == 0 {
			a.Power = r.Int63n(16)
		}
		next := changedMap(m, l)
		n, code := checkAct(t, "grows", d, a)
		if code == impl.StPower {
			lost++
			n = acted(t, n, crashed(someKeep(r, len(n.Ops)), r.Int63n(60)))
			if got, _ := impl.StoreView(n); slices.Equal(got, m) {
				next = m
				old++
			}
		} else if code != impl.StOk {
			t.Fatal(l, code)
		}
		if got, _ := impl.StoreView(n); !slices.Equal(got, next) {
			t.Fatal(i, l, got, "not", next)
		}
		d, m, most = n, next, max(most, len(next))
	}
	if most < 30 || lost < 50 || old < 20 {
		t.Error(most, lost, old)
	}
}
