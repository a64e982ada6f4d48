package tests

import (
	"maps"
	"math"
	"math/rand"
	"slices"
	"strconv"
	"strings"
	"testing"

	"loop.example/g00573/impl"
)

// filesOf has a file for each word: "a:xy" is the file a with the Data xy.
func filesOf(s string) []impl.File {
	var l []impl.File
	for _, w := range strings.Fields(s) {
		name, data, _ := strings.Cut(w, ":")
		l = append(l, impl.File{Name: name, Data: data})
	}
	return l
}

// dopsOf has an op for each word: "+a:xy" puts xy behind a, ">a:b" renames a to
// b, "-a" removes a.
func dopsOf(s string) []impl.DOp {
	var l []impl.DOp
	for _, w := range strings.Fields(s) {
		name, more, _ := strings.Cut(w[1:], ":")
		switch w[0] {
		case '+':
			l = append(l, impl.DOp{Kind: impl.DkAppend, Name: name, Data: more})
		case '>':
			l = append(l, impl.DOp{Kind: impl.DkRename, Name: name, To: more})
		default:
			l = append(l, impl.DOp{Kind: impl.DkRemove, Name: name})
		}
	}
	return l
}

func diskOf(safe string, ops string, live string) impl.Disk {
	return impl.Disk{Live: filesOf(live), Safe: filesOf(safe), Ops: dopsOf(ops)}
}

func syncedDisk(l []impl.File) impl.Disk {
	return impl.Disk{Live: l, Safe: slices.Clone(l)}
}

// manyFiles has n files f10, f11 .. with so many bytes each.
func manyFiles(n int, bytes int) []impl.File {
	var l []impl.File
	for i := range n {
		l = append(l, impl.File{Name: "f" + strconv.Itoa(10+i), Data: strings.Repeat("x", bytes)})
	}
	return l
}

// worn is a disk with these files and n ops, which put nothing behind the first
// one of them.
func worn(l []impl.File, n int) impl.Disk {
	d := syncedDisk(l)
	d.Ops = slices.Repeat([]impl.DOp{{Kind: impl.DkAppend, Name: l[0].Name}}, n)
	return d
}

// named is a name of n bytes.
func named(n int) string { return strings.Repeat("n", n) }

func filesMap(l []impl.File) map[string]string {
	files := map[string]string{}
	for _, f := range l {
		files[f.Name] = f.Data
	}
	return files
}

func filesIn(files map[string]string) []impl.File {
	var l []impl.File
	for _, name := range slices.Sorted(maps.Keys(files)) {
		l = append(l, impl.File{Name: name, Data: files[name]})
	}
	return l
}

// doIn does x in a built-in map; false when it finds no file.
func doIn(files map[string]string, x impl.DOp) bool {
	data, there := files[x.Name]
	if x.Kind == impl.DkAppend {
		files[x.Name] = data + x.Data
		return true
	}
	delete(files, x.Name)
	if there && x.Kind == impl.DkRename {
		files[x.To] = data
	}
	return there
}

func dopIsRight(x impl.DOp) bool {
	name, to := len(x.Name) > 0 && len(x.Name) < 101, len(x.To) > 0 && len(x.To) < 101
	switch x.Kind {
	case impl.DkAppend:
		return name && x.To == ""
	case impl.DkRename:
		return name && to && x.Data == ""
	}
	return x.Kind == impl.DkRemove && name && x.To == "" && x.Data == ""
}

// filesProblem tells why a list of files is not right; "" when it is.
func filesProblem(l []impl.File) string {
	var names []string
	bytes := 0
	for _, f := range l {
		if f.Name == "" || len(f.Name) > 100 {
			return "a name"
		}
		names = append(names, f.Name)
		bytes += len(f.Data)
	}
	switch {
	case len(l) > 60:
		return "too many files"
	case bytes > 200000:
		return "too many bytes"
	case !slices.Equal(slices.Compact(slices.Sorted(slices.Values(names))), names):
		return "names that don't rise"
	}
	return ""
}

// diskProblem tells why d is not right; "" when it is.
func diskProblem(d impl.Disk) string {
	if len(d.Ops) > 200 {
		return "too many ops"
	}
	if filesProblem(d.Safe) != "" || filesProblem(d.Live) != "" {
		return "files: " + filesProblem(d.Safe) + filesProblem(d.Live)
	}
	files := filesMap(d.Safe)
	for _, x := range d.Ops {
		if !dopIsRight(x) || !doIn(files, x) || filesProblem(filesIn(files)) != "" {
			return "an op"
		}
	}
	if !maps.Equal(files, filesMap(d.Live)) {
		return "Live is another one"
	}
	return ""
}

// doByModel is a second way to work out Do: it is full when what would come of
// it is not right.
func doByModel(d impl.Disk, x impl.DOp) (impl.Disk, int64) {
	files := filesMap(d.Live)
	switch {
	case diskProblem(d) != "":
		return impl.Disk{}, impl.DkDisk
	case !dopIsRight(x):
		return d, impl.DkForm
	case !doIn(files, x):
		return d, impl.DkNone
	}
	n := impl.Disk{Live: filesIn(files), Safe: d.Safe, Ops: append(slices.Clone(d.Ops), x)}
	if diskProblem(n) != "" {
		return d, impl.DkFull
	}
	return n, impl.DkOk
}

func crashByModel(d impl.Disk, keep []int64, torn int64) (impl.Disk, bool) {
	if diskProblem(d) != "" || torn < 0 {
		return impl.Disk{}, false
	}
	files := filesMap(d.Safe)
	for i, place := range keep {
		if place < 0 || place >= int64(len(d.Ops)) || i > 0 && keep[i-1] >= place {
			return impl.Disk{}, false
		}
		x := d.Ops[place]
		if i == len(keep)-1 && torn < int64(len(x.Data)) {
			x.Data = x.Data[:torn]
		}
		doIn(files, x)
	}
	n := syncedDisk(filesIn(files))
	if diskProblem(n) != "" {
		return impl.Disk{}, false
	}
	return n, true
}

func replaceByModel(d impl.Disk, name string, data string) (impl.Disk, int64) {
	l := []impl.DOp{{Kind: impl.DkAppend, Name: name + ".new", Data: data}, {Kind: impl.DkRename, Name: name + ".new", To: name}}
	if _, there := filesMap(d.Live)[name+".new"]; there {
		l = append([]impl.DOp{{Kind: impl.DkRemove, Name: name + ".new"}}, l...)
	}
	n := d
	for _, x := range l {
		next, code := doByModel(n, x)
		if code == impl.DkDisk {
			return next, code
		}
		if code != impl.DkOk {
			return d, code
		}
		n = next
	}
	return n, impl.DkOk
}

func rightDisks() map[string]impl.Disk {
	names := syncedDisk([]impl.File{{Name: "\x00"}, {Name: " \n"}, {Name: named(100), Data: "1"}, {Name: "\xff\xfe", Data: "\x00"}})
	long := diskOf("a:1", "", "")
	long.Ops = []impl.DOp{{Kind: impl.DkRename, Name: "a", To: named(100)}, {Kind: impl.DkAppend, Name: named(99), Data: "2"}}
	long.Live = []impl.File{{Name: named(99), Data: "2"}, {Name: named(100), Data: "1"}}
	made := impl.Disk{Live: manyFiles(60, 1)}
	for _, f := range made.Live {
		made.Ops = append(made.Ops, impl.DOp{Kind: impl.DkAppend, Name: f.Name, Data: f.Data})
	}
	between := impl.Disk{Safe: manyFiles(1, 1), Live: manyFiles(1, 1)}
	between.Ops = append(dopsOf("+b:"), impl.DOp{Kind: impl.DkAppend, Name: "b", Data: strings.Repeat("x", 199999)}, impl.DOp{Kind: impl.DkRemove, Name: "b"})
	filled := impl.Disk{Safe: manyFiles(59, 1), Live: manyFiles(59, 1), Ops: dopsOf("+g:1 >g:h -h +g: >f10:g +f10:1 -f10 >g:f10")}
	return map[string]impl.Disk{
		"nothing at all":          {},
		"one file":                syncedDisk(filesOf("a:1")),
		"an empty file":           syncedDisk(filesOf("a:")),
		"some files":              syncedDisk(filesOf("a:1 aa: b:22 c:333")),
		"names of any bytes":      names,
		"names of 99 and 100":     long,
		"appended":                diskOf("log:ab", "+log:cd +b:x", "b:x log:abcd"),
		"a file that was not":     diskOf("", "+a:1 +a:2", "a:12"),
		"nothing appended":        diskOf("a:1", "+a: +b:", "a:1 b:"),
		"renamed":                 diskOf("a:1", ">a:b", "b:1"),
		"renamed to itself":       diskOf("a:1 b:2", ">a:a", "a:1 b:2"),
		"renamed over another":    diskOf("a:1 b:2", ">a:b", "b:1"),
		"renamed and back":        diskOf("a:1 b:2", ">a:c >c:a", "a:1 b:2"),
		"removed":                 diskOf("a:1 b:2", "-a", "b:2"),
		"removed, and there anew": diskOf("a:1 b:2", "-a +a:3", "a:3 b:2"),
		"all removed":             diskOf("a:1 b:2", "-b -a", ""),
		"there for a while":       diskOf("", "+a:1 -a", ""),
		"some of all":             diskOf("a:1 b:2 d:4", "+c:3 >a:b -d +b:5 >c:d +e:", "b:15 d:3 e:"),
		"60 files":                syncedDisk(manyFiles(60, 0)),
		"60 files by ops":         made,
		"60 files between":        filled,
		"200000 bytes in one":     syncedDisk(manyFiles(1, 200000)),
		"200000 bytes in 50":      syncedDisk(manyFiles(50, 4000)),
		"200000 bytes between":    between,
		"199 ops":                 worn(filesOf("a:1 b:2"), 199),
		"200 ops":                 worn(filesOf("a:1 b:2"), 200),
	}
}

// wrongDisks are disks that are not right, most of them in one thing alone.
func wrongDisks() map[string]impl.Disk {
	w := map[string]impl.Disk{
		"Live is more than Safe":      diskOf("", "", "a:1"),
		"Live is less than Safe":      diskOf("a:1", "", ""),
		"Live has other Data":         diskOf("a:1", "", "a:2"),
		"Live has another name":       diskOf("a:1", "", "b:1"),
		"an op is not in Live":        diskOf("a:1", "+a:2", "a:1"),
		"an op is twice in Live":      diskOf("a:1", "+a:2", "a:122"),
		"ops in another order":        diskOf("", "+a:1 +a:2", "a:21"),
		"an append ahead":             diskOf("a:1", "+a:2", "a:21"),
		"a rename that kept both":     diskOf("a:1", ">a:b", "a:1 b:1"),
		"a rename that kept To":       diskOf("a:1 b:2", ">a:b", "b:2"),
		"a rename to itself, away":    diskOf("a:1", ">a:a", ""),
		"a removal that kept it":      diskOf("a:1", "-a", "a:1"),
		"a removal of what is not":    diskOf("a:1", "-b", "a:1"),
		"a removal twice":             diskOf("a:1 b:2", "-b -b", "a:1"),
		"a rename of what is not":     diskOf("a:1", ">b:c", "a:1"),
		"a rename of what is gone":    diskOf("a:1 b:2", "-b >b:c", "a:1"),
		"of what is not, to itself":   diskOf("a:1", ">b:b", "a:1"),
		"names fall":                  syncedDisk(filesOf("b:1 a:2")),
		"the last name falls":         syncedDisk(filesOf("a:1 c:2 b:3")),
		"names alike":                 syncedDisk(filesOf("a:1 a:1")),
		"names fall in Live":          diskOf("a:2 b:1", "", "b:1 a:2"),
		"names fall in Safe":          diskOf("b:1 a:2", "", "a:2 b:1"),
		"names fall in Safe, one off": diskOf("b:1 a:2", "-b", "a:2"),
		"names alike in Live":         diskOf("a:1", "", "a:1 a:1"),
		"names alike in Safe":         diskOf("a:1 a:1", "", "a:1"),
		"names alike in Safe, gone":   diskOf("a:1 a:1 b:2", "-a", "b:2"),
		"an empty name":               syncedDisk([]impl.File{{}}),
		"an empty name in Live":       {Live: []impl.File{{}}},
		"an empty name in Safe":       {Safe: []impl.File{{}}},
		"a name of 101":               syncedDisk([]impl.File{{Name: "a"}, {Name: named(101)}}),
		"61 files":                    syncedDisk(manyFiles(61, 0)),
		"61 files in Live":            {Safe: manyFiles(60, 0), Ops: dopsOf("+f70:"), Live: manyFiles(61, 0)},
		"61 files in Safe":            {Safe: manyFiles(61, 0), Ops: dopsOf("-f70"), Live: manyFiles(60, 0)},
		"61 files between":            {Safe: manyFiles(60, 0), Ops: dopsOf("+f70: -f70"), Live: manyFiles(60, 0)},
		"200001 bytes":                syncedDisk(manyFiles(1, 200001)),
		"200001 bytes in three":       syncedDisk(manyFiles(3, 66667)),
		"200001 bytes in Live":        {Safe: manyFiles(1, 200000), Ops: dopsOf("+f10:x"), Live: manyFiles(1, 200001)},
		"200001 bytes in Safe":        {Safe: manyFiles(1, 200001), Ops: dopsOf("-f10")},
		"200001 bytes between":        {Safe: manyFiles(1, 200000), Ops: dopsOf("+a:x -a"), Live: manyFiles(1, 200000)},
		"201 ops":                     worn(filesOf("a:1 b:2"), 201),
		"400 ops":                     worn(filesOf("a:1 b:2"), 400),
	}
	for name, x := range wrongDops() {
		// What it would be, were that op done for all that.
		files := filesMap(filesOf("a:1 b:2"))
		doIn(files, x)
		w["an op: "+name] = impl.Disk{Safe: filesOf("a:1 b:2"), Live: filesIn(files), Ops: []impl.DOp{x}}
		w["an op, done nothing: "+name] = impl.Disk{Safe: filesOf("a:1 b:2"), Live: filesOf("a:1 b:2"), Ops: []impl.DOp{x}}
	}
	return w
}

// wrongDops are not of their form. Those with a name that is there have a.
func wrongDops() map[string]impl.DOp {
	return map[string]impl.DOp{
		"nothing at all":             {},
		"Kind 0":                     {Name: "a"},
		"Kind 4":                     {Kind: 4, Name: "a"},
		"Kind -1":                    {Kind: -1, Name: "a"},
		"Kind 2^32 and 1":            {Kind: 1<<32 + 1, Name: "a"},
		"the greatest Kind":          {Kind: math.MaxInt64, Name: "a"},
		"the least Kind":             {Kind: math.MinInt64, Name: "a"},
		"append, no name":            {Kind: impl.DkAppend, Data: "1"},
		"append, a name of 101":      {Kind: impl.DkAppend, Name: named(101), Data: "1"},
		"append, a name of 200":      {Kind: impl.DkAppend, Name: named(200), Data: "1"},
		"append, To":                 {Kind: impl.DkAppend, Name: "a", To: "b", Data: "1"},
		"append, To itself":          {Kind: impl.DkAppend, Name: "a", To: "a", Data: "1"},
		"append, To, no Data":        {Kind: impl.DkAppend, Name: "a", To: "b"},
		"append, To of 101":          {Kind: impl.DkAppend, Name: "a", To: named(101)},
		"rename, no name":            {Kind: impl.DkRename, To: "b"},
		"rename, no To":              {Kind: impl.DkRename, Name: "a"},
		"rename, neither":            {Kind: impl.DkRename},
		"rename, a name of 101":      {Kind: impl.DkRename, Name: named(101), To: "b"},
		"rename, To of 101":          {Kind: impl.DkRename, Name: "a", To: named(101)},
		"rename, both of 101":        {Kind: impl.DkRename, Name: named(101), To: named(101)},
		"rename, Data":               {Kind: impl.DkRename, Name: "a", To: "b", Data: "1"},
		"rename, to itself and Data": {Kind: impl.DkRename, Name: "a", To: "a", Data: "1"},
		"remove, no name":            {Kind: impl.DkRemove},
		"remove, a name of 101":      {Kind: impl.DkRemove, Name: named(101)},
		"remove, To":                 {Kind: impl.DkRemove, Name: "a", To: "b"},
		"remove, To itself":          {Kind: impl.DkRemove, Name: "a", To: "a"},
		"remove, Data":               {Kind: impl.DkRemove, Name: "a", Data: "1"},
		"remove, both":               {Kind: impl.DkRemove, Name: "a", To: "b", Data: "1"},
	}
}

// someDops are right ones and wrong ones.
func someDops() []impl.DOp {
	l := dopsOf("+a:1 +a: +b:22 +zz:1 +log:x +f10:x >a:b >a:a >b:a >a:zz >zz:a >zz:zz >log:a -a -b -zz -f10 -log")
	l = append(l,
		impl.DOp{Kind: impl.DkAppend, Name: named(100), Data: "1"},
		impl.DOp{Kind: impl.DkRename, Name: "a", To: named(100)},
		impl.DOp{Kind: impl.DkRename, Name: named(100), To: "a"},
		impl.DOp{Kind: impl.DkRemove, Name: named(100)})
	return slices.AppendSeq(l, maps.Values(wrongDops()))
}

// checkDo does x both ways.
func checkDo(t *testing.T, name string, d impl.Disk, x impl.DOp) (impl.Disk, int64) {
	t.Helper()
	n, code := impl.Do(d, x)
	want, wantCode := doByModel(d, x)
	if code != wantCode || shown(n) != shown(want) {
		t.Fatalf("%s: %.300v with %.200v is\n%.300v %v, not\n%.300v %v", name, d, x, n, code, want, wantCode)
	}
	return n, code
}

func checkCrash(t *testing.T, name string, d impl.Disk, keep []int64, torn int64) (impl.Disk, bool) {
	t.Helper()
	n, ok := impl.Crash(d, keep, torn)
	want, wantOk := crashByModel(d, keep, torn)
	if ok != wantOk || shown(n) != shown(want) {
		t.Fatalf("%s: %.300v with %v and %v is\n%.300v %v, not\n%.300v %v", name, d, keep, torn, n, ok, want, wantOk)
	}
	return n, ok
}

func checkReplace(t *testing.T, name string, d impl.Disk, file string, data string) (impl.Disk, int64) {
	t.Helper()
	n, code := impl.Replace(d, file, data)
	want, wantCode := replaceByModel(d, file, data)
	if code != wantCode || shown(n) != shown(want) {
		t.Fatalf("%s: %.300v with %q is\n%.300v %v, not\n%.300v %v", name, d, file, n, code, want, wantCode)
	}
	return n, code
}

func checkFiles(t *testing.T, name string, d impl.Disk, names ...string) {
	t.Helper()
	files := filesMap(d.Live)
	for _, f := range append(slices.Collect(maps.Keys(files)), names...) {
		want, there := files[f]
		if data, ok := impl.ReadFile(d, f); ok != there || data != want {
			t.Fatalf("%s: %q has %.100q %v, not %.100q %v", name, f, data, ok, want, there)
		}
	}
}

// TestNumbersOfDisks holds the names against the numbers that the document gives
// them.
func TestNumbersOfDisks(t *testing.T) {
	got := []int{impl.DkAppend, impl.DkRename, impl.DkRemove, impl.DkOk, impl.DkDisk, impl.DkForm, impl.DkNone, impl.DkFull, impl.MaxFiles, impl.MaxBytes, impl.MaxOps}
	if !slices.Equal(got, []int{1, 2, 3, 0, 1, 2, 3, 4, 60, 200000, 200}) {
		t.Error(got)
	}
}

func TestRightDisks(t *testing.T) {
	for name, d := range rightDisks() {
		if problem := diskProblem(d); problem != "" {
			t.Fatal(name, problem)
		}
		if !impl.DiskOk(d) {
			t.Error(name, "is right")
		}
		checkFiles(t, name, d, "", "a", "b", "zz", "A", "a.new", named(99), named(100), named(101))
		if n := impl.Sync(d); shown(n) != shown(syncedDisk(d.Live)) {
			t.Errorf("%s: Sync is %.300v", name, n)
		}
		for _, x := range someDops() {
			checkDo(t, name, d, x)
		}
		for _, keep := range someKeeps() {
			for _, torn := range []int64{0, 1, 2, math.MaxInt64, -1} {
				checkCrash(t, name, d, keep, torn)
			}
		}
		for _, file := range []string{"", "a", "b", "zz", "f10", named(96), named(97), named(100)} {
			checkReplace(t, name, d, file, "new")
		}
	}
}

// someKeeps are places that rise, and some that do not.
func someKeeps() [][]int64 {
	return [][]int64{
		nil, {0}, {1}, {2}, {0, 1}, {1, 2}, {0, 2}, {0, 1, 2}, {3, 5}, rising(0, 6), rising(0, 60), rising(0, 199), rising(0, 200), {199}, {200},
		{-1}, {-1, 0}, {0, 0}, {1, 0}, {0, 2, 1}, {0, 1, 1}, {0, 2, -1}, {2, 1, 0}, {math.MaxInt64}, {math.MinInt64}, {math.MinInt64, 0}, {0, math.MaxInt64}, {1 << 32}, rising(0, 201),
	}
}

func TestWrongDisksAreRefused(t *testing.T) {
	for name, d := range wrongDisks() {
		if diskProblem(d) == "" {
			t.Fatal(name, "is right")
		}
		checkWrongDisk(t, name, d)
	}
}

func checkWrongDisk(t *testing.T, name string, d impl.Disk) {
	t.Helper()
	none := shown(impl.Disk{})
	if impl.DiskOk(d) {
		t.Error(name, "DiskOk")
	}
	for _, x := range []impl.DOp{{}, {Kind: impl.DkAppend, Name: "a", Data: "1"}, {Kind: impl.DkRename, Name: "a", To: "b"}, {Kind: impl.DkRemove, Name: "zz"}} {
		if n, code := impl.Do(d, x); code != impl.DkDisk || shown(n) != none {
			t.Error(name, "Do", x, code)
		}
	}
	if n := impl.Sync(d); shown(n) != none {
		t.Error(name, "Sync")
	}
	for _, keep := range [][]int64{nil, {0}, {1, 0}, rising(0, len(d.Ops))} {
		if n, ok := impl.Crash(d, keep, 0); ok || shown(n) != none {
			t.Error(name, "Crash", keep)
		}
	}
	for _, file := range []string{"", "a", "b", named(100)} {
		if data, ok := impl.ReadFile(d, file); ok || data != "" {
			t.Error(name, "ReadFile", file)
		}
		if n, code := impl.Replace(d, file, "1"); code != impl.DkDisk || shown(n) != none {
			t.Error(name, "Replace", file, code)
		}
	}
}

// TestBendingADisk changes each part of right disks, and holds DiskOk against
// what the test knows of right disks.
func TestBendingADisk(t *testing.T) {
	right, wrong := 0, 0
	look := func(d impl.Disk) {
		want := diskProblem(d) == ""
		if impl.DiskOk(d) != want {
			t.Errorf("%v: %q", d, diskProblem(d))
		}
		if want {
			right++
		} else {
			wrong++
			checkWrongDisk(t, "bent", d)
		}
	}
	for _, name := range []string{"one file", "some files", "names of 99 and 100", "appended", "a file that was not", "nothing appended", "renamed to itself", "renamed over another", "renamed and back", "removed, and there anew", "there for a while", "some of all"} {
		whole := rightDisks()[name]
		bendFiles(whole.Live, func(l []impl.File) { look(impl.Disk{Live: l, Safe: whole.Safe, Ops: whole.Ops}) })
		bendFiles(whole.Safe, func(l []impl.File) { look(impl.Disk{Live: whole.Live, Safe: l, Ops: whole.Ops}) })
		bendFiles(whole.Safe, func(l []impl.File) { look(syncedDisk(l)) })
		bendDops(whole.Ops, func(l []impl.DOp) { look(impl.Disk{Live: whole.Live, Safe: whole.Safe, Ops: l}) })
	}
	if right < 40 || wrong < 1000 {
		t.Error(right, wrong)
	}
}

var bentTexts = []string{"", "a", "aa", "b", "c", "zz", "1", "12", "\x00", named(100), named(101)}

func bendFiles(whole []impl.File, look func(l []impl.File)) {
	for i := range whole {
		look(slices.Delete(slices.Clone(whole), i, i+1))
		look(slices.Insert(slices.Clone(whole), i, whole[i]))
		for k := range i {
			l := slices.Clone(whole)
			l[i], l[k] = l[k], l[i]
			look(l)
		}
		for _, s := range bentTexts {
			l := slices.Clone(whole)
			l[i].Name = s
			look(l)
			l = slices.Clone(whole)
			l[i].Data = s
			look(l)
		}
	}
}

func bendDops(whole []impl.DOp, look func(l []impl.DOp)) {
	for i := range whole {
		look(slices.Delete(slices.Clone(whole), i, i+1))
		look(slices.Insert(slices.Clone(whole), i, whole[i]))
		for k := range i {
			l := slices.Clone(whole)
			l[i], l[k] = l[k], l[i]
			look(l)
		}
		for kind := range int64(6) {
			l := slices.Clone(whole)
			l[i].Kind = kind - 1
			look(l)
		}
		for _, s := range bentTexts {
			for part := range 3 {
				l := slices.Clone(whole)
				*[]*string{&l[i].Name, &l[i].To, &l[i].Data}[part] = s
				look(l)
			}
		}
	}
}

func TestDo(t *testing.T) {
	for _, c := range []struct {
		name, safe, ops, live string
		op                    string
		code                  int64
		want                  string
	}{
		{"a new file", "", "", "", "+a:12", impl.DkOk, "a:12"},
		{"a new file, empty", "", "", "", "+a:", impl.DkOk, "a:"},
		{"more behind a file", "a:1 b:2", "", "a:1 b:2", "+a:34", impl.DkOk, "a:134 b:2"},
		{"nothing behind a file", "a:1", "", "a:1", "+a:", impl.DkOk, "a:1"},
		{"behind what is not safe yet", "a:1", "+a:2", "a:12", "+a:3", impl.DkOk, "a:123"},
		{"a file between two", "a:1 c:3", "", "a:1 c:3", "+b:2", impl.DkOk, "a:1 b:2 c:3"},
		{"renamed to one that is not there", "a:1 b:2", "", "a:1 b:2", ">a:c", impl.DkOk, "b:2 c:1"},
		{"renamed to one that is there", "a:1 b:2", "", "a:1 b:2", ">b:a", impl.DkOk, "a:2"},
		{"renamed to itself", "a:1 b:2", "", "a:1 b:2", ">a:a", impl.DkOk, "a:1 b:2"},
		{"renamed, not safe yet", "", "+a:1", "a:1", ">a:b", impl.DkOk, "b:1"},
		{"removed", "a:1 b:2", "", "a:1 b:2", "-b", impl.DkOk, "a:1"},
		{"the only one removed", "a:1", "", "a:1", "-a", impl.DkOk, ""},
		{"there anew", "a:1", "-a", "", "+a:2", impl.DkOk, "a:2"},
		{"renamed, not there", "a:1", "", "a:1", ">b:c", impl.DkNone, "a:1"},
		{"renamed to one that is there, not there", "a:1", "", "a:1", ">b:a", impl.DkNone, "a:1"},
		{"renamed to itself, not there", "a:1", "", "a:1", ">b:b", impl.DkNone, "a:1"},
		{"removed, not there", "a:1", "", "a:1", "-b", impl.DkNone, "a:1"},
		{"removed, gone already", "a:1 b:2", "-a", "b:2", "-a", impl.DkNone, "b:2"},
		{"removed, renamed already", "a:1", ">a:b", "b:1", "-a", impl.DkNone, "b:1"},
		{"nothing there", "", "", "", "-a", impl.DkNone, ""},
		{"case counts", "a:1", "", "a:1", "-A", impl.DkNone, "a:1"},
	} {
		d, x := diskOf(c.safe, c.ops, c.live), dopsOf(c.op)[0]
		want := diskOf(c.safe, c.ops, c.want)
		if c.code == impl.DkOk {
			want.Ops = append(want.Ops, x)
		}
		n, code := checkDo(t, c.name, d, x)
		if code != c.code || shown(n) != shown(want) {
			t.Errorf("%s: %v %v, not %v", c.name, n, code, want)
		}
	}
}

// TestFormsOfOps has each form alone and with other refusals behind it.
func TestFormsOfOps(t *testing.T) {
	for name, x := range wrongDops() {
		for _, d := range []impl.Disk{{}, syncedDisk(filesOf("a:1 b:2")), worn(filesOf("a:1 b:2"), 200), syncedDisk(append(filesOf("a: b:"), manyFiles(58, 0)...))} {
			if n, code := impl.Do(d, x); code != impl.DkForm || shown(n) != shown(d) {
				t.Error(name, d, n, code)
			}
		}
		x.Name = "zz"
		if !dopIsRight(x) {
			if _, code := impl.Do(syncedDisk(filesOf("a:1")), x); code != impl.DkForm {
				t.Error(name, "of what is not there", code)
			}
		}
	}
	d := syncedDisk([]impl.File{{Name: "a", Data: "1"}, {Name: named(100), Data: "2"}})
	for n := range 103 {
		want := int64(impl.DkForm)
		if n > 0 && n < 101 {
			want = impl.DkOk
		}
		if _, code := checkDo(t, "a name", d, impl.DOp{Kind: impl.DkAppend, Name: strings.Repeat("m", n), Data: "1"}); code != want {
			t.Error("append", n, code)
		}
		if _, code := checkDo(t, "To", d, impl.DOp{Kind: impl.DkRename, Name: "a", To: strings.Repeat("m", n)}); code != want {
			t.Error("rename", n, code)
		}
		if want == impl.DkOk && n < 100 {
			want = impl.DkNone
		}
		for _, x := range []impl.DOp{{Kind: impl.DkRemove, Name: named(n)}, {Kind: impl.DkRename, Name: named(n), To: "b"}} {
			if _, code := checkDo(t, "a name", d, x); code != want {
				t.Error(x, n, code)
			}
		}
	}
}

func TestDoAtTheLimits(t *testing.T) {
	full, wide := syncedDisk(manyFiles(60, 1)), syncedDisk(manyFiles(2, 100000))
	most := worn(manyFiles(2, 1), 200)
	for _, c := range []struct {
		name string
		d    impl.Disk
		op   string
		code int64
	}{
		{"the 60th file", syncedDisk(manyFiles(59, 1)), "+z:1", impl.DkOk},
		{"the 61st file", full, "+z:1", impl.DkFull},
		{"the 61st file, empty", full, "+z:", impl.DkFull},
		{"60 files, more behind one", full, "+f10:1", impl.DkOk},
		{"60 files, one renamed", full, ">f10:z", impl.DkOk},
		{"60 files, one renamed over another", full, ">f10:f11", impl.DkOk},
		{"60 files, one removed", full, "-f10", impl.DkOk},
		{"the 200000th byte", syncedDisk(manyFiles(1, 199999)), "+f10:x", impl.DkOk},
		{"the 200000th byte, in another file", syncedDisk(manyFiles(1, 199999)), "+z:x", impl.DkOk},
		{"the 200001st byte", wide, "+f10:x", impl.DkFull},
		{"the 200001st byte, in another file", wide, "+z:x", impl.DkFull},
		{"two bytes too many", syncedDisk(manyFiles(1, 199999)), "+z:xxx", impl.DkFull},
		{"200000 bytes, an empty file more", wide, "+z:", impl.DkOk},
		{"200000 bytes, nothing more", wide, "+f10:", impl.DkOk},
		{"200000 bytes, renamed", wide, ">f10:z", impl.DkOk},
		{"200000 bytes, one over another", wide, ">f10:f11", impl.DkOk},
		{"200000 bytes, removed", wide, "-f11", impl.DkOk},
		{"the 200th op", worn(manyFiles(2, 1), 199), "+f10:1", impl.DkOk},
		{"the 201st op, append", most, "+f10:1", impl.DkFull},
		{"the 201st op, nothing more", most, "+f10:", impl.DkFull},
		{"the 201st op, a new file", most, "+z:1", impl.DkFull},
		{"the 201st op, rename", most, ">f10:z", impl.DkFull},
		{"the 201st op, rename to itself", most, ">f10:f10", impl.DkFull},
		{"the 201st op, remove", most, "-f10", impl.DkFull},
		{"the 201st op, not there", most, "-z", impl.DkNone},
		{"the 201st op, not there, rename", most, ">z:f10", impl.DkNone},
		{"61 files and 201 ops", worn(manyFiles(60, 1), 200), "+z:", impl.DkFull},
	} {
		if _, code := checkDo(t, c.name, c.d, dopsOf(c.op)[0]); code != c.code {
			t.Error(c.name, code)
		}
	}
	all := impl.DOp{Kind: impl.DkAppend, Name: "a", Data: strings.Repeat("x", 200000)}
	if _, code := checkDo(t, "200000 bytes at once", impl.Disk{}, all); code != impl.DkOk {
		t.Error(code)
	}
	all.Data += "x"
	if _, code := checkDo(t, "200001 bytes at once", impl.Disk{}, all); code != impl.DkFull {
		t.Error(code)
	}
}

func TestCrash(t *testing.T) {
	appended := diskOf("log:ab", "+log:cd +b:x", "b:x log:abcd")
	for _, c := range []struct {
		name string
		d    impl.Disk
		keep []int64
		torn int64
		want string
	}{
		{"none", appended, nil, 0, "log:ab"},
		{"none, torn at the greatest", appended, nil, math.MaxInt64, "log:ab"},
		{"all", appended, rising(0, 2), 9, "b:x log:abcd"},
		{"all, torn at just as many", appended, rising(0, 2), 1, "b:x log:abcd"},
		{"all, the last one torn at 0", appended, rising(0, 2), 0, "b: log:abcd"},
		{"the first one", appended, []int64{0}, 5, "log:abcd"},
		{"the first one, torn at just as many", appended, []int64{0}, 2, "log:abcd"},
		{"the first one, torn at 1", appended, []int64{0}, 1, "log:abc"},
		{"the first one, torn at 0", appended, []int64{0}, 0, "log:ab"},
		{"the second one", appended, []int64{1}, 1, "b:x log:ab"},
		{"the second one, torn at 0", appended, []int64{1}, 0, "b: log:ab"},
		{"one between", diskOf("a:1", "+a:2 +a:3 +a:4", "a:1234"), []int64{0, 2}, 1, "a:124"},
		{"one of no Data", diskOf("", "+a:", "a:"), []int64{0}, 0, "a:"},
		{"torn where the last one is a rename", diskOf("a:1", "+a:23 >a:b", "b:123"), rising(0, 2), 1, "b:123"},
		{"torn where the last one is a removal", diskOf("a:1", "+a:23 +b:45 -a", "b:45"), []int64{0, 2}, 0, ""},
		{"torn where the last one kept is not the last", diskOf("a:1", "+a:23 >a:b", "b:123"), []int64{0}, 1, "a:12"},
		{"a rename alone", diskOf("a:1", "+a:23 >a:b", "b:123"), []int64{1}, 0, "b:1"},
		{"a rename without its file", diskOf("b:1", "+a:23 >a:b", "b:23"), []int64{1}, 0, "b:1"},
		{"a rename without its file, to itself", diskOf("b:1", "+a:2 >a:a", "a:2 b:1"), []int64{1}, 0, "b:1"},
		{"a removal without its file", diskOf("b:1", "+a:23 -a", "b:1"), []int64{1}, 0, "b:1"},
		{"a rename to another one without its file", diskOf("", "+a:2 >a:b >b:c", "c:2"), []int64{0, 2}, 0, "a:2"},
		{"an append without the rename", diskOf("a:1", ">a:b +b:2", "b:12"), []int64{1}, 1, "a:1 b:2"},
		{"an append without the removal", diskOf("a:1", "-a +a:2", "a:2"), []int64{1}, 1, "a:12"},
		{"the removal without the append", diskOf("a:1", "-a +a:2", "a:2"), []int64{0}, 0, ""},
		{"a rename over one that is there", diskOf("a:1 b:2", ">a:b", "b:1"), []int64{0}, 0, "b:1"},
		{"a rename over one that would not be there", diskOf("a:1 b:2", "-b >a:b", "b:1"), []int64{1}, 0, "b:1"},
		{"a rename to itself", diskOf("a:1", ">a:a", "a:1"), []int64{0}, 0, "a:1"},
		{"no ops", syncedDisk(filesOf("a:1")), nil, 0, "a:1"},
		{"nothing at all", impl.Disk{}, nil, 0, ""},
	} {
		n, ok := checkCrash(t, c.name, c.d, c.keep, c.torn)
		if !ok || shown(n) != shown(syncedDisk(filesOf(c.want))) {
			t.Errorf("%s: %v %v, not %s", c.name, n, ok, c.want)
		}
	}
}

func TestCrashOfWhatIsNotRight(t *testing.T) {
	d := diskOf("log:ab", "+log:cd +b:x -b", "log:abcd")
	for _, keep := range [][]int64{{-1}, {3}, {0, 3}, {0, 0}, {1, 0}, {0, 2, 1}, {0, 1, 1}, {2, 2}, {-1, 0, 1}, {0, 1, 2, 3}, {math.MaxInt64}, {math.MinInt64}, {1 << 32}, {1<<32 + 1}} {
		for _, torn := range []int64{0, 1, -1} {
			if n, ok := checkCrash(t, "keep", d, keep, torn); ok {
				t.Error(keep, n)
			}
		}
	}
	for _, keep := range [][]int64{nil, {0}, {1}, {2}, {0, 1, 2}} {
		for _, torn := range []int64{-1, math.MinInt64, -1 << 32} {
			if n, ok := checkCrash(t, "torn", d, keep, torn); ok {
				t.Error(keep, torn, n)
			}
		}
	}
	if n, ok := checkCrash(t, "no ops", syncedDisk(filesOf("a:1")), []int64{0}, 0); ok {
		t.Error(n)
	}
}

// played is a disk that ops lead to, one by one.
func playedDisk(t *testing.T, d impl.Disk, ops ...impl.DOp) impl.Disk {
	t.Helper()
	for _, x := range ops {
		n, code := checkDo(t, "played", d, x)
		if code != impl.DkOk {
			t.Fatalf("%.200v with %.200v: %v", d, x, code)
		}
		d = n
	}
	return d
}

func TestCrashAtTheLimits(t *testing.T) {
	bytes := func(name string, n int) impl.DOp {
		return impl.DOp{Kind: impl.DkAppend, Name: name, Data: strings.Repeat("y", n)}
	}
	files := playedDisk(t, syncedDisk(manyFiles(59, 0)), dopsOf("+a: -a +b:123 -b +c:")...)
	half := playedDisk(t, syncedDisk(manyFiles(1, 100000)), impl.DOp{Kind: impl.DkRemove, Name: "f10"}, bytes("a", 100000), bytes("b", 100000), impl.DOp{Kind: impl.DkRemove, Name: "a"}, bytes("c", 1))
	over := playedDisk(t, syncedDisk(append(filesOf("a:1"), manyFiles(59, 0)...)), dopsOf(">a:f10 +b:2 >b:f11 +c:3")...)
	for _, c := range []struct {
		name string
		d    impl.Disk
		keep []int64
		torn int64
		ok   bool
	}{
		{"60 files", files, []int64{0}, 0, true},
		{"61 files", files, []int64{0, 2}, 9, false},
		{"61 files, the last one torn at 0", files, []int64{0, 2}, 0, false},
		{"61 files only between", files, []int64{0, 2, 3}, 0, true},
		{"62 files between, 61 at the end", files, []int64{0, 2, 3, 4}, 0, false},
		{"62 files between, 61 at the end, too", playedDisk(t, files, dopsOf("-c")...), []int64{0, 2, 4, 5}, 0, false},
		{"61 files twice between, 60 at the end", playedDisk(t, files, dopsOf("-c")...), []int64{0, 2, 3, 4, 5}, 0, true},
		{"61 files, less by a rename", over, []int64{1, 2}, 0, true},
		{"61 files, one more by a rename less", over, []int64{1, 3}, 0, false},
		{"61 files between, a rename over one", over, []int64{1, 2, 3}, 0, false},
		{"60 files, all is renamed over", over, []int64{0, 1, 2, 3}, 0, true},
		{"200000 bytes", half, []int64{1}, 100000, true},
		{"300000 bytes", half, []int64{1, 2}, 100000, false},
		{"300000 bytes, torn to 200000", half, []int64{1, 2}, 0, true},
		{"300000 bytes, torn to 200001", half, []int64{1, 2}, 1, false},
		{"300000 bytes only between", half, []int64{1, 2, 3}, 0, true},
		{"300000 bytes between, 200001 at the end", half, []int64{1, 2, 3, 4}, 1, false},
		{"300000 bytes between, torn to 200000", half, []int64{1, 2, 3, 4}, 0, true},
		{"100000 bytes, and one", half, []int64{0, 1, 4}, 9, true},
	} {
		if n, ok := checkCrash(t, c.name, c.d, c.keep, c.torn); ok != c.ok {
			t.Errorf("%s: %.300v %v", c.name, n, ok)
		}
	}
	again := playedDisk(t, impl.Disk{}, bytes("a", 200000), impl.DOp{Kind: impl.DkRemove, Name: "a"}, bytes("a", 200000), impl.DOp{Kind: impl.DkRename, Name: "a", To: "b"})
	if _, ok := checkCrash(t, "two times 200000 bytes", again, []int64{0, 2}, math.MaxInt64); ok {
		t.Error("400000 bytes")
	}
	if n, ok := checkCrash(t, "one of them", again, []int64{2, 3}, 0); !ok || n.Live[0].Name != "b" {
		t.Error("200000 bytes")
	}
}

func TestReadFile(t *testing.T) {
	d := diskOf("a:1 b:2 gone:3", "-gone +a:4 +c: >b:d", "a:14 c: d:2")
	for name, want := range map[string]string{"a": "14", "c": "", "d": "2"} {
		if data, ok := impl.ReadFile(d, name); !ok || data != want {
			t.Error(name, data, ok)
		}
	}
	for _, name := range []string{"", "b", "gone", "A", "a ", "e", "aa", "\x00", named(100), named(101)} {
		if data, ok := impl.ReadFile(d, name); ok || data != "" {
			t.Error(name, data)
		}
	}
}

func TestReplace(t *testing.T) {
	for _, c := range []struct{ name, safe, ops, live, file, added, want string }{
		{"a file that is there", "log:old", "", "log:old", "log", "+log.new:N >log.new:log", "log:N"},
		{"a file that is not there", "a:1", "", "a:1", "log", "+log.new:N >log.new:log", "a:1 log:N"},
		{"with its .new", "log:old log.new:x", "", "log:old log.new:x", "log", "-log.new +log.new:N >log.new:log", "log:N"},
		{"with its .new alone", "log.new:x", "", "log.new:x", "log", "-log.new +log.new:N >log.new:log", "log:N"},
		{"with its .new, which is empty", "log:old log.new:", "", "log:old log.new:", "log", "-log.new +log.new:N >log.new:log", "log:N"},
		{"with its .new, not safe yet", "", "+log.new:x", "log.new:x", "log", "-log.new +log.new:N >log.new:log", "log:N"},
		{"with its .new, gone by now", "log.new:x", "-log.new", "", "log", "+log.new:N >log.new:log", "log:N"},
		{"a .new itself", "log.new:x", "", "log.new:x", "log.new", "+log.new.new:N >log.new.new:log.new", "log.new:N"},
		{"another one's .new", "a.new:x", "", "a.new:x", "log", "+log.new:N >log.new:log", "a.new:x log:N"},
		{"another one's name", "log:1 log.ne:2 log.new.:3 lognew:4", "", "log:1 log.ne:2 log.new.:3 lognew:4", "log", "+log.new:N >log.new:log", "log:N log.ne:2 log.new.:3 lognew:4"},
		{"with ops", "a:1", "+log:1 +a:2", "a:12 log:1", "log", "+log.new:N >log.new:log", "a:12 log:N"},
	} {
		d := impl.Disk{Live: sortedFiles(c.live), Safe: sortedFiles(c.safe), Ops: dopsOf(c.ops)}
		want := impl.Disk{Live: sortedFiles(c.want), Safe: sortedFiles(c.safe), Ops: append(dopsOf(c.ops), dopsOf(c.added)...)}
		n, code := checkReplace(t, c.name, d, c.file, "N")
		if code != impl.DkOk || shown(n) != shown(want) || !impl.DiskOk(n) {
			t.Errorf("%s: %v %v, not %v", c.name, n, code, want)
		}
	}
	n, code := checkReplace(t, "empty Data", syncedDisk(filesOf("log:old")), "log", "")
	if data, ok := impl.ReadFile(n, "log"); code != impl.DkOk || !ok || data != "" {
		t.Error(n, code)
	}
}

func sortedFiles(s string) []impl.File { return filesIn(filesMap(filesOf(s))) }

func TestReplaceOfLongNames(t *testing.T) {
	for n := range 110 {
		for _, d := range []impl.Disk{{}, syncedDisk(filesOf("a:1")), syncedDisk([]impl.File{{Name: named(min(n, 99) + 1), Data: "1"}})} {
			want := int64(impl.DkForm)
			if n > 0 && n <= 96 {
				want = impl.DkOk
			}
			if m, code := checkReplace(t, "a long name", d, named(n), "N"); code != want {
				t.Error(n, m, code)
			}
		}
	}
	// The .new of the longest ones is there, or the file itself.
	for n, want := range map[int]int64{96: impl.DkOk, 97: impl.DkForm, 100: impl.DkForm} {
		d := syncedDisk([]impl.File{{Name: named(n), Data: "old"}})
		if m, code := checkReplace(t, "there", d, named(n), "N"); code != want {
			t.Error(n, m, code)
		}
	}
	d := syncedDisk([]impl.File{{Name: named(96), Data: "old"}, {Name: named(96) + ".new", Data: "x"}})
	if m, code := checkReplace(t, "with its .new", d, named(96), "N"); code != impl.DkOk || len(m.Ops) != 3 {
		t.Error(m, code)
	}
}

// TestReplaceIsRefused has it refused at each of its steps.
func TestReplaceIsRefused(t *testing.T) {
	two := filesOf("log:old log.new:x")
	for _, c := range []struct {
		name string
		d    impl.Disk
		file string
		data string
		code int64
	}{
		{"no op left to remove", worn(two, 200), "log", "N", impl.DkFull},
		{"no op left to append", worn(two, 199), "log", "N", impl.DkFull},
		{"no op left to rename", worn(two, 198), "log", "N", impl.DkFull},
		{"just three ops left", worn(two, 197), "log", "N", impl.DkOk},
		{"no op left, no .new", worn(filesOf("log:old"), 200), "log", "N", impl.DkFull},
		{"one op left, no .new", worn(filesOf("log:old"), 199), "log", "N", impl.DkFull},
		{"just two ops left, no .new", worn(filesOf("log:old"), 198), "log", "N", impl.DkOk},
		{"60 files", syncedDisk(manyFiles(60, 0)), "f10", "N", impl.DkFull},
		{"59 files", syncedDisk(manyFiles(59, 0)), "f10", "N", impl.DkOk},
		{"60 files, one is .new", syncedDisk(append(manyFiles(59, 0), filesOf("log.new:")...)), "log", "N", impl.DkOk},
		{"both would be too many bytes", syncedDisk(manyFiles(1, 150000)), "f10", strings.Repeat("x", 50001), impl.DkFull},
		{"both are just few enough", syncedDisk(manyFiles(1, 150000)), "f10", strings.Repeat("x", 50000), impl.DkOk},
		{"too many bytes but for .new", syncedDisk([]impl.File{{Name: "log.new", Data: strings.Repeat("x", 200000)}}), "log", strings.Repeat("y", 200000), impl.DkOk},
		{"no name", syncedDisk(filesOf("a:1")), "", "N", impl.DkForm},
		{"no name, .new is there", syncedDisk(filesOf(".new:x a:1")), "", "N", impl.DkForm},
		{"no name, 60 files", syncedDisk(manyFiles(60, 0)), "", "N", impl.DkFull},
		{"no name, 200 ops", worn(filesOf("a:1"), 200), "", "N", impl.DkFull},
		{"no name, 199 ops", worn(filesOf("a:1"), 199), "", "N", impl.DkForm},
		{"a name of 97, 200 ops", worn(filesOf("a:1"), 200), named(97), "N", impl.DkForm},
	} {
		n, code := checkReplace(t, c.name, c.d, c.file, c.data)
		if code != c.code || code != impl.DkOk && shown(n) != shown(c.d) {
			t.Errorf("%s: %.300v %v", c.name, n, code)
		}
	}
}

// someDisk is a right disk of a few small files and a few ops.
func someDisk(r *rand.Rand) impl.Disk {
	d := impl.Disk{}
	for range r.Intn(12) {
		n, code := impl.Do(d, someDop(r))
		if code == impl.DkOk {
			d = n
		}
		if r.Intn(4) == 0 {
			d = impl.Sync(d)
		}
	}
	return d
}

var diskNames = []string{"a", "a.new", "b", "c"}

func someDop(r *rand.Rand) impl.DOp {
	x := impl.DOp{Name: diskNames[r.Intn(4)]}
	switch r.Intn(5) {
	case 0:
		x.Kind = impl.DkRemove
	case 1:
		x.Kind, x.To = impl.DkRename, diskNames[r.Intn(4)]
	default:
		x.Kind, x.Data = impl.DkAppend, "123456"[r.Intn(3):3+r.Intn(4)]
	}
	if r.Intn(20) == 0 {
		x.Kind = r.Int63n(6) - 1
	}
	return x
}

// someKeep has some of n places, by rising numbers.
func someKeep(r *rand.Rand, n int) []int64 {
	var keep []int64
	for i := range int64(n) {
		if r.Intn(3) > 0 {
			keep = append(keep, i)
		}
	}
	return keep
}

func TestDisksAgainstAModel(t *testing.T) {
	r := rand.New(rand.NewSource(10))
	codes := map[int64]int{}
	for range 6000 {
		d := someDisk(r)
		if diskProblem(d) != "" || !impl.DiskOk(d) {
			t.Fatal(d, diskProblem(d))
		}
		_, code := checkDo(t, "some op", d, someDop(r))
		codes[code]++
		checkCrash(t, "some", d, someKeep(r, len(d.Ops)), r.Int63n(7))
		checkReplace(t, "some file", d, diskNames[r.Intn(4)], "new")
		checkFiles(t, "some", d, diskNames...)
		if len(d.Ops) > 0 {
			i := r.Intn(len(d.Ops))
			d.Ops = slices.Clone(d.Ops)
			d.Ops[i] = someDop(r)
		}
		if want := diskProblem(d) == ""; impl.DiskOk(d) != want {
			t.Fatal(d, want)
		}
	}
	if codes[impl.DkOk] < 1000 || codes[impl.DkForm] < 50 || codes[impl.DkNone] < 300 {
		t.Error(codes)
	}
}

// TestWhatIsKeptOfADisk is the first half of promise 10.
func TestWhatIsKeptOfADisk(t *testing.T) {
	r := rand.New(rand.NewSource(101))
	several := 0
	for range 5000 {
		d := someDisk(r)
		all, ok := impl.Crash(d, rising(0, len(d.Ops)), 6)
		if !ok || shown(all) != shown(syncedDisk(d.Live)) || shown(all) != shown(impl.Sync(d)) {
			t.Fatal("all ops are kept of", d, all, ok)
		}
		none, ok := impl.Crash(d, nil, r.Int63n(7))
		if !ok || shown(none) != shown(syncedDisk(d.Safe)) {
			t.Fatal("no op is kept of", d, none, ok)
		}
		if len(d.Ops) > 2 {
			several++
		}
	}
	for name, d := range rightDisks() {
		all, ok := impl.Crash(d, rising(0, len(d.Ops)), math.MaxInt64)
		none, other := impl.Crash(d, nil, 0)
		if !ok || !other || shown(all) != shown(syncedDisk(d.Live)) || shown(none) != shown(syncedDisk(d.Safe)) {
			t.Error(name, ok, other)
		}
	}
	if several < 1000 {
		t.Error(several)
	}
}

// TestWhatIsDoneIsSeen is the second part of promise 10.
func TestWhatIsDoneIsSeen(t *testing.T) {
	r := rand.New(rand.NewSource(102))
	done := 0
	for range 5000 {
		d, x := someDisk(r), someDop(r)
		n, code := impl.Do(d, x)
		if code != impl.DkOk {
			continue
		}
		done++
		was, _ := impl.ReadFile(d, x.Name)
		is, there := impl.ReadFile(n, x.Name)
		switch x.Kind {
		case impl.DkAppend:
			there = there && is == was+x.Data
		case impl.DkRename:
			to, ok := impl.ReadFile(n, x.To)
			there = ok && to == was && there == (x.Name == x.To)
		case impl.DkRemove:
			there = !there
		}
		if !there || shown(n.Safe) != shown(d.Safe) {
			t.Fatal(d, x, n)
		}
		for _, name := range diskNames {
			before, ok := impl.ReadFile(d, name)
			behind, other := impl.ReadFile(n, name)
			if name != x.Name && name != x.To && (before != behind || ok != other) {
				t.Fatal(d, x, n, "changes", name)
			}
		}
	}
	if done < 3000 {
		t.Error(done)
	}
}

// TestReplacedIsOldOrNew is the last part of promise 10.
func TestReplacedIsOldOrNew(t *testing.T) {
	for _, files := range []string{"", "a:old", "a:", "a:old b:1", "a:newer", "b:1", "b:1 a.ne:2"} {
		for _, data := range []string{"", "n", "new", "older"} {
			d := syncedDisk(sortedFiles(files))
			old, there := impl.ReadFile(d, "a")
			n, code := impl.Replace(d, "a", data)
			if code != impl.DkOk || len(n.Ops) != 2 {
				t.Fatal(files, n, code)
			}
			for _, keep := range [][]int64{nil, {0}, {1}, {0, 1}} {
				for torn := range int64(7) {
					left, ok := impl.Crash(n, keep, torn)
					got, is := impl.ReadFile(left, "a")
					want, wantIs := old, there
					if len(keep) == 2 {
						want, wantIs = data, true
					}
					if !ok || got != want || is != wantIs {
						t.Error(files, data, keep, torn, left)
					}
				}
			}
		}
	}
	// It says so of no disk on which there is a .new.
	n, _ := impl.Replace(syncedDisk(filesOf("a:old a.new:x")), "a", "new")
	left, _ := impl.Crash(n, []int64{1, 2}, 0)
	if data, _ := impl.ReadFile(left, "a"); data != "xnew" {
		t.Error(left)
	}
}
