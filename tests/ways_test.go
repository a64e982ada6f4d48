package tests

import (
	"go/ast"
	"go/parser"
	"go/token"
	"path/filepath"
	"strings"
	"testing"
)

// reached has, by file, the declarations of the program that its exported
// functions reach, as far as names tell.
func reached(t *testing.T) map[string][]ast.Node {
	t.Helper()
	fset := token.NewFileSet()
	declared := map[string][]ast.Node{}
	var work []ast.Node
	files, _ := filepath.Glob(filepath.Join("..", "impl", "*.go"))
	for _, name := range files {
		if strings.HasSuffix(name, "_test.go") {
			continue
		}
		f, err := parser.ParseFile(fset, name, nil, 0)
		if err != nil {
			t.Fatal(err)
		}
		for _, d := range f.Decls {
			switch d := d.(type) {
			case *ast.FuncDecl:
				declared[d.Name.Name] = append(declared[d.Name.Name], d)
				if d.Recv == nil && d.Name.IsExported() {
					work = append(work, d)
				}
			case *ast.GenDecl:
				for _, s := range d.Specs {
					if s, ok := s.(*ast.TypeSpec); ok {
						declared[s.Name.Name] = append(declared[s.Name.Name], s)
					}
				}
			}
		}
	}
	seen := map[ast.Node]bool{}
	byFile := map[string][]ast.Node{}
	for len(work) > 0 {
		n := work[0]
		work = work[1:]
		if seen[n] {
			continue
		}
		seen[n] = true
		file := filepath.Base(fset.Position(n.Pos()).Filename)
		byFile[file] = append(byFile[file], n)
		ast.Inspect(n, func(m ast.Node) bool {
			if id, ok := m.(*ast.Ident); ok {
				work = append(work, declared[id.Name]...)
			}
			return true
		})
	}
	return byFile
}

func anyIn(nodes []ast.Node, is func(n ast.Node) bool) bool {
	found := false
	for _, n := range nodes {
		ast.Inspect(n, func(m ast.Node) bool {
			found = found || m != nil && is(m)
			return true
		})
	}
	return found
}

func isGenericList(n ast.Node) bool {
	s, ok := n.(*ast.TypeSpec)
	if !ok || s.TypeParams == nil {
		return false
	}
	_, list := s.Type.(*ast.ArrayType)
	return list
}

func isStructOfPointers(n ast.Node) bool {
	s, ok := n.(*ast.StructType)
	return ok && anyIn([]ast.Node{s}, func(n ast.Node) bool {
		_, pointer := n.(*ast.StarExpr)
		return pointer
	})
}

func isClosureThatCallsItself(n ast.Node) bool {
	a, ok := n.(*ast.AssignStmt)
	if !ok || len(a.Lhs) != 1 || len(a.Rhs) != 1 {
		return false
	}
	name, named := a.Lhs[0].(*ast.Ident)
	body, closure := a.Rhs[0].(*ast.FuncLit)
	return named && closure && anyIn([]ast.Node{body}, func(n ast.Node) bool {
		c, ok := n.(*ast.CallExpr)
		if !ok {
			return false
		}
		f, ok := c.Fun.(*ast.Ident)
		return ok && f.Name == name.Name
	})
}

func TestWaysOfMapsAndTrees(t *testing.T) {
	byFile := reached(t)
	if !anyIn(byFile["l01_maps.go"], isGenericList) {
		t.Error("l01 has no sorted list as a generic type")
	}
	if !anyIn(byFile["l02_trees.go"], isStructOfPointers) {
		t.Error("l02 has no nodes as pointers")
	}
	if !anyIn(byFile["l02_trees.go"], isClosureThatCallsItself) {
		t.Error("l02 has no closure that calls itself")
	}
}

// callOf tells whether n calls one of the language's own functions.
func callOf(name string) func(n ast.Node) bool {
	return func(n ast.Node) bool {
		c, ok := n.(*ast.CallExpr)
		if !ok {
			return false
		}
		f, ok := c.Fun.(*ast.Ident)
		return ok && f.Name == name
	}
}

func isDeferredRecover(n ast.Node) bool {
	d, ok := n.(*ast.DeferStmt)
	if !ok {
		return false
	}
	body, ok := d.Call.Fun.(*ast.FuncLit)
	return ok && anyIn([]ast.Node{body}, callOf("recover"))
}

func isArray(n ast.Node) bool {
	a, ok := n.(*ast.ArrayType)
	return ok && a.Len != nil
}

func isMap(n ast.Node) bool {
	_, ok := n.(*ast.MapType)
	return ok
}

func TestWaysOfPagesAndShadows(t *testing.T) {
	byFile := reached(t)
	if !anyIn(byFile["l03_pages.go"], callOf("panic")) {
		t.Error("l03 has no reader that gives up with a panic")
	}
	if !anyIn(byFile["l03_pages.go"], isDeferredRecover) {
		t.Error("l03 has no deferred recover")
	}
	if !anyIn(byFile["l03_pages.go"], isArray) {
		t.Error("l03 has no array for the sum's table")
	}
	if !anyIn(byFile["l04_shadows.go"], isMap) {
		t.Error("l04 has no map of pages")
	}
}

// arrayOf tells whether n is an array of the type of that name.
func arrayOf(name string) func(n ast.Node) bool {
	return func(n ast.Node) bool {
		a, ok := n.(*ast.ArrayType)
		if !ok || a.Len == nil {
			return false
		}
		of, ok := a.Elt.(*ast.Ident)
		return ok && of.Name == name
	}
}

func TestWaysOfLocks(t *testing.T) {
	locks := reached(t)["l05_locks.go"]
	found := false
	for _, n := range locks {
		if s, ok := n.(*ast.TypeSpec); ok {
			_, function := s.Type.(*ast.FuncType)
			found = found || function && anyIn(locks, arrayOf(s.Name.Name))
		}
	}
	if !found {
		t.Error("l05 has no array of function values for the modes")
	}
}

// callIn tells whether n calls that function of a package.
func callIn(pack string, name string) func(n ast.Node) bool {
	return func(n ast.Node) bool {
		c, ok := n.(*ast.CallExpr)
		if !ok {
			return false
		}
		f, ok := c.Fun.(*ast.SelectorExpr)
		if !ok {
			return false
		}
		of, ok := f.X.(*ast.Ident)
		return ok && of.Name == pack && f.Sel.Name == name
	}
}

func isUnwrap(n ast.Node) bool {
	f, ok := n.(*ast.FuncDecl)
	return ok && f.Recv != nil && f.Name.Name == "Unwrap"
}

func isGoThatSends(n ast.Node) bool {
	g, ok := n.(*ast.GoStmt)
	return ok && anyIn([]ast.Node{g}, func(n ast.Node) bool {
		_, sends := n.(*ast.SendStmt)
		return sends
	})
}

func TestWaysOfTransactionsAndHistories(t *testing.T) {
	byFile := reached(t)
	txns := byFile["l06_txns.go"]
	if !anyIn(txns, callIn("errors", "Is")) || !anyIn(txns, callIn("errors", "As")) {
		t.Error("l06 does not ask its refusals by errors.Is and errors.As")
	}
	file, err := parser.ParseFile(token.NewFileSet(), filepath.Join("..", "impl", "l06_txns.go"), nil, 0)
	if err != nil {
		t.Fatal(err)
	}
	if !anyIn([]ast.Node{file}, isUnwrap) {
		t.Error("l06 has no error that wraps another one")
	}
	histories := byFile["l07_histories.go"]
	if !anyIn(histories, isGoThatSends) {
		t.Error("l07 has no goroutine that hands requests on")
	}
	if !anyIn(histories, func(n ast.Node) bool { _, channel := n.(*ast.ChanType); return channel }) {
		t.Error("l07 has no channel of requests")
	}
}

// rangesOverOneOf tells whether n ranges over what a call of one of these
// functions gives.
func rangesOverOneOf(names map[string]bool) func(n ast.Node) bool {
	return func(n ast.Node) bool {
		r, ok := n.(*ast.RangeStmt)
		if !ok {
			return false
		}
		c, ok := r.X.(*ast.CallExpr)
		if !ok {
			return false
		}
		f, ok := c.Fun.(*ast.Ident)
		return ok && names[f.Name]
	}
}

// iterators are the functions among these that give one over which one ranges.
func iterators(nodes []ast.Node) map[string]bool {
	names := map[string]bool{}
	for _, n := range nodes {
		f, ok := n.(*ast.FuncDecl)
		if !ok || f.Type.Results == nil {
			continue
		}
		for _, r := range f.Type.Results.List {
			if anyIn([]ast.Node{r.Type}, isSeq) {
				names[f.Name.Name] = true
			}
		}
	}
	return names
}

func isSeq(n ast.Node) bool {
	s, ok := n.(*ast.SelectorExpr)
	if !ok {
		return false
	}
	of, ok := s.X.(*ast.Ident)
	return ok && of.Name == "iter"
}

// isLabelledLoopLeftByGoto tells whether n is a loop with a label, out of which
// a goto leads.
func isLabelledLoopLeftByGoto(n ast.Node) bool {
	l, ok := n.(*ast.LabeledStmt)
	if !ok {
		return false
	}
	_, counts := l.Stmt.(*ast.ForStmt)
	_, ranges := l.Stmt.(*ast.RangeStmt)
	return (counts || ranges) && anyIn([]ast.Node{l.Stmt}, func(n ast.Node) bool {
		b, ok := n.(*ast.BranchStmt)
		return ok && b.Tok == token.GOTO && b.Label.Name != l.Label.Name
	})
}

func TestWaysOfCursorsAndDeltas(t *testing.T) {
	byFile := reached(t)
	cursors := byFile["l08_cursors.go"]
	if !anyIn(cursors, rangesOverOneOf(iterators(cursors))) {
		t.Error("l08 has no range over a function")
	}
	if !anyIn(byFile["l09_deltas.go"], isLabelledLoopLeftByGoto) {
		t.Error("l09 has no labelled loop that is left by goto")
	}
}

// interfaces are the types among these that are interfaces with methods.
func interfaces(nodes []ast.Node) map[string]bool {
	names := map[string]bool{}
	for _, n := range nodes {
		s, ok := n.(*ast.TypeSpec)
		if !ok {
			continue
		}
		if i, ok := s.Type.(*ast.InterfaceType); ok && len(i.Methods.List) > 0 {
			names[s.Name.Name] = true
		}
	}
	return names
}

// tellsApart tells whether n is a function with a parameter of one of these
// types, and a type switch of it.
func tellsApart(names map[string]bool) func(n ast.Node) bool {
	return func(n ast.Node) bool {
		f, ok := n.(*ast.FuncDecl)
		if !ok || !anyIn([]ast.Node{f.Body}, isTypeSwitch) {
			return false
		}
		for _, p := range f.Type.Params.List {
			if of, ok := p.Type.(*ast.Ident); ok && names[of.Name] {
				return true
			}
		}
		return false
	}
}

func isTypeSwitch(n ast.Node) bool {
	_, ok := n.(*ast.TypeSwitchStmt)
	return ok
}

// listOf tells whether n is a list of the type of that name.
func listOf(name string) func(n ast.Node) bool {
	return func(n ast.Node) bool {
		a, ok := n.(*ast.ArrayType)
		if !ok || a.Len != nil {
			return false
		}
		of, ok := a.Elt.(*ast.Ident)
		return ok && of.Name == name
	}
}

func TestWaysOfDisksAndStores(t *testing.T) {
	byFile := reached(t)
	disks := byFile["l10_disks.go"]
	if !anyIn(disks, tellsApart(interfaces(disks))) {
		t.Error("l10 has no ops behind an interface that a type switch tells apart")
	}
	stores := byFile["l11_stores.go"]
	found := false
	for _, n := range stores {
		if s, ok := n.(*ast.TypeSpec); ok {
			_, function := s.Type.(*ast.FuncType)
			found = found || function && anyIn(stores, listOf(s.Name.Name))
		}
	}
	if !found {
		t.Error("l11 has no list of function values for the steps")
	}
}

func TestWaysOfFreePagesSnapshotsAndScans(t *testing.T) {
	byFile := reached(t)
	if !anyIn(byFile["l12_frees.go"], arrayOf("uint64")) {
		t.Error("l12 has no array of words for the bits")
	}
	snaps := byFile["l13_snaps.go"]
	if !anyIn(snaps, isMap) || !anyIn(snaps, callIn("slices", "Sorted")) {
		t.Error("l13 has no roots in a map, told in order")
	}
	scans := byFile["l14_scans.go"]
	if !anyIn(scans, rangesOverOneOf(iterators(scans))) {
		t.Error("l14 has no range over a function")
	}
}

// methods are the names of those among these that are methods.
func methods(nodes []ast.Node) map[string]bool {
	names := map[string]bool{}
	for _, n := range nodes {
		if f, ok := n.(*ast.FuncDecl); ok && f.Recv != nil {
			names[f.Name.Name] = true
		}
	}
	return names
}

// isMapToOneOf tells whether n is a map from words to these, none of them
// called.
func isMapToOneOf(names map[string]bool) func(n ast.Node) bool {
	return func(n ast.Node) bool {
		c, ok := n.(*ast.CompositeLit)
		if !ok || len(c.Elts) == 0 || !isMap(c.Type) {
			return false
		}
		for _, e := range c.Elts {
			pair, ok := e.(*ast.KeyValueExpr)
			if !ok {
				return false
			}
			word, isWord := pair.Key.(*ast.BasicLit)
			of, selects := pair.Value.(*ast.SelectorExpr)
			if !isWord || word.Kind != token.STRING || !selects || !names[of.Sel.Name] {
				return false
			}
		}
		return true
	}
}

func TestWaysOfTheScript(t *testing.T) {
	script := reached(t)["l15_script.go"]
	if !anyIn(script, isMapToOneOf(methods(script))) {
		t.Error("l15 has no map from words to method values")
	}
}
