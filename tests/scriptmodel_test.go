package tests

import (
	"math/rand"
	"regexp"
	"slices"
	"strconv"
	"strings"
	"testing"

	"loop.example/g00573/impl"
)

// lineForm is how one line of the chapter's table may be written.
type lineForm struct {
	kind int64
	form *regexp.Regexp
}

func formOf(kind int64, words string) lineForm {
	words = strings.NewReplacer("N", "(0|[1-9][0-9]{0,9})", "K", "([!-<>-~]{1,6})", " ", " +").Replace(words)
	return lineForm{kind: kind, form: regexp.MustCompile("^ *" + words + " *$")}
}

var lineForms = []lineForm{
	formOf(impl.TqBegin, "N begin"), formOf(impl.TqCommit, "N commit"), formOf(impl.TqAbort, "N abort"),
	formOf(impl.TqGet, "N get K"), formOf(impl.TqDrop, "N drop K"), formOf(impl.TqPut, "N put K K"),
	formOf(impl.TqScan, "N scan K"), formOf(impl.TqScan, "N scan K K"),
}

var askForms = map[string]*regexp.Regexp{
	"show": regexp.MustCompile("^ *show *$"), "tree": regexp.MustCompile("^ *tree *$"), "waits": regexp.MustCompile("^ *waits *$"),
}

// levelsOf is how many levels and nodes TreeOf makes of that many pairs: a part
// has less than four only where one more would be left alone, so there are as
// many parts as fours, and one for a rest.
func levelsOf(pairs int) (int, int) {
	levels, nodes := 1, max(1, (pairs+3)/4)
	for level := nodes; level > 1; levels++ {
		level = (level + 3) / 4
		nodes += level
	}
	return levels, nodes
}

// scriptModel works out a line by what is written in it as a whole, in a
// dbModel; a second way to work out what chapter 15 says.
type scriptModel struct{ db *dbModel }

func (m scriptModel) asks(line string) (string, bool) {
	switch {
	case askForms["show"].MatchString(line):
		var words []string
		for _, p := range pairsFrom(m.db.pairs) {
			words = append(words, p.Key+"="+p.Val)
		}
		return "map " + strings.Join(words, " "), true
	case askForms["tree"].MatchString(line):
		levels, nodes := levelsOf(len(m.db.pairs))
		return "tree " + strconv.Itoa(levels) + " " + strconv.Itoa(nodes), true
	case askForms["waits"].MatchString(line):
		said := "waits"
		for _, e := range m.db.locks.edges() {
			said += " " + strconv.FormatInt(e.A, 10) + ">" + strconv.FormatInt(e.B, 10)
		}
		return said, true
	}
	return "", false
}

func (m scriptModel) does(line string) (string, bool) {
	for _, f := range lineForms {
		words := append(f.form.FindStringSubmatch(line), "", "")
		if len(words) == 2 {
			continue
		}
		txn, _ := strconv.ParseInt(words[1], 10, 64)
		q := impl.Req{Txn: txn, Kind: f.kind, Key: words[2], Val: words[3]}
		if f.kind == impl.TqScan && q.Key == "-" {
			q.Key = ""
		}
		m.db.told = nil
		m.db.do(q)
		return strings.NewReplacer("form", "no").Replace(toldInLine(m.db.told)), true
	}
	return "", false
}

func toldInLine(l []impl.Told) string {
	var all []string
	for _, x := range l {
		words := []string{strconv.FormatInt(x.Txn, 10), codeNames[x.Code], x.Val}
		all = append(all, strings.TrimSuffix(strings.Join(words, " "), " "))
	}
	return strings.Join(all, "; ")
}

// saidByModel is what each line says, "" where that is nothing.
func saidByModel(lines []string) []string {
	m := scriptModel{dbModelOf(impl.Db{})}
	var said []string
	for _, line := range lines {
		says, any := m.asks(line)
		if !any {
			says, any = m.does(line)
		}
		switch {
		case strings.Trim(line, " ") == "":
			says = ""
		case any:
			says += "\n"
		default:
			says = "what\n"
		}
		said = append(said, says)
	}
	return said
}

func ended(lines []string) string {
	text := ""
	for _, line := range lines {
		text += line + "\n"
	}
	return text
}

// bentLine is a line with one thing changed, so that it need not be right any
// more.
func bentLine(r *rand.Rand, line string) string {
	at := r.Intn(len(line) + 1)
	ahead, rest := line[:at], line[at:]
	switch r.Intn(6) {
	case 0:
		return ahead + []string{" ", "  ", "\t", "\r", "=", "-", "0", "z", "é", "\x00"}[r.Intn(10)] + rest
	case 1:
		if rest != "" {
			return ahead + rest[1:]
		}
		return " " + line + "  "
	case 2:
		return line + []string{" a", " -", " 1", " toolong", " a b", " begin"}[r.Intn(6)]
	case 3:
		return strings.ReplaceAll(line, " ", strings.Repeat(" ", 1+r.Intn(3)))
	case 4:
		return ahead + strings.ToUpper(rest)
	}
	return strings.Join(strings.Fields(line)[:r.Intn(2)], " ")
}

// lineFor is one that asks for q, right or not.
func lineFor(q impl.Req) string {
	words := []string{strconv.FormatInt(q.Txn, 10), kindNames[max(0, min(q.Kind, 8))], q.Key, q.Val}
	if q.Kind == impl.TqScan && q.Key == "" {
		words[2] = "-"
	}
	return strings.Join(slices.DeleteFunc(words, func(w string) bool { return w == "" }), " ")
}

// someLines has n lines, most of which can be done where they stand.
func someLines(r *rand.Rand, n int) []string {
	var lines []string
	d := impl.Db{}
	for range n {
		q := someReqIn(r, d)
		line := lineFor(q)
		switch r.Intn(12) {
		case 0:
			line = bentLine(r, line)
		case 1:
			line = []string{"show", "tree", "waits", " waits ", "", "  "}[r.Intn(6)]
		default:
			d, _ = impl.TxnDo(d, q)
		}
		lines = append(lines, line)
	}
	return lines
}

func TestScriptsAgainstTheModel(t *testing.T) {
	r := rand.New(rand.NewSource(151))
	words := map[string]int{}
	behind := 0
	for range 6000 {
		lines := someLines(r, r.Intn(41))
		got, want := impl.RunScript(ended(lines)), strings.Join(saidByModel(lines), "")
		if got != want {
			t.Fatalf("%q says\n%s, not\n%s", lines, got, want)
		}
		behind += strings.Count(got, ";")
		for _, w := range strings.Fields(got) {
			words[strings.TrimSuffix(w, ";")]++
		}
	}
	for _, w := range []string{"ok", "none", "wait", "dead", "no", "full", "what", "map", "tree", "waits"} {
		if words[w] < 80 {
			t.Error(w, "was said", words[w], "times")
		}
	}
	if behind < 2000 {
		t.Error("told behind:", behind)
	}
}

// TestScriptsOfAnyWords has lines of which few are right.
func TestScriptsOfAnyWords(t *testing.T) {
	r := rand.New(rand.NewSource(152))
	words := []string{"1", "2", "0", "01", "1000", "9999999999", "10000000000", "begin", "get", "put", "drop", "scan", "commit", "abort", "show", "tree", "waits", "a", "b", "-", "a=b", "toolong", "\t", "a\r", "BEGIN", "é"}
	right := 0
	for range 20000 {
		lines := []string{"1 begin", "1 put a b"}
		for range 8 {
			var line []string
			for range r.Intn(6) {
				line = append(line, words[r.Intn(len(words))])
			}
			lines = append(lines, strings.Join(line, " "))
		}
		got, want := impl.RunScript(ended(lines)), strings.Join(saidByModel(lines), "")
		if got != want {
			t.Fatalf("%q says\n%s, not\n%s", lines, got, want)
		}
		right += strings.Count(got, "\n") - strings.Count(got, "what") - 2
	}
	if right < 2000 {
		t.Error(right, "lines were right")
	}
}

// asking has each line with those that ask behind it, and the places of these.
func asking(lines []string, asks []string) ([]string, map[int]bool) {
	var all []string
	places := map[int]bool{}
	for _, line := range lines {
		all = append(all, line)
		for _, ask := range asks {
			places[len(all)] = true
			all = append(all, ask)
		}
	}
	return all, places
}

// saidInScript is what each line says, found by what the script says without it
// and all behind it.
func saidInScript(t *testing.T, lines []string) []string {
	t.Helper()
	var said []string
	before := impl.RunScript("")
	for i := range lines {
		now := impl.RunScript(ended(lines[:i+1]))
		if !strings.HasPrefix(now, before) {
			t.Fatalf("%q: said was\n%s, with a line more\n%s", lines[:i+1], before, now)
		}
		said = append(said, now[len(before):])
		before = now
	}
	return said
}

// checkAsking looks whether lines that ask change what others say.
func checkAsking(t *testing.T, lines []string, said []string, asks ...string) {
	t.Helper()
	all, places := asking(lines, asks)
	var others []string
	for i, says := range saidInScript(t, all) {
		if !places[i] {
			others = append(others, says)
			continue
		}
		if says == "" || says == "what\n" {
			t.Fatalf("%q: %q says %q", all, all[i], says)
		}
	}
	if !slices.Equal(others, said) {
		t.Fatalf("%q: the lines say\n%q, without those that ask\n%q", all, others, said)
	}
}

func TestPromise15(t *testing.T) {
	r := rand.New(rand.NewSource(15))
	for range 400 {
		lines := someLines(r, 40)
		said := saidInScript(t, lines)
		for i, line := range lines {
			if strings.Count(said[i], "\n") != min(1, len(strings.Trim(line, " "))) {
				t.Fatalf("%q: %q says %q", lines, line, said[i])
			}
		}
		whole := impl.RunScript(ended(lines))
		if whole != strings.Join(said, "") {
			t.Fatalf("%q: %s", lines, whole)
		}
		if got := impl.RunScript(ended(lines) + "\n"); got != tooLong {
			t.Fatalf("%q: with a line more: %s", lines, got)
		}
		checkAsking(t, lines[:10], said[:10], "show", "tree", "waits")
		checkAsking(t, lines[:20], said[:20], []string{"show", "tree", "waits"}[r.Intn(3)])
		i := r.Intn(38)
		checkAsking(t, lines[i:i+1], saidInScript(t, lines[i:i+1]), "waits", "show", "tree")
	}
}

// TestAskingAtOnePlace has lines that ask between two of a long script.
func TestAskingAtOnePlace(t *testing.T) {
	r := rand.New(rand.NewSource(153))
	for range 100 {
		lines := someLines(r, 37)
		whole := impl.RunScript(ended(lines))
		for i := range len(lines) + 1 {
			before := impl.RunScript(ended(lines[:i]))
			asked := impl.RunScript(ended(lines[:i]) + "show\ntree\nwaits\n")
			if !strings.HasPrefix(asked, before) {
				t.Fatal(lines, i, asked)
			}
			want := asked + strings.TrimPrefix(whole, before)
			if got := impl.RunScript(ended(slices.Insert(slices.Clone(lines), i, "show", "tree", "waits"))); got != want {
				t.Fatalf("%q, asked at %d: %s", lines, i, got)
			}
		}
	}
}

// TestScriptsAreTxnDoByTurns goes from request to request with TxnDo, and asks
// the functions of other chapters what the lines that ask say.
func TestScriptsAreTxnDoByTurns(t *testing.T) {
	r := rand.New(rand.NewSource(154))
	for range 500 {
		d := impl.Db{}
		var lines []string
		want := ""
		for range 10 {
			q := someReqIn(r, d)
			if q.Kind < impl.TqBegin || q.Kind > impl.TqAbort || !wellFormed(q) {
				continue
			}
			n, told := impl.TxnDo(d, q)
			d = n
			x, _ := impl.TreeOf(d.Map)
			waits := "waits"
			for _, e := range impl.WaitsFor(d.Locks) {
				waits += " " + idsText([]int64{e.A}) + ">" + idsText([]int64{e.B})
			}
			lines = append(lines, lineFor(q), "show", "tree", "waits")
			want += strings.ReplaceAll(toldInLine(told), "form", "no") + "\nmap " + impl.MapText(d.Map) + "\ntree " + idsText([]int64{impl.Height(x), int64(len(x))}) + "\n" + waits + "\n"
		}
		if got := impl.RunScript(ended(lines)); got != want {
			t.Fatalf("%q: %s, not %s", lines, got, want)
		}
	}
}
