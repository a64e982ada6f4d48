package tests

import (
	"slices"
	"strconv"
	"strings"
	"testing"

	"loop.example/g00573/impl"
)

const tooLong = "too long\n"

// stepsOf parts steps as "1 get a => 1 ok 5" into lines, and what they say. A
// step without => says nothing.
func stepsOf(steps []string) ([]string, []string) {
	var lines, said []string
	for _, s := range steps {
		line, says, any := strings.Cut(s, " => ")
		if any {
			says += "\n"
		}
		lines, said = append(lines, line+"\n"), append(said, says)
	}
	return lines, said
}

// checkScript looks at what a script says, and at what it says when it ends
// behind each of its lines.
func checkScript(t *testing.T, name string, steps ...string) {
	t.Helper()
	lines, said := stepsOf(steps)
	for i := range len(lines) + 1 {
		got, want := impl.RunScript(strings.Join(lines[:i], "")), strings.Join(said[:i], "")
		if got != want {
			t.Errorf("%s: %d lines say\n%q, not\n%q", name, i, got, want)
			return
		}
	}
}

// checkLine looks at what one line says behind others.
func checkLine(t *testing.T, ahead string, line string, want string) {
	t.Helper()
	before := impl.RunScript(ahead)
	if got := impl.RunScript(ahead + line + "\n"); got != before+want {
		t.Errorf("%q: %q, not %q", line, strings.TrimPrefix(got, before), want)
	}
}

func TestScriptsOfOneTransaction(t *testing.T) {
	checkScript(t, "no line")
	checkScript(t, "a commit",
		"1 begin => 1 ok", "1 put a 5 => 1 ok", "1 get a => 1 ok 5", "show => map ", "1 commit => 1 ok", "show => map a=5", "1 get a => 1 no")
	checkScript(t, "an abort",
		"1 begin => 1 ok", "1 put a 5 => 1 ok", "1 abort => 1 ok", "show => map ", "1 abort => 1 no", "2 begin => 2 ok", "2 get a => 2 none", "2 abort => 2 ok")
	checkScript(t, "what is not there",
		"7 begin => 7 ok", "7 get a => 7 none", "7 drop a => 7 none", "7 scan - => 7 ok", "7 commit => 7 ok", "show => map ")
	checkScript(t, "a drop",
		"1 begin => 1 ok", "1 put a 5 => 1 ok", "1 put b 6 => 1 ok", "1 commit => 1 ok", "2 begin => 2 ok", "2 drop a => 2 ok", "2 get a => 2 none", "2 drop a => 2 none",
		"2 scan - => 2 ok b=6", "show => map a=5 b=6", "2 commit => 2 ok", "show => map b=6")
	checkScript(t, "in the place of another one",
		"1 begin => 1 ok", "1 put a 5 => 1 ok", "1 put a a => 1 ok", "1 get a => 1 ok a", "1 drop a => 1 ok", "1 put a 7 => 1 ok", "1 commit => 1 ok", "show => map a=7")
	checkScript(t, "none has begun",
		"1 get a => 1 no", "1 put a 1 => 1 no", "1 drop a => 1 no", "1 scan - => 1 no", "1 commit => 1 no", "1 abort => 1 no", "show => map ", "tree => tree 1 1", "waits => waits")
	checkScript(t, "numbers rise",
		"5 begin => 5 ok", "5 begin => 5 no", "4 begin => 4 no", "6 begin => 6 ok", "5 commit => 5 ok", "5 begin => 5 no", "6 commit => 6 ok", "6 begin => 6 no", "7 begin => 7 ok")
	checkScript(t, "six at most",
		"1 begin => 1 ok", "2 begin => 2 ok", "3 begin => 3 ok", "4 begin => 4 ok", "5 begin => 5 ok", "6 begin => 6 ok", "7 begin => 7 full",
		"3 abort => 3 ok", "7 begin => 7 ok", "8 begin => 8 full", "7 commit => 7 ok", "8 begin => 8 ok")
}

func TestScriptsOfMoreTransactions(t *testing.T) {
	checkScript(t, "one waits",
		"1 begin => 1 ok", "2 begin => 2 ok", "1 put a 5 => 1 ok", "2 get a => 2 wait", "waits => waits 2>1", "2 get b => 2 no", "2 commit => 2 no", "2 abort => 2 no",
		"1 commit => 1 ok; 2 ok 5", "waits => waits", "2 get b => 2 none")
	checkScript(t, "one waits, and there is nothing then",
		"1 begin => 1 ok", "2 begin => 2 ok", "1 put a 5 => 1 ok", "2 get a => 2 wait", "1 abort => 1 ok; 2 none")
	checkScript(t, "two are told behind, in the order in which they waited",
		"1 begin => 1 ok", "2 begin => 2 ok", "3 begin => 3 ok", "1 put a 5 => 1 ok", "3 get a => 3 wait", "2 get a => 2 wait", "waits => waits 2>1 2>3 3>1",
		"1 commit => 1 ok; 3 ok 5; 2 ok 5", "waits => waits")
	checkScript(t, "many are told behind, with and without a value",
		"1 begin => 1 ok", "2 begin => 2 ok", "3 begin => 3 ok", "4 begin => 4 ok", "5 begin => 5 ok", "6 begin => 6 ok", "1 put a 5 => 1 ok", "1 put b 6 => 1 ok", "1 put c 7 => 1 ok",
		"6 get a => 6 wait", "2 get zz => 2 none", "2 put b 8 => 2 wait", "3 drop c => 3 wait", "4 get c => 4 wait", "5 scan - => 5 wait", "waits => waits 2>1 3>1 4>1 4>3 5>1 5>2 5>3 6>1",
		"1 commit => 1 ok; 6 ok 5; 2 ok; 3 ok", "waits => waits 4>3 5>2 5>3", "3 commit => 3 ok; 4 none", "2 commit => 2 ok; 5 ok a=5 b=8", "show => map a=5 b=8")
	checkScript(t, "one is woken, and waits again",
		"1 begin => 1 ok", "2 begin => 2 ok", "3 begin => 3 ok", "1 scan - => 1 ok", "2 get a => 2 none", "3 put a 1 => 3 wait", "waits => waits 3>1",
		"1 commit => 1 ok; 3 wait", "waits => waits 3>2", "2 commit => 2 ok; 3 ok", "3 commit => 3 ok", "show => map a=1")
	checkScript(t, "one is dead",
		"1 begin => 1 ok", "2 begin => 2 ok", "1 put a 5 => 1 ok", "2 put b 6 => 2 ok", "1 get b => 1 wait", "2 get a => 2 dead; 1 none", "2 commit => 2 no", "1 commit => 1 ok", "show => map a=5")
	checkScript(t, "one is dead, and wakes none",
		"1 begin => 1 ok", "2 begin => 2 ok", "3 begin => 3 ok", "1 get a => 1 none", "2 get a => 2 none", "3 get b => 3 none", "1 put a 1 => 1 wait", "3 get a => 3 wait", "waits => waits 1>2 3>1",
		"2 put b 1 => 2 dead; 1 ok", "waits => waits 3>1", "1 commit => 1 ok; 3 ok 1")
}

// puttingMany has the lines in which one transaction puts n pairs, and what they say.
func puttingMany(txn string, n int) []string {
	steps := []string{txn + " begin => " + txn + " ok"}
	for _, p := range numbered(n) {
		steps = append(steps, txn+" put "+p.Key+" "+p.Val+" => "+txn+" ok")
	}
	return append(steps, txn+" commit => "+txn+" ok")
}

func TestShowAndTreeOfManyPairs(t *testing.T) {
	for n := range 38 {
		x, _ := impl.TreeOf(numbered(n))
		levels, nodes := strconv.FormatInt(impl.Height(x), 10), strconv.Itoa(len(x))
		checkScript(t, "show", append(puttingMany("1", n), "show => map "+impl.MapText(numbered(n)))...)
		checkScript(t, "tree", append(puttingMany("1", n), "tree => tree "+levels+" "+nodes)...)
	}
	for n, want := range map[int]string{0: "1 1", 1: "1 1", 4: "1 1", 5: "2 3", 8: "2 3", 9: "2 4", 16: "2 5", 17: "3 8", 37: "3 14"} {
		checkScript(t, "tree", append(puttingMany("1", n), "tree => tree "+want)...)
	}
}

func TestShowTellsWhatIsCommittedAlone(t *testing.T) {
	steps := append(puttingMany("1", 17), "2 begin => 2 ok", "2 drop k10 => 2 ok", "2 put k9 1 => 2 ok", "2 put k10 0 => 2 ok", "tree => tree 3 8", "show => map "+impl.MapText(numbered(17)))
	m, _ := impl.Put(numbered(17), "k9", "1")
	checkScript(t, "show", append(steps, "2 commit => 2 ok", "show => map "+impl.MapText(m))...)
}

func TestScansOfScripts(t *testing.T) {
	ahead := "1 begin\n1 put ! 0\n1 put - 1\n1 put -- 2\n1 put b 3\n1 put d 4\n1 commit\n2 begin\n"
	for line, want := range map[string]string{
		"2 scan -":     "2 ok !=0 -=1 --=2 b=3 d=4\n",
		"2 scan --":    "2 ok --=2 b=3 d=4\n",
		"2 scan -!":    "2 ok --=2 b=3 d=4\n",
		"2 scan !":     "2 ok !=0 -=1 --=2 b=3 d=4\n",
		"2 scan b":     "2 ok b=3 d=4\n",
		"2 scan c":     "2 ok d=4\n",
		"2 scan d":     "2 ok d=4\n",
		"2 scan e":     "2 ok\n",
		"2 scan b d":   "2 ok b=3\n",
		"2 scan b dd":  "2 ok b=3 d=4\n",
		"2 scan - b":   "2 ok !=0 -=1 --=2\n",
		"2 scan - -":   "2 ok !=0\n",
		"2 scan - !":   "2 ok\n",
		"2 scan - z":   "2 ok !=0 -=1 --=2 b=3 d=4\n",
		"2 scan ! -":   "2 ok !=0\n",
		"2 scan b b":   "2 ok\n",
		"2 scan d b":   "2 ok\n",
		"2 scan b -":   "2 ok\n",
		"2 scan -- -":  "2 ok\n",
		"2 scan":       "what\n",
		"2 scan - - -": "what\n",
		"2 scan a b c": "what\n",
		"2 scan a= b":  "what\n",
		"2 scan b c=":  "what\n",
		"2 scan - c=":  "what\n",
		"3 scan -":     "3 no\n",
	} {
		checkLine(t, ahead, line, want)
	}
	checkScript(t, "a scan asks for the table alone", "1 begin => 1 ok", "2 begin => 2 ok", "1 scan b c => 1 ok", "2 put zz 1 => 2 wait", "waits => waits 2>1", "1 abort => 1 ok; 2 ok")
	checkScript(t, "a scan that waits has its bounds when it is done",
		"1 begin => 1 ok", "2 begin => 2 ok", "1 put a 1 => 1 ok", "1 put b 2 => 1 ok", "1 put c 3 => 1 ok", "2 scan b c => 2 wait", "1 commit => 1 ok; 2 ok b=2")
}

// TestMinusIsAKeyElsewhere: only the key of a scan has another meaning.
func TestMinusIsAKeyElsewhere(t *testing.T) {
	checkScript(t, "-", "1 begin => 1 ok", "1 get - => 1 none", "1 put - - => 1 ok", "1 get - => 1 ok -", "1 scan - => 1 ok -=-", "1 scan - - => 1 ok", "1 drop - => 1 ok", "1 drop - => 1 none")
}

func TestLinesThatAreNone(t *testing.T) {
	ahead := "1 begin\n1 put a 5\n"
	for _, line := range []string{
		"fly", "fly away", "1", "1 fly", "1 fly a", "1 1", "1 1 begin", "begin", "begin 1", "commit", "abort", "get a", "put a 1", "drop a", "scan -", "scan a",
		"1 begin now", "2 begin a", "2 begin a b", "2 begin a b c", "1 commit now", "1 commit a b", "1 commit a b c", "1 abort now", "1 abort a b", "1 abort a b c",
		"1 get", "1 get a b", "1 get a b c", "1 get a a", "1 drop", "1 drop a b", "1 drop a b c", "1 put", "1 put a", "1 put a b c", "1 put a 1 2", "1 put a 1 2 3",
		"1 scan", "1 scan a b c", "1 scan - b c", "1 scan a b c d",
		"show me", "show show", "show 1", "1 show", "1 show a", "tree now", "tree 1", "1 tree", "waits 1", "waits on", "1 waits", "1 waits 2", "show tree", "what", "ok", "map", "map a=1",
		"Show", "SHOW", "Tree", "TREE", "Waits", "WAITS", "2 Begin", "2 BEGIN", "1 Get a", "1 GET a", "1 Put a 1", "1 Drop a", "1 Scan -", "1 Commit", "1 COMMIT", "1 Abort", "wait", "1 gets a", "1 ge a", "sho", "shows",
		"1get a", "1 geta", "1,get,a", "1 get,a", "1begin", "2begin", "-", "=", "1 -", "1 =", "a=1", "show;", "show; show", "1 commit; show", "#", "# show", "\"show\"",
	} {
		checkLine(t, ahead, line, "what\n")
		checkLine(t, "", line, "what\n")
		checkLine(t, ahead, "  "+strings.ReplaceAll(line, " ", "   ")+" ", "what\n")
	}
	checkScript(t, "none of them does anything", "1 begin now => what", "1 get a => 1 no", "1 begin => 1 ok", "1 put a => what", "1 put a 1 2 => what", "1 put a 1 => 1 ok", "1 commit now => what", "show => map ",
		"1 abort now => what", "1 drop => what", "1 drop a a => what", "1 get a => 1 ok 1", "1 commit => 1 ok", "show => map a=1")
}

func TestBlanks(t *testing.T) {
	checkScript(t, "blanks ahead, behind and between",
		"   1 begin => 1 ok", "1 put   a    5 => 1 ok", "1   get a => 1 ok 5", "1 get a    => 1 ok 5", "    1   get   a    => 1 ok 5", " 1 scan   - => 1 ok a=5", "1 scan -   z  => 1 ok a=5", "  1   commit   => 1 ok",
		" show => map a=5", "show  => map a=5", "   show   => map a=5", " tree  => tree 1 1", "  waits => waits", " fly  => what")
	checkScript(t, "lines of blanks say nothing", "", " ", "1 begin => 1 ok", "  ", "", "1 put a 5 => 1 ok", strings.Repeat(" ", 3000), "1 commit => 1 ok", "show => map a=5", "", "   ")
	checkScript(t, "blanks alone", " ")
	checkScript(t, "nothing alone", "")
	ahead := "1 begin\n1 put a 5\n"
	for _, other := range []string{"\t", "\r", "\v", "\f", "\x00", "\x1f", "!", "\u00a0", "\u0085", "\u2003", "\u3000", "\ufeff", "\xff", "\x80", "\xc2", "\x85", "\xa0"} {
		for _, line := range []string{other, " " + other, other + " ", " " + other + " ", other + other, "1" + other + "get a", "1 get" + other + "a", other + "1 get a", "1" + other + " get a", "1 " + other + "get a", "1 get" + other + " a", "show" + other, other + "show", "show " + other, other + " show", other + "waits", "tree" + other, "2 begin" + other, "2 begin " + other, "1 commit" + other, other + " 1 get a", "1 get a b" + other} {
			checkLine(t, ahead, line, "what\n")
		}
		if other != "!" {
			checkLine(t, ahead, "1 get a"+other, "what\n")
			checkLine(t, ahead, "1 get "+other+"a", "what\n")
			checkLine(t, ahead, "1 put b 1"+other, "what\n")
			checkLine(t, ahead, "1 scan a"+other, "what\n")
			checkLine(t, ahead, "1 scan a z"+other, "what\n")
			checkLine(t, ahead, "1 scan -"+other, "what\n")
		}
	}
	checkScript(t, "a carriage return ends no line", "1 begin\r => what", "1 begin\r2 begin => what", "show\r => what", "\r => what", "1 begin => 1 ok", "1 put a 1\r => what", "1 get a => 1 none")
}

func TestTransactionsInLines(t *testing.T) {
	for line, want := range map[string]string{
		"0 begin": "0 no\n", "0 get a": "0 no\n", "0 scan -": "0 no\n", "0 commit": "0 no\n", "1 begin": "1 ok\n", "9 begin": "9 ok\n", "10 begin": "10 ok\n", "999 begin": "999 ok\n", "1000 begin": "1000 ok\n",
		"1001 begin": "1001 no\n", "1001 get a": "1001 no\n", "2147483648 begin": "2147483648 no\n", "4294967297 begin": "4294967297 no\n", "9999999999 begin": "9999999999 no\n", "9999999999 abort": "9999999999 no\n",
	} {
		checkLine(t, "", line, want)
	}
	for _, n := range []string{
		"00", "01", "001", "0000000001", "00000000001", "-0", "-1", "-1000", "+0", "+1", "--1", "1-", "1+", "1.", "1.0", "1,0", "1e0", "1e1", "0x1", "0b1", "0o1", "1_0", "x", "a", "1a", "a1", "I", "one", "#1", "1:", "١", "１", "1\x00",
		"10000000000", "10000000001", "11111111111", "99999999999", "9223372036854775807", "9223372036854775808", "-9223372036854775808", "18446744073709551617", "340282366920938463463374607431768211457", strings.Repeat("1", 1000), strings.Repeat("0", 1000) + "1",
	} {
		for _, ask := range []string{"begin", "get a", "put a 1", "drop a", "scan -", "scan a b", "commit", "abort"} {
			checkLine(t, "1 begin\n", n+" "+ask, "what\n")
		}
	}
	checkScript(t, "the greatest one", "1001 begin => 1001 no", "1000 begin => 1000 ok", "1000 put a 1 => 1000 ok", "1000 get a => 1000 ok 1", "1000 scan - => 1000 ok a=1", "1001 begin => 1001 no", "1000 commit => 1000 ok", "1000 begin => 1000 no", "show => map a=1")
	checkScript(t, "the greatest one waits", "999 begin => 999 ok", "1000 begin => 1000 ok", "999 put a 1 => 999 ok", "1000 get a => 1000 wait", "waits => waits 1000>999", "999 commit => 999 ok; 1000 ok 1")
}

func TestKeysAndValuesInLines(t *testing.T) {
	ahead := "1 begin\n1 put a 5\n"
	for _, k := range []string{"toolong", "sevenby", "a=", "=", "=a", "a=5", "a=b=c", "\x1f", "a\x1f", "\x7f", "a\x7f", "\x80", "\xff", "é", "a\tb", strings.Repeat("a", 1000)} {
		for _, line := range []string{"1 get " + k, "1 drop " + k, "1 put " + k + " 1", "1 put a " + k, "1 put " + k + " " + k, "1 scan " + k, "1 scan " + k + " z", "1 scan a " + k, "1 scan - " + k, "1 scan -" + k} {
			checkLine(t, ahead, line, "what\n")
		}
		// No request that is not right is done, so nobody has to be there.
		checkLine(t, "", "2 get "+k, "what\n")
		checkLine(t, "", "2 put "+k+" 1", "what\n")
	}
	for _, k := range []string{"sixbyt", "!", "~", "~~~~~~", "!\"#$%&", "<", ">", "1", "0", "-1", "get", "show", "begin", ";", ",", "-", "ok", "'", "\"", "\\n"} {
		checkScript(t, k, "1 begin => 1 ok", "1 get "+k+" => 1 none", "1 put "+k+" "+k+" => 1 ok", "1 get "+k+" => 1 ok "+k, "1 scan "+k+" => 1 ok "+k+"="+k, "1 commit => 1 ok", "show => map "+k+"="+k,
			"2 begin => 2 ok", "2 drop "+k+" => 2 ok", "2 commit => 2 ok", "show => map ")
	}
	checkScript(t, "a value that is like a told one", "1 begin => 1 ok", "1 put a ok; => 1 ok", "1 get a => 1 ok ok;", "1 put a none => 1 ok", "1 get a => 1 ok none")
}

func TestAtMost40Lines(t *testing.T) {
	mixed := slices.Repeat([]string{"show", "", "fly", "   ", "tree", "waits", "1 get a", " "}, 6)
	for name, l := range map[string][]string{
		"show": slices.Repeat([]string{"show"}, 45), "nothing": slices.Repeat([]string{""}, 45), "blanks": slices.Repeat([]string{"  "}, 45), "what": slices.Repeat([]string{"fly away"}, 45), "of each": mixed,
		"blank lines and one that says": append(slices.Repeat([]string{""}, 39), "show", "", "", "", ""),
		"one that says and blank lines": append([]string{"show"}, slices.Repeat([]string{""}, 44)...),
		"the 41st is blank":             append(slices.Repeat([]string{"tree"}, 40), " ", "", "show", "", ""),
		"the 41st says":                 append(slices.Repeat([]string{" "}, 40), "show", "", "", "", ""),
	} {
		says := map[string]string{"show": "map \n", "fly": "what\n", "fly away": "what\n", "tree": "tree 1 1\n", "waits": "waits\n", "1 get a": "1 no\n"}
		want := ""
		for n, line := range l {
			got := impl.RunScript(strings.Join(l[:n], "\n") + strings.Repeat("\n", min(n, 1)))
			if n > 40 {
				want = tooLong
			}
			if got != want {
				t.Errorf("%s: %d lines: %q, not %q", name, n, got, want)
			}
			want += says[line]
		}
	}
	for _, n := range []int{41, 100, 1000, 3999, 4000, 4001, 100000} {
		if got := impl.RunScript(strings.Repeat("\n", n)); got != tooLong {
			t.Errorf("%d ends: %q", n, got)
		}
	}
}

func TestALastLineThatIsNotEnded(t *testing.T) {
	for _, ahead := range []string{"", "\n", "show\n", "1 begin\n1 put a 1\n1 commit\n", strings.Repeat("show\n", 38), strings.Repeat("show\n", 39), strings.Repeat("show\n", 40), strings.Repeat("\n", 40), " \n"} {
		for _, last := range []string{"show", " ", "  ", "1 begin", "fly", "\t", "\r", "\x00", "x", "show "} {
			if got := impl.RunScript(ahead + last); got != tooLong {
				t.Errorf("%q: %q", ahead+last, got)
			}
			if got := impl.RunScript(ahead + last + "\r"); got != tooLong {
				t.Errorf("%q and a carriage return: %q", ahead+last, got)
			}
			if got := impl.RunScript(ahead + last + "\n"); (got == tooLong) != (strings.Count(ahead, "\n") == 40) {
				t.Errorf("%q, ended: %q", ahead+last, got)
			}
		}
	}
}

// padded has blanks behind text, so that it has n bytes with the end of the
// line.
func padded(text string, n int) string {
	return text + strings.Repeat(" ", n-len(text)-1) + "\n"
}

func TestAtMost4000Bytes(t *testing.T) {
	for _, c := range []struct{ text, said string }{
		{"show", "map \n"},
		{"", ""},
		{"show\ntree", "map \ntree 1 1\n"},
		{"1 begin\n1 put a 5\n1 commit\nshow", "1 ok\n1 ok\n1 ok\nmap a=5\n"},
		{strings.Repeat("waits\n", 39) + "show", strings.Repeat("waits\n", 39) + "map \n"},
		{strings.Repeat("x", 3999), "what\n"},
	} {
		for n, want := range map[int]string{4000: c.said, 4001: tooLong, 4002: tooLong, 8000: tooLong, 1 << 20: tooLong} {
			if got := impl.RunScript(padded(c.text, n)); got != want {
				t.Errorf("%.40q in %d bytes: %q", c.text, n, got)
			}
			if got := impl.RunScript(strings.Repeat(" ", n-len(c.text)-1) + c.text + "\n"); got != want {
				t.Errorf("%.40q in %d bytes, at their end: %q", c.text, n, got)
			}
		}
		// The last byte that is one too many need not be that of a line.
		if got := impl.RunScript(padded(c.text, 4000) + "\n"); got != tooLong {
			t.Errorf("%.40q, and a line behind: %q", c.text, got)
		}
		if got := impl.RunScript(padded(c.text, 4000) + " "); got != tooLong {
			t.Errorf("%.40q, and a blank behind: %q", c.text, got)
		}
	}
	if got := impl.RunScript(strings.Repeat(" ", 4000)); got != tooLong {
		t.Errorf("4000 blanks: %q", got)
	}
	if got := impl.RunScript(strings.Repeat(padded("show", 100), 40)); got != strings.Repeat("map \n", 40) {
		t.Errorf("40 lines of 100 bytes: %q", got)
	}
	if got := impl.RunScript(strings.Repeat(padded("show", 100), 39) + padded("show", 101)); got != tooLong {
		t.Errorf("40 lines of 4001 bytes: %q", got)
	}
}

func TestTheLimitsOfScripts(t *testing.T) {
	if impl.MaxScript != 40 || impl.MaxLines != 4000 {
		t.Error(impl.MaxScript, impl.MaxLines)
	}
}

// TestNothingIsKeptFromScriptToScript: each one begins with nothing.
func TestNothingIsKeptFromScriptToScript(t *testing.T) {
	impl.RunScript("1 begin\n1 put a 5\n1 commit\n2 begin\n2 put b 1\n3 begin\n3 get b\n")
	checkScript(t, "behind another one", "show => map ", "waits => waits", "tree => tree 1 1", "3 get b => 3 no", "1 begin => 1 ok", "1 get a => 1 none")
}
