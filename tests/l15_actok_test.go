package tests

import (
	"math/rand"
	"regexp"
	"slices"
	"strings"
	"testing"

	"loop.example/g00464/impl"
)

const (
	mostCats = 3
	mostOut  = 12
)

var (
	outActShape = regexp.MustCompile(`\A(?:put(?: [^ ]+)+|cat(?: [^ ]+){1,3}|env [^ ]+|use(?: [^ ]+){2}) > ([^ ]+)\z`)
	logActShape = regexp.MustCompile(`\Alog(?: [^ ]+)+\z`)
	signAtEnd   = regexp.MustCompile(` > [^ ]+\z`)
)

func isOut(s string) bool { return isPath(s) && !strings.Contains(s, "/") }

// othersActOk holds s against patterns, and reads no words.
func othersActOk(s string) bool {
	if out := outActShape.FindStringSubmatch(s); out != nil {
		return isOut(out[1])
	}
	return s == "fail" || logActShape.MatchString(s) && !signAtEnd.MatchString(s)
}

// actOrNot asks for the act itself, and, where it is none, for what it does of nothing.
func actOrNot(t *testing.T, s string, right bool) {
	t.Helper()
	if got := impl.ActOk(s); got != right {
		t.Errorf("the act %.200q is %v", s, got)
	}
	if others := othersActOk(s); others != right {
		t.Errorf("the test's own reader tells of %.200q: %v", s, others)
	}
	if right {
		return
	}
	m := madeTold("o=1;p=2", "did\n")
	if got, ok := impl.Act(jobToDo(), m, s); ok || !madesAlike(got, m) {
		t.Errorf("what is no act, %.200q, makes %v, %v", s, got, ok)
	}
}

// actsAlone has of each of the six acts one with as few words as it may have.
func actsAlone() []string {
	return []string{"put a > o", "cat a > o", "env a > o", "use a b > o", "log a", "fail"}
}

func TestEachActAlone(t *testing.T) {
	for _, s := range actsAlone() {
		actOrNot(t, s, true)
	}
	for _, s := range []string{"put it all > out", "cat src/main.go > main.go", "cat a/x a/y b/z > all", "env mode > mode.txt", "use app#build out > app.out", "log it is done", "log x"} {
		actOrNot(t, s, true)
	}
}

// TestHowManyWords: of each act by how many words stand between the first one and the sign, if there is one.
func TestHowManyWords(t *testing.T) {
	for _, z := range []struct {
		word  string
		to    string
		least int
		most  int
	}{{"put", " > o", 1, 1000}, {"cat", " > o", 1, mostCats}, {"env", " > o", 1, 1}, {"use", " > o", 2, 2}, {"log", "", 1, 1000}, {"fail", "", 0, 0}} {
		for n := range 12 {
			for _, word := range []string{"a", "a/b", "a#b", "A", "<", "*", "o", "put", "fail", "-", "0", strings.Repeat("x", 100)} {
				s := z.word + strings.Repeat(" "+word, n) + z.to
				actOrNot(t, s, z.least <= n && n <= z.most)
			}
		}
		many := z.most == 1000
		actOrNot(t, z.word+strings.Repeat(" a", 1000)+z.to, many)
		actOrNot(t, z.word+strings.Repeat(" a", 60000)+z.to, many)
	}
}

// TestActsWithTheOtherEnding: where the text goes to Log there is no sign, and where it goes to an out there must be one.
func TestActsWithTheOtherEnding(t *testing.T) {
	for _, s := range []string{
		"put", "put a", "put a o", "put a b o", "cat a", "cat a o", "env a", "env a o", "use a b", "use a b o",
		"put a >", "cat a >", "env a >", "use a b >", "put >", "cat >", "env >", "use >",
		"put > o", "cat > o", "env > o", "use > o", "use a > o",
		"log > o", "log a > o", "log a b > o", "log > > o", "log > a > o", "fail > o", "fail a > o",
		"log", "fail a", "fail >", "fail fail", "fail 1", "put a > o p", "cat a > o p q r", "env a > o p", "use a b > o p", "use a > b o",
		"put a -> o", "put a >o", "put a>o", "put a> o", "put a >> o", "put a < o", "put a = o", "put a o >", "> o put a", "> o",
	} {
		actOrNot(t, s, false)
	}
}

// TestSignsAmongTheWords: as the last word but one alone it is a sign; elsewhere it is a word like others.
func TestSignsAmongTheWords(t *testing.T) {
	for s, right := range map[string]bool{
		"put a > b > o": true, "put > > o": true, "put > a > o": true, "put a > > o": true, "put > > > > o": true, "put > o > o": true, "put a > b c > o": true,
		"put a > b > c d": false, "put a > b c": false, "put a > >": false, "put > >": false, "put > > >": false, "put > o >": false, "put > a": false,
		"cat > > o": true, "cat a > > o": true, "cat > a > o": true, "cat a > b > o": true, "cat > > > > o": true, "cat a b > > o": true, "cat > > > > > o": false, "cat a b > c > o": false, "cat a b c > > o": false, "cat a > b o": false, "cat > a": false,
		"env > > o": true, "env a > > o": false, "env > a > o": false, "env > > >": false,
		"use a > > o": true, "use > a > o": true, "use > > > o": true, "use > > o": false, "use a > b > o": false, "use > > > > o": false,
		"log >": true, "log a >": true, "log a b >": true, "log > a b": true, "log a > b c": true, "log > > a b": true, "log > a b c": true,
		"log > >": false, "log > > >": false, "log a > >": false, "log > a > b": false, "log a > b": false, "log > b": false, "log a > b c > d": false,
		"log a => b": true, "log a >b c": true, "log a b> c": true, "log a >> c": true,
	} {
		actOrNot(t, s, right)
	}
}

// TestBlanksOfActs: single ones between words, and nowhere else.
func TestBlanksOfActs(t *testing.T) {
	actOrNot(t, "", false)
	for n := 1; n < 6; n++ {
		actOrNot(t, strings.Repeat(" ", n), false)
	}
	for _, s := range append(actsAlone(), "put a b c > o", "cat a b c > o", "log a b c") {
		actOrNot(t, s, true)
		for _, z := range []string{" " + s, s + " ", "  " + s, s + "  ", " " + s + " "} {
			actOrNot(t, z, false)
		}
		for at := range len(s) {
			if s[at] == ' ' {
				actOrNot(t, s[:at]+" "+s[at:], false)
				actOrNot(t, s[:at]+"  "+s[at:], false)
				// Without the blank two words are one, and what is left may still be an act.
				actOrNot(t, s[:at]+s[at+1:], othersActOk(s[:at]+s[at+1:]))
				for _, other := range []string{"\t", "\n", "\r", "\v", "\f", "\x00", "\u00a0", "\u2003", "_", ","} {
					z := s[:at] + other + s[at+1:]
					actOrNot(t, z, othersActOk(z))
				}
			}
		}
	}
	// Other signs than blanks do not part words: these have one less than they need.
	for _, s := range []string{"put\ta > o", "put a\t> o", "put a >\to", "use a\tb > o", "use a\nb > o", "log\ta", "env\na > o", "cat a\n> o", "put a\u00a0> o"} {
		actOrNot(t, s, false)
	}
}

// TestOutsOfActs: F is one name of a path.
func TestOutsOfActs(t *testing.T) {
	for _, act := range []string{"put a", "cat a", "cat a b c", "env a", "use a b", "put a > b"} {
		for out, right := range map[string]bool{
			"o": true, "0": true, "-": true, "_": true, "...": true, ".o": true, "o.": true, "a.b-c_d": true, "out.txt": true, longName: true,
			".": false, "..": false, "O": false, "oO": false, "o/p": false, "/o": false, "o/": false, "a/b/c/d": false, "/": false, longName + "x": false,
			"o#p": false, "o*": false, "?": false, "[o]": false, "o=p": false, "o,p": false, ">": false, "o>": false, ">o": false, "~": false, "é": false, "o\n": false, "\no": false, "o\x00": false, "\xff": false,
		} {
			actOrNot(t, act+" > "+out, right)
			if isOut(out) != right {
				t.Errorf("the test tells of the name %q: %v", out, right)
			}
		}
		for c := range 256 {
			actOrNot(t, act+" > o"+oneByte(c), strings.Contains(pathSigns, oneByte(c)))
			actOrNot(t, act+" > "+oneByte(c)+"o", strings.Contains(pathSigns, oneByte(c)))
			actOrNot(t, act+" > "+oneByte(c), c != '.' && strings.Contains(pathSigns, oneByte(c)))
		}
		for n := range 2*mostOut + 3 {
			for _, sign := range []string{"o", "7", "-", "_"} {
				actOrNot(t, act+" > "+strings.Repeat(sign, n), 1 <= n && n <= mostOut)
			}
			actOrNot(t, act+" > "+strings.Repeat(".", n), 3 <= n && n <= mostOut)
		}
		actOrNot(t, act+" > "+strings.Repeat("o", 1000000), false)
	}
}

// TestWordsOfActs: nothing is asked of the words between but that they are there.
func TestWordsOfActs(t *testing.T) {
	for _, word := range []string{"a", "A", "a/b/c/d/e", "/", "..", "#", "a#b", "*", "é", "\x00", "\n", "\t", "\xff", "\u00a0", "\"", "\\", "=", ">", ">>", strings.Repeat("a", 100000)} {
		for _, s := range []string{"put W > o", "put W W > o", "cat W > o", "cat W W W > o", "env W > o", "use W a > o", "use a W > o", "use W W > o", "log W", "log W W W"} {
			s = strings.ReplaceAll(s, "W", word)
			actOrNot(t, s, !strings.HasPrefix(s, "log > >"))
		}
	}
	for c := range 256 {
		for _, s := range []string{"put ? > o", "cat ? > o", "env ? > o", "use ? a > o", "use a ? > o", "log ?", "put a? > o", "log a ?b c"} {
			actOrNot(t, strings.ReplaceAll(s, "?", oneByte(c)), c != ' ')
		}
	}
}

// TestFirstWordsOfActs: those of the six alone, in small letters.
func TestFirstWordsOfActs(t *testing.T) {
	words := []string{"", "a", "PUT", "Put", "puts", "pu", "p", "ut", "ptu", "copy", "cats", "ca", "CAT", "envs", "en", "Env", "uses", "us", "USE", "logs", "lo", "Log", "fails", "fai", "Fail", "failed", "fail\n", "\nfail", "fail\x00", "what", ">", "put>", "put,cat", "make", "o", "é", "\x00"}
	for _, word := range words {
		for _, rest := range []string{"", " a", " a b", " a > o", " a b > o", " a b c > o", " a b c d > o", " > o"} {
			actOrNot(t, word+rest, false)
		}
	}
	for _, s := range actsAlone() {
		for at := range len(s) {
			if s[at] != ' ' && at < strings.IndexByte(s+" ", ' ') {
				for _, other := range []string{"", "x", "A", ">", "\x00", strings.ToUpper(s[at : at+1])} {
					actOrNot(t, s[:at]+other+s[at+1:], false)
				}
			}
		}
		// Two acts are none.
		for _, other := range actsAlone() {
			actOrNot(t, s+other, othersActOk(s+other))
			actOrNot(t, s+"\n"+other, othersActOk(s+"\n"+other))
			actOrNot(t, s+" "+other, othersActOk(s+" "+other))
		}
	}
	actOrNot(t, "put a > o\nput b > p", true)
	actOrNot(t, "put a > o\n", false)
	actOrNot(t, "fail\nfail", false)
}

// TestAllActsOfFewWords: each way to lay up to five words, the empty one among them.
func TestAllActsOfFewWords(t *testing.T) {
	words := []string{"put", "cat", "env", "use", "log", "fail", ">", "a", "o/p", ""}
	right := 0
	var lay func(s string, n int)
	lay = func(s string, n int) {
		want := othersActOk(s)
		if want {
			right++
		}
		if impl.ActOk(s) != want {
			t.Fatalf("the act %q is %v", s, !want)
		}
		for _, word := range words {
			if n > 0 {
				lay(s+" "+word, n-1)
			}
		}
	}
	for _, word := range words {
		lay(word, 4)
	}
	if right < 8000 {
		t.Error("only", right, "were acts")
	}
	for _, first := range []string{"put", "cat", "env", "use", "log", "fail"} {
		for _, s := range textsOf("> a", 30000) {
			if s = first + s; impl.ActOk(s) != othersActOk(s) {
				t.Fatalf("the act %q is %v", s, !othersActOk(s))
			}
		}
	}
}

// anyAct makes texts that are mostly acts of what jobToDo and anyJob have, and a few that are none.
func anyAct(r *rand.Rand) string {
	word := func(words string) string {
		l := strings.Fields(words)
		return l[r.Intn(len(l))]
	}
	to := " > " + word("o o o p p q r s t u v .. o/p O")
	path := func() string { return " " + word("a/x a/x a/x a/y a/y b/z b/z c c d none") }
	switch r.Intn(12) {
	case 0:
		return word("fail fail fail log put what > a")
	case 1, 2:
		s := "log"
		for range r.Intn(5) {
			s += " " + word("a bc def ghij built tested > "+strings.Repeat("l", 1+r.Intn(60)))
		}
		return s
	case 3, 4:
		return "env " + word("mode mode mode way way none") + to
	case 5, 6:
		return "use " + word("a#build a#build a#build a#test b#build q#x") + " " + word("o o o p p none") + to
	case 7, 8, 9:
		s := "cat"
		for range r.Intn(5) {
			s += path()
		}
		return s + to
	}
	s := "put"
	for range r.Intn(5) {
		s += " " + word("a bc def ghij > "+strings.Repeat("x", 1+r.Intn(40)))
	}
	return s + to
}

func TestManyActs(t *testing.T) {
	r := rand.New(rand.NewSource(1501))
	told := map[bool]int{}
	for range 30000 {
		s := anyAct(r)
		if r.Intn(3) == 0 {
			at := r.Intn(len(s) + 1)
			s = s[:at] + []string{" ", ">", " > ", "a", "/", ".", " o", "\n"}[r.Intn(8)] + s[min(len(s), at+r.Intn(3)):]
		}
		want := othersActOk(s)
		actOrNot(t, s, want)
		if t.Failed() {
			t.FailNow()
		}
		told[want]++
	}
	if told[true] < 12000 || told[false] < 5000 {
		t.Errorf("so many were acts, and so many were not: %v", told)
	}
}

// TestActsOfPacks: what stands in a Cmd has 40 bytes at most, which is asked of the pack, not of the act.
func TestActsOfPacks(t *testing.T) {
	long := "log " + strings.Repeat("x", mostActText)
	actOrNot(t, long, true)
	packOrNot(t, withCmds(cmd("build", long)), false)
	packOrNot(t, withCmds(cmd("build", long[:mostActText])), true)
	packOrNot(t, withCmds(cmd("build", "this is no act")), true)
	if slices.ContainsFunc(actsAlone(), func(s string) bool { return !impl.PlainOk(s, mostActText) }) {
		t.Error("an act alone is not for a Cmd")
	}
}
