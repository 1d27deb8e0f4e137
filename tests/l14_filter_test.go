package tests

import (
	"math/rand"
	"slices"
	"strings"
	"testing"

	"loop.example/g00464/impl"
)

const (
	mostFilters    = 4
	mostFilterGlob = 20
)

// othersFormOk asks of what stands between blanks, one form after the other.
func othersFormOk(s string) bool {
	switch {
	case strings.HasPrefix(s, "!"):
		return othersFormOk(s[1:])
	case strings.HasPrefix(s, "..."):
		return othersFormOk(s[3:])
	case strings.HasSuffix(s, "..."):
		return othersFormOk(s[:len(s)-3])
	}
	return s == "[since]" || isGlob(s) && !strings.Contains(s, "/") && len(s) <= mostFilterGlob
}

func othersFilterOk(s string) bool {
	texts := strings.Split(s, " ")
	return len(texts) <= mostFilters && !slices.ContainsFunc(texts, func(text string) bool { return !othersFormOk(text) })
}

func filterOrNot(t *testing.T, s string, right bool) {
	t.Helper()
	if impl.FilterOk(s) != right || othersFilterOk(s) != right {
		t.Errorf("of %.100q it is told: %v", s, impl.FilterOk(s))
	}
}

// formsAlone are right, and none of them begins with a form or ends with one.
func formsAlone() []string {
	return []string{"a", "z", "b9", "a-b", "-", "0", "9-", "_", ".", "..", ".a", "a.", "a..", "..a", ".a.", "*", "**", "***", "?", "??", "a*", "*a", "?b*", "[a]", "[!a]", "[abcde]", "[!0az9]", "[a][b]", "[sinc]", "[!since]", "twelve-byte-", "[since]"}
}

func TestFilterOfEachFormAlone(t *testing.T) {
	for _, f := range formsAlone() {
		filterOrNot(t, f, true)
		filterOrNot(t, "!"+f, true)
		filterOrNot(t, "..."+f, true)
		filterOrNot(t, f+"...", true)
	}
}

func TestFilterOfFormsWithinForms(t *testing.T) {
	ahead := []string{"!", "...", "!!", "!...", "...!", "......", "!!!", "...!...", "!......!"}
	behind := []string{"", "...", "......", "........."}
	for _, f := range formsAlone() {
		for _, head := range ahead {
			for _, tail := range behind {
				filterOrNot(t, head+f+tail, true)
				filterOrNot(t, head+f+tail+" "+head+f+tail, true)
			}
		}
	}
	for _, s := range []string{"!!a", "!!!!a", "...a...", "a......", "......a", "!...[since]", "...![since]", "![since]...", "...[since]...", "!...a...", "...!a...", "!!**", "!...!...!a.........", strings.Repeat("!", 200) + "a" + strings.Repeat("...", 200)} {
		filterOrNot(t, s, true)
	}
}

// TestFilterOfNone: what begins as a form, or ends as one, is like no other, though it is a pattern.
func TestFilterOfNone(t *testing.T) {
	for _, s := range []string{"!", "...", "......", "!...", "!!", "!!!", "...!", "!...!", "!......", ".........", "!!...", "...!...", "!...!..."} {
		filterOrNot(t, s, false)
		for _, other := range []string{"a", "[since]", "!a", "...a", "a..."} {
			filterOrNot(t, s+" "+other, false)
			filterOrNot(t, other+" "+s, false)
			filterOrNot(t, other+" "+s+" "+other, false)
		}
	}
	// Of dots alone: three are cut off each time, and one or two of them left over are a pattern.
	for n := range 61 {
		filterOrNot(t, strings.Repeat(".", n), n%3 != 0)
		filterOrNot(t, "!"+strings.Repeat(".", n), n%3 != 0)
		filterOrNot(t, "a"+strings.Repeat(".", n), true)
		filterOrNot(t, strings.Repeat(".", n)+"a", true)
	}
	// The signs elsewhere.
	for _, s := range []string{"a!", "a!b", "a...!", "[!]", "a!...", ".!", "..!a", ".!a", "![since", "...[since", "[since...", "[since!]", "[since]!", "! a", "... a", "a ...", "!...A", "...A", "A...", "!A"} {
		filterOrNot(t, s, false)
	}
	for _, s := range []string{"a...b", "a....b", "a..", "a.", ".a", "..a", "a.b.c", "...a.b", "....", ".....", "a...b...", "...a...b", "[!a]...", "...[!a]", "![!a]", "a.......", ".......a"} {
		filterOrNot(t, s, true)
	}
}

// TestFilterOfSince: a pattern has its signs, too, where other signs stand beside them.
func TestFilterOfSince(t *testing.T) {
	for _, s := range []string{"[since]", "[since]a", "a[since]", "[since]*", "*[since]", "[since][since]", "[since].", ".[since]", "[!since]", "[sinc]", "[ecnis]", "?[since]?"} {
		filterOrNot(t, s, true)
		filterOrNot(t, "!"+s, true)
		filterOrNot(t, "..."+s+"...", true)
	}
	for _, s := range []string{"[since", "since]", "[Since]", "[SINCE]", "[ since]", "[since ]", "[]", "[sincea]", "[sinces]", "[since]]", "[[since]", "[since=a]", "[since...]", "[!since", "(since)"} {
		filterOrNot(t, s, false)
	}
	filterOrNot(t, "since", true)
}

func TestFilterOfEachByte(t *testing.T) {
	const signs = smallLetters + digits + ".-_?*"
	for c := range 256 {
		s := oneByte(c)
		right := strings.Contains(signs, s)
		filterOrNot(t, s, right)
		filterOrNot(t, "a"+s, right)
		filterOrNot(t, "a"+s+"b", right || s == " ")
		filterOrNot(t, s+"b", right || s == "!")
		filterOrNot(t, "!"+s, right)
		filterOrNot(t, "..."+s+"...", right)
		filterOrNot(t, "a "+s+" b", right)
	}
}

// globsOfSize are patterns of one piece of at most 12 signs, of this many bytes.
func globsOfSize(n int) []string {
	var out []string
	for sets := range n/3 + 1 {
		left := n - 3*sets
		for _, sign := range []string{"a", "*", "?", "."} {
			out = append(out, strings.Repeat("[a]", sets)+strings.Repeat(sign, left), strings.Repeat(sign, left)+strings.Repeat("[a]", sets))
		}
	}
	for _, wide := range []string{"[abcde]", "[!abcde]", "[!ab]", "[abc]"} {
		for k := 1; k*len(wide) <= n; k++ {
			out = append(out, strings.Repeat(wide, k)+strings.Repeat("x", n-k*len(wide)))
		}
	}
	return slices.DeleteFunc(out, func(s string) bool {
		return !isGlob(s) || strings.HasPrefix(s, "...") || strings.HasSuffix(s, "...")
	})
}

func TestFilterOfPatternsOfSoManyBytes(t *testing.T) {
	for n := 1; n <= 40; n++ {
		globs := globsOfSize(n)
		if len(globs) == 0 {
			t.Errorf("there is no pattern of %d bytes", n)
		}
		for _, glob := range globs {
			if len(glob) != n || !impl.GlobOk(glob) {
				t.Fatalf("%q is no pattern of %d bytes", glob, n)
			}
			for _, head := range []string{"", "!", "...", "!...", "!!!!!!!!!!!!!!!!!!!!!"} {
				for _, tail := range []string{"", "...", "..............."} {
					filterOrNot(t, head+glob+tail, n <= mostFilterGlob)
					filterOrNot(t, "a "+head+glob+tail+" !b", n <= mostFilterGlob)
				}
			}
		}
	}
	// 20 and 21 bytes, and 12 and 13 signs of fewer bytes.
	filterOrNot(t, "[abc][abc][abc][abc]", true)
	filterOrNot(t, "[abc][abc][abc][abc]d", false)
	filterOrNot(t, "[abcde][abcde][abcd]", true)
	filterOrNot(t, "[abcde][abcde][abcde]", false)
	filterOrNot(t, "abcdefghijkl", true)
	filterOrNot(t, "abcdefghijklm", false)
	filterOrNot(t, "[a][b][c][d]efghijkl", true)
	filterOrNot(t, "[a][b][c][d]efghijklm", false)
	filterOrNot(t, "[a][b][c]defghijklm", false)
	// Four of 20 bytes each are fine: it is each of them that has at most so many.
	filterOrNot(t, "[abc][abc][abc][abc] [abc][abc][abc][abc] [abc][abc][abc][abc] [abc][abc][abc][abc]", true)
}

func TestFilterOfPatternsOfPieces(t *testing.T) {
	for _, s := range []string{"a/b", "**/a", "a/**", "**/**", "a/b/c", "/", "/a", "a/", "a//b", "*/*", "a/b/c/d/e", "[a/b]"} {
		for _, told := range []string{s, "!" + s, "..." + s, s + "...", "a " + s, s + " a"} {
			filterOrNot(t, told, false)
		}
	}
	filterOrNot(t, ".../a", false)
	filterOrNot(t, "a/...", false)
	filterOrNot(t, "[since]/a", false)
}

func TestFilterOfNoPattern(t *testing.T) {
	for _, s := range []string{"A", "é", "a b\n", "\t", "a\x00", "a\xff", "[", "]", "[]", "[!]", "[a", "a]", "[A]", "[a-b]", "[abcdef]", "[!abcdef]", "[[a]]", "[a!b]", "a@b", "a#b", "a:b", "a,b", "{a}", "^a", "a\\b", "~", "a+", "a$"} {
		for _, told := range []string{s, "!" + s, "..." + s, s + "...", "a " + s, s + " a"} {
			filterOrNot(t, told, false)
		}
	}
}

func TestFilterOfSoMany(t *testing.T) {
	forms := []string{"a", "!a", "...a", "a...", "[since]", "!...[since]", "*", "...!*..."}
	for n := 1; n <= 8; n++ {
		for from := range forms {
			var l []string
			for i := range n {
				l = append(l, forms[(from+i)%len(forms)])
			}
			filterOrNot(t, strings.Join(l, " "), n <= mostFilters)
			filterOrNot(t, strings.Join(slices.Repeat(l[:1], n), " "), n <= mostFilters)
		}
	}
	for n, s := range []string{"a", "a b", "a b c", "a b c d", "a b c d e", "a b c d e f"} {
		filterOrNot(t, s, n < mostFilters)
		// One that is none spoils all, wherever it stands.
		for i := range n + 1 {
			l := strings.Fields(s)
			l[i] = "A"
			filterOrNot(t, strings.Join(l, " "), false)
		}
	}
}

func TestFilterOfBlanks(t *testing.T) {
	for _, s := range []string{"", " ", "  ", "   ", "    ", "a  b", "a   b", " a", "a ", " a b", "a b ", "  a", "a  ", "a b  c", "a b c  d", "a b c d ", " a b c d", "a\tb", "a\nb", "\na", "a\n", "a \n b", "a\u00a0b", " !a", "!a ", "! a", "[since] ", " [since]"} {
		filterOrNot(t, s, false)
	}
}

// TestFilterOfFewSigns holds all short texts of few signs against another reader.
func TestFilterOfFewSigns(t *testing.T) {
	right, wrong := 0, 0
	for _, head := range []string{"", "!", "...", "a ", "[since]", "a b c ", "twelve-byte"} {
		for _, signs := range []string{"!.a ", "..a", ".! ", "*?a.", "[!a].", "a/ .", "A.a!"} {
			for _, tail := range textsOf(signs, 4000) {
				filterOrNot(t, head+tail, othersFilterOk(head+tail))
				if othersFilterOk(head + tail) {
					right++
				} else {
					wrong++
				}
			}
			if t.Failed() {
				t.FailNow()
			}
		}
	}
	if right < 20000 || wrong < 20000 {
		t.Errorf("%d were right, %d were wrong", right, wrong)
	}
}

// anyFilterGlob takes many of the names a .. f, or few.
func anyFilterGlob(r *rand.Rand) string {
	globs := []string{"*", "**", "?", "[abc]", "[!bd]", "[def]", "a", "b", "c", "d", "e", "f", "q", "a*", "*b", "[since]", "[since]*", "[!since]", "??", "."}
	return globs[r.Intn(len(globs))]
}

func anyForm(r *rand.Rand) string {
	s := anyFilterGlob(r)
	for r.Intn(3) > 0 {
		switch r.Intn(3) {
		case 0:
			s = "!" + s
		case 1:
			s = "..." + s
		default:
			s += "..."
		}
	}
	return s
}

func anyFilter(r *rand.Rand) string {
	l := []string{anyForm(r)}
	for len(l) < mostFilters && r.Intn(3) > 0 {
		l = append(l, anyForm(r))
	}
	return strings.Join(l, " ")
}

// TestManyFilters: right ones, and such as have one byte more, less, or turned.
func TestManyFilters(t *testing.T) {
	r := rand.New(rand.NewSource(1401))
	right, wrong := 0, 0
	for range 50000 {
		s := anyFilter(r)
		filterOrNot(t, s, true)
		at := r.Intn(len(s))
		c := oneByte(r.Intn(256))
		if r.Intn(2) == 0 {
			c = oneByte(int(" !.[]*?a/A"[r.Intn(10)]))
		}
		for _, turned := range []string{s[:at] + c + s[at+1:], s[:at] + c + s[at:], s[:at] + s[at+1:]} {
			filterOrNot(t, turned, othersFilterOk(turned))
			if othersFilterOk(turned) {
				right++
			} else {
				wrong++
			}
		}
		if t.Failed() {
			t.FailNow()
		}
	}
	if right < 20000 || wrong < 20000 {
		t.Errorf("of those turned %d are right, %d are not", right, wrong)
	}
}
