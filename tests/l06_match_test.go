package tests

import (
	"math/rand"
	"regexp"
	"strings"
	"testing"
	"time"

	"loop.example/g00464/impl"
)

// takesJust wants a pattern to take these paths (with blanks between), and not those.
func takesJust(t *testing.T, glob, these, those string) {
	t.Helper()
	if !impl.GlobOk(glob) {
		t.Errorf("%q is no pattern", glob)
	}
	for _, path := range strings.Fields(these) {
		if !impl.Matches(glob, path) {
			t.Errorf("%q does not take %q", glob, path)
		}
	}
	for _, path := range strings.Fields(those) {
		if impl.Matches(glob, path) {
			t.Errorf("%q takes %q", glob, path)
		}
	}
}

// othersMatch makes another pattern of glob, for paths with a `/` ahead of each name.
func othersMatch(glob string) func(path string) bool {
	if !isGlob(glob) {
		return func(string) bool { return false }
	}
	var out strings.Builder
	for _, piece := range strings.Split(glob, "/") {
		if piece == "**" {
			out.WriteString(`(?:/[^/]+)*`)
			continue
		}
		out.WriteString("/" + strings.NewReplacer("*", `[^/]*`, "?", `[^/]`, ".", `\.`, "[!", `[^/`).Replace(piece))
	}
	shape := regexp.MustCompile(`\A` + out.String() + `\z`)
	return func(path string) bool { return isPath(path) && shape.MatchString("/"+path) }
}

// nearPaths are paths, and texts that are nearly so.
func nearPaths() []string {
	return append(inByteOrder(), "", "/", "/a", "a/", "a//b", ".", "..", "a/.", "../a", "A", "a/B", "a/b/c/d/e", "thirteen-byte", "a/thirteen-byte", "a b", "a*", "*", "**", "[a]", "?", "a/**", "\x7f", "a\x80", "é", "a\n", "a\x00")
}

func TestTwoStarsTakeAll(t *testing.T) {
	r := rand.New(rand.NewSource(6))
	for range 20000 {
		path := anyPath(r)
		takesJust(t, "**", path, "")
		at := r.Intn(len(path))
		if turned := path[:at] + oneByte(r.Intn(256)) + path[at+1:]; impl.Matches("**", turned) != isPath(turned) {
			t.Fatalf("two stars take %q: %v", turned, !isPath(turned))
		}
	}
	for n := 1; n <= mostPieces; n++ {
		glob := strings.Repeat("/**", n)[1:]
		for _, path := range nearPaths() {
			if impl.Matches(glob, path) != isPath(path) {
				t.Errorf("%q takes %q: %v", glob, path, !isPath(path))
			}
		}
	}
	for n := 1; n <= mostPathNames+2; n++ {
		for _, name := range []string{"a", "...", "-", "_", "0", longName} {
			path := strings.Repeat("/"+name, n)[1:]
			if impl.Matches("**", path) != (n <= mostPathNames) {
				t.Errorf("two stars take %q: %v", path, n > mostPathNames)
			}
		}
	}
	for n := range 2 * mostPathName {
		if path := strings.Repeat("a", n); impl.Matches("**", path) != (1 <= n && n <= mostPathName) {
			t.Errorf("two stars take %d bytes: %v", n, n < 1 || n > mostPathName)
		}
	}
}

// TestTwoStarsInThePlaceOfNames takes any names out of a path, or none, and sets two stars there.
func TestTwoStarsInThePlaceOfNames(t *testing.T) {
	for _, path := range append(inByteOrder(), "a/a", "a/a/a", "a/a/a/a", "a/b/a/b", strings.Repeat("/"+longName, mostPathNames)[1:]) {
		names := strings.Split(path, "/")
		for from := range len(names) + 1 {
			for to := from; to <= len(names); to++ {
				pieces := append(append(append([]string{}, names[:from]...), "**"), names[to:]...)
				glob := strings.Join(pieces, "/")
				if impl.Matches(glob, path) != (len(pieces) <= mostPieces) {
					t.Errorf("%q takes %q: %v", glob, path, len(pieces) > mostPieces)
				}
			}
		}
	}
}

func TestWhereTwoStarsStand(t *testing.T) {
	for _, z := range []struct{ glob, these, those string }{
		{"**", "a b.c a/b a/b/c a/b/c/d", "a/b/c/d/e / a/ /a A . .. a//b"},
		{"**/x", "x a/x x/x a/b/x x/x/x a/b/c/x x/y/x", "a x/a ax xa a/xa a/ax x/a/b x/x/a a/b/c/x/x"},
		{"x/**", "x x/a x/x x/a/b x/x/x x/a/b/c x/y/x", "a a/x ax xa xa/a ax/x a/x/b a/x/x x/a/b/c/d"},
		{"x/**/y", "x/y x/a/y x/a/b/y x/x/y x/y/y x/y/x/y x/x/y/y", "x y xy x/a y/x x/y/a a/x/y x/ya xa/y y/y/x x/a/b/c/y x/a/y/b"},
		{"x/**/x", "x/x x/a/x x/x/x x/a/b/x x/x/x/x", "x x/a a/x xx x/x/a a/x/x"},
		{"**/x/**", "x x/a a/x a/x/b a/b/x x/a/b x/x x/x/x a/b/x/c a/x/b/c x/a/b/c a/b/c/x", "a a/b ax/b a/xb a/b/c a/b/c/d ax xa"},
		{"**/x/**/y", "x/y a/x/y x/a/y a/x/b/y a/b/x/y x/a/b/y x/y/x/y y/x/y", "x y y/x x/y/a a/x/y/b a/y x/a x/b/c"},
		{"x/**/y/**", "x/y x/y/a x/a/y x/a/y/b x/a/b/y x/y/a/b x/y/y", "x y y/x a/x/y x/a x/a/b xy"},
		{"x/**/**/y", "x/y x/a/y x/a/b/y", "x y x/a y/x a/x/y x/y/a"},
		{"x/**/**", "x x/a x/a/b x/a/b/c", "a a/x xa a/x/b"},
		{"**/**/x", "x a/x a/b/x a/b/c/x", "a x/a a/x/b ax"},
		{"**/**", "a a/b a/b/c a/b/c/d", "a/b/c/d/e A"},
		{"**/**/**/x", "x a/x a/b/x a/b/c/x", "a x/a"},
		{"**/**/**/**", "a a/b a/b/c a/b/c/d", "a/b/c/d/e A"},
		{"**/x/**/x", "x/x a/x/x x/a/x x/x/x a/x/b/x x/a/b/x", "x a/x x/a a/b/x x/x/a a/x/x/b"},
		{"**/*", "a a/b a/b/c a/b/c/d", "A a/b/c/d/e"},
		{"*/**", "a a/b a/b/c a/b/c/d", "A a/b/c/d/e"},
		{"**/*/*", "a/b a/b/c a/b/c/d", "a ab"},
		{"*/**/*", "a/b a/b/c a/b/c/d", "a ab"},
		{"*/*/**", "a/b a/b/c a/b/c/d", "a ab"},
		{"**/*/*/*", "a/b/c a/b/c/d", "a a/b"},
		{"**/*/**/*", "a/b a/b/c a/b/c/d", "a"},
		{"**/a?/b*", "aa/b aa/bb c/ax/b c/d/a0/bcd aa/aa/b a/ab/b", "a/b aa/c aa/b/c aaa/b aa b"},
		{"**/x/a", "x/a x/x/a x/a/x/a b/x/a x/b/x/a", "a x x/a/b x/b/a x/x/b"},
	} {
		takesJust(t, z.glob, z.these, z.those)
	}
}

// TestStarsBesideOtherSigns: where more than two stars make a piece it takes one name, as `*` does.
func TestStarsBesideOtherSigns(t *testing.T) {
	for _, z := range []struct{ glob, these, those string }{
		{"***", "a abc .md " + longName, "a/b a/b/c"},
		{"****", "a abc .md " + longName, "a/b a/b/c"},
		{"************", "a abc .md " + longName, "a/b a/b/c"},
		{"**a", "a aa ba cba a.a", "ab b/a a/a a/b/a a/b"},
		{"a**", "a aa ab abc a.a", "ba a/b a/a a/b/a"},
		{"a**b", "ab aab abb axyb a.b", "a b ba a/b a/x/b abc"},
		{"**?", "a ab abc", "a/b a/b/c"},
		{"?**", "a ab abc", "a/b a/b/c"},
		{"**[a]", "a ba cba", "ab b/a"},
		{"[!a]**", "b ba", "ab a b/a"},
		{"***/a", "b/a a/a xyz/a", "a a/b/a b/a/c"},
		{"a/***", "a/b a/a a/xyz", "a a/b/c"},
		{"**a/b", "a/b xa/b", "b x/a/b ax/b a b/a"},
		{"b/a**", "b/a b/ax", "b b/xa b/a/x"},
		{"**.md", ".md t.md", "a/t.md t.mdx"},
	} {
		takesJust(t, z.glob, z.these, z.those)
	}
}

func TestPathsTakeThemselvesAlone(t *testing.T) {
	paths := append(nearPaths(), "ab", "ba", "a.", "a-b", "a.c", "a/b/c/e", "b/b/c/d", "a/bc/d")
	for _, glob := range paths {
		if strings.ContainsAny(glob, "*?[") {
			continue
		}
		for _, path := range paths {
			if want := glob == path && isPath(path); impl.Matches(glob, path) != want {
				t.Errorf("%q takes %q: %v", glob, path, !want)
			}
		}
	}
	for c := range 256 {
		for d := range 256 {
			if strings.Contains("*?", oneByte(c)) {
				continue
			}
			want := c == d && strings.Contains(pathSigns+"/", oneByte(c))
			if impl.Matches("a"+oneByte(c)+"b", "a"+oneByte(d)+"b") != want {
				t.Errorf("the byte %d takes %d: %v", c, d, !want)
			}
		}
	}
}

func TestStarsInNames(t *testing.T) {
	for _, z := range []struct{ glob, these, those string }{
		{"*", "a ab ... .a - _ 0 " + longName, "a/b a/b/c . .."},
		{"*a", "a aa ba bca -a .a", "b ab ac aab a/a b/a"},
		{"a*", "a aa ab abc a- a.", "b ba bab a/a a/b"},
		{"a*b", "ab aab abb axb axyzb a.b abab", "a b ba aba axbx a/b xab a/xb"},
		{"*a*", "a aa ba ab bab xxaxx", "b bc xx a/a x/a"},
		{"a*b*", "ab axb abx axbx aabb abab", "a b ba axx bab a/b"},
		{"*a*b", "ab xab axb xaxb abab aabb ba.ab", "a b ba abx aba a/b"},
		{"a*b*c", "abc axbxc abbc abcc abcbc aabbcc axxbyyc", "ac abcx ab bc acb acbx a/b/c"},
		{"a*a", "aa aaa aba abca", "a ab ba aab a/a"},
		{"a*a*a", "aaa aaaa abaca aaaaa", "a aa aba aab aaab"},
		{"*ab", "ab aab abab aabab", "a b aba abb"},
		{"*aab", "aab aaab aaaab baab abaab", "ab aab0 aabb abab"},
		{"*.*", ".a a. a.b a.b.c ...", "a ab a/b . .."},
		{"*.md", ".md t.md t.u.md .md.md", "md t.mdx t.m tmd a/t.md"},
		{"*/x", "a/x abc/x x/x", "x a/b/x a/xx"},
		{"x/*", "x/a x/abc x/x", "x x/a/b xx/a"},
		{"*/*", "a/b x/x aa/bb", "a a/b/c ab"},
		{"*/*/*/*", "a/b/c/d", "a a/b a/b/c"},
		{"a*/*b", "a/b ax/xb aa/bb", "ab axb xa/b a/bx a/x/b a"},
		{"x*/y", "x/y xx/y xy/y", "xy x/xy xxy xx/yy"},
		{"*a*a*a*a*a*a", "aaaaaa aaaaaaaaaaaa babababababa", "aaaaa aaaaaaaaaaab"},
	} {
		takesJust(t, z.glob, z.these, z.those)
	}
}

func TestOneByteBySign(t *testing.T) {
	for _, z := range []struct{ glob, these, those string }{
		{"?", "a z 0 9 - _", ". ab a/b"},
		{"??", "ab aa .a a. --", "a abc a/b a/b/c .."},
		{"a?", "aa ab a. a-", "a abc ba a/b"},
		{"?a", "aa ba .a -a", "a ab baa b/a"},
		{"a?b", "aab abb a.b a_b", "ab axxb a/b ab/b a/bb"},
		{"????????????", longName + " twelve-bytes", "elevenbytes a"},
		{"?/?", "a/b a/a", "a a/bb aa/b a/b/c aab"},
		{"?*", "a ab abc", "a/b"},
		{"*?", "a ab abc", "a/b"},
		{"*?*", "a ab abc", "a/b"},
		{"?*?", "aa ab abc", "a a/b"},
		{"*?a?*", "bab xbabx aaa", "a ab ba aa xxa axx"},
		{"**/?", "a a/b a/b/c/d bb/c", "aa a/bb b/cc/dd"},
		{"?/**", "a a/b a/bb b/cc/dd", "aa aa/b"},
	} {
		takesJust(t, z.glob, z.these, z.those)
	}
}

func TestSetsTakeOneByte(t *testing.T) {
	for _, z := range []struct{ glob, these, those string }{
		{"[a]", "a", "b 0 - _ aa ab ba a/a"},
		{"[!a]", "b z 0 9 - _", "a bb bc b/b"},
		{"[abcde]", "a b c d e", "f 0 - ab ba"},
		{"[!abcde]", "f z 0 - _", "a b c d e ff fg"},
		{"[09]", "0 9", "1 5 8 a - 09"},
		{"[!09]", "1 5 8 a -", "0 9 12"},
		{"[aa]", "a", "aa b"},
		{"[az]", "a z", "b m y"},
		{"x[ab]", "xa xb", "x xc xab xx a x/a"},
		{"x[!ab]", "xc x. x- xx x0", "x xa xb xcc c x/c"},
		{"[ab]x", "ax bx", "x cx abx a/x"},
		{"[!ab]x", "cx .x -x xx", "x ax bx c/x ccx"},
		{"x[ab]y", "xay xby", "xy xcy xaby x/y xa/y x/ay"},
		{"x[!ab]y", "xcy x.y xxy xyy", "xy xay xby x/y xccy"},
		{"[ab][cd]", "ac ad bc bd", "a ca cc ab acd"},
		{"[ab][!cd]", "aa ab b. a0", "ac bd ca a cc"},
		{"[!ab][!cd]", "cb dz .a", "ab cd ad bc c"},
		{"*[ab]", "a b xa xxb aa ba", "c ax bxc x"},
		{"[ab]*", "a b ax bxx ab", "c xa cab"},
		{"*[ab]*", "a b xax xxb bx aba", "c xx cd"},
		{"*[!ab]", "c ac abc cc ax", "a b ca cb"},
		{"[!ab]*", "c ca cab", "a ac b"},
		{"?[ab]", "aa xb .a", "a ax xab b"},
		{"[ab]/[!ab]", "a/c b/x", "a/a c/a a ac a/cc a/c/x"},
		{"**/[ab]", "a b x/a x/y/b", "c a/c ab x/ab"},
		{"[!ab]/**", "c c/a x/a/b", "a a/c b/c/d ca"},
		{strings.Repeat("[ab]", mostSigns), "abababababab aaaaaaaaaaaa", "ababababab abababababac aaaaaaaaaaa"},
		{strings.Repeat("[!abcde]", mostSigns), "zzzzzzzzzzzz 0.-_f0.-_f0f", "zzzzzzzzzzz zzzzzzzzzzza"},
	} {
		takesJust(t, z.glob, z.these, z.those)
	}
}

func TestSetsOfEachByte(t *testing.T) {
	for at := range len(setBytes) {
		c := setBytes[at : at+1]
		more := setBytes[at:min(at+mostSetBytes, len(setBytes))]
		for d := range 256 {
			x, known := oneByte(d), strings.Contains(pathSigns, oneByte(d))
			for glob, want := range map[string]bool{
				"-[" + c + "]": x == c, "-[!" + c + "]": known && x != c,
				"-[" + more + "]": strings.Contains(more, x), "-[!" + more + "]": known && !strings.Contains(more, x),
			} {
				if impl.Matches(glob, "-"+x) != want {
					t.Errorf("%q takes a byte %d: %v", glob, d, !want)
				}
			}
		}
	}
}

// TestDotsAreNoNames: a pattern may be written like `.` and `..`, but no path is so.
func TestDotsAreNoNames(t *testing.T) {
	for _, glob := range []string{".", "..", "?", "??", "*", "**", "***", ".*", "*.", "..*", "[!a]", "[!a][!b]", ".?"} {
		takesJust(t, glob, "", ". ..")
		takesJust(t, "a/"+glob, "", "a/. a/..")
		takesJust(t, glob+"/a", "", "./a ../a")
	}
	takesJust(t, "...", "...", "a .... ..a")
	takesJust(t, "..*", "... ..a", "a .a a..")
	takesJust(t, ".*", ".a .md ...", "a a.b")
}

func TestWrongPathsAreNotTaken(t *testing.T) {
	for _, path := range nearPaths() {
		if isPath(path) {
			continue
		}
		for _, glob := range []string{"**", "*", "***", "?", "??", "*/*", "**/*", "*/**", "**/**", "[!a]", "[!z]*", "a*", "*b", "a/*", "a/**", "**/a", "a?", "a/b/c/**", "?/?/?/?", path} {
			if impl.Matches(glob, path) {
				t.Errorf("%q takes %q, which is no path", glob, path)
			}
		}
	}
}

func TestGreatPathsAreNotTaken(t *testing.T) {
	for _, s := range []string{"a", "/", "a/", ".", "é"} {
		for _, glob := range []string{"**", "*", "a*", "**/a", "a/**", "************", "**/**/**/**"} {
			if impl.Matches(glob, strings.Repeat(s, 300000)) {
				t.Errorf("%q takes %d times %q", glob, 300000, s)
			}
		}
	}
}

// TestManyStarsAreAnsweredAtOnce asks for patterns of which each has a million ways, were all of them tried.
func TestManyStarsAreAnsweredAtOnce(t *testing.T) {
	long := strings.Repeat("a", mostPathName)
	deep := strings.Repeat(long+"/", mostPathNames-1) + long
	stars := strings.Repeat("*", mostSigns-1)
	done := make(chan bool)
	go func() {
		defer close(done)
		for range 2000 {
			takesJust(t, stars+"b", "b "+long[1:]+"b", long+" b"+long[1:])
			takesJust(t, "b"+stars, "b b"+long[1:], long)
			takesJust(t, "*"+stars, long, deep)
			takesJust(t, strings.Repeat("*a", mostSigns/2), long, long[1:]+"b aaaaa")
			takesJust(t, strings.Repeat("*?", mostSigns/2), long, "aaaaa")
			takesJust(t, strings.Repeat("*[ab]", mostSigns/2), long, long[1:]+"c aaaaa")
			takesJust(t, "**/"+stars+"b", deep[:len(deep)-1]+"b", deep)
			takesJust(t, "**/**/**/"+stars+"b", deep[:len(deep)-1]+"b", deep)
		}
	}()
	select {
	case <-done:
	case <-time.After(60 * time.Second):
		t.Fatal("many stars are gone through way by way")
	}
}

// TestMatchesOfFewSigns holds all patterns of few signs against all paths of few signs, as another reader takes them.
func TestMatchesOfFewSigns(t *testing.T) {
	taken, not := 0, 0
	for _, z := range []struct{ globSigns, pathSigns string }{{"ab*", "ab"}, {"a*/", "ab/"}, {"a?/*", "ab/"}, {"*/", "a./"}, {"a[]!*", "ab"}, {".*?", ".a"}} {
		paths := textsOf(z.pathSigns, 250)
		for _, glob := range textsOf(z.globSigns, 1400) {
			others := othersMatch(glob)
			for _, path := range paths {
				want := others(path)
				if impl.Matches(glob, path) != want {
					t.Fatalf("%q takes %q: %v", glob, path, !want)
				}
				if want {
					taken++
				} else {
					not++
				}
			}
		}
	}
	if taken < 10000 || not < 10000 {
		t.Error("only", taken, "were taken, and", not, "were not")
	}
}

// textsOf has the first of all texts of these signs, the shorter ones first.
func textsOf(signs string, most int) []string {
	texts := []string{""}
	for from := 0; len(texts) < most; from++ {
		for i := range len(signs) {
			texts = append(texts, texts[from]+signs[i:i+1])
		}
	}
	return texts
}

// likely makes a path that a pattern may well take: few bytes are turned, few names are more or less.
func likely(r *rand.Rand, glob string) string {
	var names []string
	for _, piece := range strings.Split(glob, "/") {
		if piece == "**" {
			names = append(names, strings.Fields("a b c")[:r.Intn(4)]...)
			continue
		}
		names = append(names, likelyName(r, piece))
	}
	return strings.Join(names, "/")
}

func likelyName(r *rand.Rand, piece string) string {
	var out strings.Builder
	for at := 0; at < len(piece); at++ {
		switch c := piece[at]; {
		case c == '*':
			out.WriteString("ab"[:r.Intn(3)])
		case c == '?' || r.Intn(30) == 0:
			out.WriteByte(pathSigns[r.Intn(len(pathSigns))])
		case c == '[':
			set := piece[at : at+strings.IndexByte(piece[at:], ']')]
			at += len(set)
			if set[1] == '!' && r.Intn(4) > 0 {
				out.WriteByte(".-_"[r.Intn(3)])
			} else {
				out.WriteByte(set[len(set)-1])
			}
		case c != ']':
			out.WriteByte(c)
		}
	}
	return out.String()
}

func TestManyMatches(t *testing.T) {
	r := rand.New(rand.NewSource(6))
	taken, not := 0, 0
	for range 20000 {
		glob := anyGlob(r)
		others := othersMatch(glob)
		for range 5 {
			path := likely(r, glob)
			want := others(path)
			if impl.Matches(glob, path) != want {
				t.Fatalf("%q takes %q: %v", glob, path, !want)
			}
			if want {
				taken++
			} else if isPath(path) {
				not++
			}
		}
	}
	if taken < 5000 || not < 1000 {
		t.Error("only", taken, "were taken, and", not, "were not")
	}
}
