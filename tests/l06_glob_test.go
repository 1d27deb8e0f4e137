package tests

import (
	"math/rand"
	"regexp"
	"strings"
	"testing"

	"loop.example/g00464/impl"
)

const (
	mostPieces   = 4
	mostSigns    = 12
	mostSetBytes = 5
	setBytes     = smallLetters + digits
	globSigns    = pathSigns + "?*"
	longSet      = "[!az059]"
)

func globOrNot(t *testing.T, s string, want bool) {
	t.Helper()
	if impl.GlobOk(s) != want {
		t.Errorf("the pattern %q is %v", s, !want)
	}
	// What is no pattern takes nothing, be it written like a path or like all.
	if want {
		return
	}
	for _, path := range append(inByteOrder(), s) {
		if impl.Matches(s, path) {
			t.Errorf("%q is no pattern, but takes %q", s, path)
		}
	}
	if l := impl.Picked(filesOf("a=1 b=2 ab/x=3"), []string{s}); len(l) != 0 {
		t.Errorf("%q is no pattern, but picks %q", s, l)
	}
}

// globInEachPlace asks for a piece alone, and ahead of, behind and between others.
func globInEachPlace(t *testing.T, piece string, want bool) {
	t.Helper()
	for _, s := range []string{piece, piece + "/a", "a/" + piece, "a/" + piece + "/b", "a/b/c/" + piece, piece + "/a/b/c", piece + "/" + piece, "**/" + piece, piece + "/**", "*/" + piece + "/?"} {
		globOrNot(t, s, want)
	}
}

// kindsOfSigns has at least one sign of each kind, a set as one.
func kindsOfSigns() []string {
	return []string{"a", "z", "0", "9", ".", "-", "_", "?", "*", "[a]", "[!a]", "[z09]", "[abcde]", longSet}
}

func TestHowManyPieces(t *testing.T) {
	for n := 1; n <= mostPieces+3; n++ {
		for _, piece := range append(kindsOfSigns(), "**", "***", "a*b", ".", "..", longName, strings.Repeat(longSet, mostSigns)) {
			s := strings.Repeat(piece+"/", n)
			globOrNot(t, s[:len(s)-1], n <= mostPieces)
			globOrNot(t, s, false)
			globOrNot(t, "/"+s[:len(s)-1], false)
			globOrNot(t, s+"/"+piece, false)
		}
	}
	globOrNot(t, "", false)
}

// TestHowManySigns counts signs, not bytes: a set is one, whether it has 3 bytes or 8.
func TestHowManySigns(t *testing.T) {
	for n := range 2*mostSigns + 3 {
		ok := 1 <= n && n <= mostSigns
		for _, sign := range kindsOfSigns() {
			globInEachPlace(t, strings.Repeat(sign, n), ok)
		}
		for at, first := range kindsOfSigns() {
			last := kindsOfSigns()[(at+1)%len(kindsOfSigns())]
			globInEachPlace(t, first+strings.Repeat("a", n)+last, n+2 <= mostSigns)
			globInEachPlace(t, first+strings.Repeat(longSet, n)+last, n+2 <= mostSigns)
		}
	}
	globOrNot(t, strings.Join([]string{longName, longName, longName, longName}, "/"), true)
	globOrNot(t, strings.Join([]string{longName, longName, longName, longName + "*"}, "/"), false)
}

func TestHowManyBytesOfASet(t *testing.T) {
	for n := range 2*mostSetBytes + 3 {
		ok := 1 <= n && n <= mostSetBytes
		for _, from := range []string{"abcdefghijklm", "0123456789012", "z9y8x7w6v5u4t", "aaaaaaaaaaaaa"} {
			for _, open := range []string{"[", "[!"} {
				set := open + from[:n] + "]"
				globInEachPlace(t, set, ok)
				globInEachPlace(t, "a"+set, ok)
				globInEachPlace(t, set+"b", ok)
				globInEachPlace(t, "*"+set+"?", ok)
				globInEachPlace(t, "[a]"+set+"[!b]", ok)
				globInEachPlace(t, strings.Repeat(set, mostSigns), ok)
			}
		}
	}
}

func TestSetsThatAreNone(t *testing.T) {
	for _, s := range []string{
		"[", "]", "[]", "[!]", "[!", "!", "[[", "]]", "][", "[[]]", "[]]", "[[]", "[!]]", "[]a]", "[!]a]",
		"[a", "[!a", "a[", "a]", "a[b", "ab]", "[a]]", "[[a]", "[[a]]", "[a][", "[a]]b", "[abcde", "[!abcde", "[a/b]", "[a/]", "[/a]", "[!/]",
		"!a", "a!", "a!b", "[a!]", "[a!b]", "[!!]", "[!!a]", "[!a!]", "![a]", "[a]!", "[^a]", "^",
		"[*]", "[?]", "[.]", "[-]", "[_]", "[a*]", "[*a]", "[a?]", "[a-c]", "[a.c]", "[a_]", "[-a]", "[!*]", "[!a-c]", "[!.]", "[**]", "[A]", "[aB]", "[!A]", "[ ]", "[a b]", "[\x80]", "[é]",
		"{a}", "{a,b}", "(a)", "a|b", "\\*", "[\\]]",
	} {
		globInEachPlace(t, s, false)
	}
}

func TestPatternOfEachByte(t *testing.T) {
	for c := range 256 {
		s := oneByte(c)
		known := strings.Contains(globSigns, s)
		globInEachPlace(t, s, known)
		for _, x := range []string{"a" + s, s + "a", "*" + s, s + "*", "[a]" + s, s + "[!a]", "?" + s + "?"} {
			globOrNot(t, x, known || s == "/" && !strings.HasPrefix(x, s) && !strings.HasSuffix(x, s))
		}
		inSet := strings.Contains(setBytes, s)
		globInEachPlace(t, "["+s+"]", inSet)
		globInEachPlace(t, "[a"+s+"]", inSet)
		globInEachPlace(t, "["+s+"a]", inSet || s == "!")
		globInEachPlace(t, "[!"+s+"]", inSet)
		globInEachPlace(t, "[!a"+s+"b]", inSet)
	}
}

func TestWrongPatterns(t *testing.T) {
	for _, s := range []string{
		"", "/", "//", "///", "/a", "a/", "/*", "*/", "/**", "**/", "/**/", "a//b", "**//a", "a//**", "*//*", "a/b/c/d/", "a/b/c/d/e", "**/**/**/**/**", "a/b/c/d/**", "**/a/b/c/d",
		"A", "aB", "A*", "*Z", "**/A", "README.*", " ", "a b", " *", "* ", "** ", " **", "a, b", "a\\b", "a:b", "~", "+", "@", "#", "$", "a=b",
		"\x00", "*\x00", "\x7f", "*\x80", "\xff", "é", "*é", "a\n", "\t*", "\r",
		"*************", "?????????????", "thirteen-byte", "a/thirteen-byte", "************/*************",
	} {
		globOrNot(t, s, false)
	}
}

func TestRightPatterns(t *testing.T) {
	for _, s := range []string{
		"a", "0", ".", "..", "...", "-", "_", "?", "*", "**", "***", "****", "************", "**a", "a**", "a**b", "**?", "?**", "[a]**", "**[!a]", "*.md", ".*", "..*",
		"a/*", "*/a", "**/a", "a/**", "a/**/b", "**/**", "**/a/**", "*/**/*/**", "./a", "../*", "twelve-bytes", "twelve-bytes/************",
		"[a]", "[!a]", "[a][!b]", "[aa]", "[zz999]", "[!00000]", "x[a]y[!b]z", "[a]/[!b]/[c]/[!d]",
	} {
		globOrNot(t, s, true)
	}
}

func TestGreatPatterns(t *testing.T) {
	for _, s := range []string{"a", "*", "?", "**/", "/", "[", "]", "[a", "[a]", "[!", "[!a]", "[ab/", "é", "!"} {
		great := strings.Repeat(s, 300000)
		for _, glob := range []string{great, "[" + great + "]", "**/" + great} {
			if impl.GlobOk(glob) || impl.Matches(glob, "a") || impl.Matches("**", glob) || impl.Matches(glob, glob) {
				t.Errorf("%d times %q is a pattern, or takes or is taken", 300000, s)
			}
		}
	}
}

var globShape = regexp.MustCompile(`\A(?:(?:[a-z0-9._?*-]|\[!?[a-z0-9]{1,5}\]){1,12}(?:/|\z)){1,4}\z`)

// isGlob tells by another pattern whether a text is one.
func isGlob(s string) bool { return globShape.MatchString(s) && !strings.HasSuffix(s, "/") }

// TestPatternsOfFewSigns holds all texts of few signs, behind a beginning, against another reader.
func TestPatternsOfFewSigns(t *testing.T) {
	right, wrong := 0, 0
	for _, head := range []string{"", "a/", "a/b/c/", "a/b/c/d", "twelve-byte", longName + "/", "[", "[!ab", "[abcd", strings.Repeat(longSet, mostSigns-2)} {
		for _, signs := range []string{"*/", "a?/", "[a]", "[!a]", "[]!a*", "*A/", "]/[b", "é["} {
			texts := []string{head}
			for from := 0; len(texts) < 5000; from++ {
				for i := range len(signs) {
					texts = append(texts, texts[from]+signs[i:i+1])
				}
			}
			for _, s := range texts {
				if impl.GlobOk(s) != isGlob(s) {
					t.Fatalf("the pattern %q is %v", s, !isGlob(s))
				}
				if isGlob(s) {
					right++
				} else {
					wrong++
				}
			}
		}
	}
	if right < 10000 || wrong < 10000 {
		t.Error("only", right, "were patterns, and", wrong, "were not")
	}
}

func someSign(r *rand.Rand) string {
	switch r.Intn(6) {
	case 0:
		return "*"
	case 1:
		return "?"
	case 2:
		s := []string{"[", "[!"}[r.Intn(2)]
		for range 1 + r.Intn(mostSetBytes) {
			at := r.Intn(len(setBytes))
			s += setBytes[at : at+1]
		}
		return s + "]"
	}
	at := r.Intn(len(globSigns))
	return globSigns[at : at+1]
}

func anyGlob(r *rand.Rand) string {
	var pieces []string
	for range 1 + r.Intn(mostPieces) {
		piece := "**"
		if r.Intn(4) > 0 {
			piece = ""
			for range 1 + r.Intn(mostSigns) {
				piece += someSign(r)
			}
		}
		pieces = append(pieces, piece)
	}
	return strings.Join(pieces, "/")
}

func TestManyPatterns(t *testing.T) {
	r := rand.New(rand.NewSource(6))
	for range 20000 {
		s := anyGlob(r)
		if !isGlob(s) || !impl.GlobOk(s) {
			t.Fatalf("%q is no pattern", s)
		}
		at := r.Intn(len(s))
		for _, turned := range []string{s[:at] + oneByte(r.Intn(256)) + s[at+1:], s[:at] + s[at+1:], s[:at] + someSign(r) + s[at:], s[:at] + "/" + s[at:]} {
			if impl.GlobOk(turned) != isGlob(turned) {
				t.Fatalf("the pattern %q is %v", turned, !isGlob(turned))
			}
		}
	}
}
