package tests

import (
	"math/rand"
	"regexp"
	"strings"
	"testing"

	"loop.example/g00464/impl"
)

const (
	mostPathNames = 4
	mostPathName  = 12
	pathSigns     = smallLetters + digits + ".-_"
	longName      = "a1.b2-c3_d4e"
)

// pathOrNot asks for the path itself, and for lists that have it.
func pathOrNot(t *testing.T, s string, want bool) {
	t.Helper()
	if impl.PathOk(s) != want {
		t.Errorf("the path %q is %v", s, !want)
	}
	f := impl.File{Path: s, Text: "text"}
	if impl.FilesOk([]impl.File{f}) != want {
		t.Errorf("a list of %q is %v", s, !want)
	}
	if l, ok := impl.PutFile(nil, f); ok != want || want && !filesAlike(l, []impl.File{f}) || !want && len(l) != 0 {
		t.Errorf("%q is put as %q, %v", s, l, ok)
	}
}

func TestHowManyNamesOfAPath(t *testing.T) {
	for n := 1; n <= mostPathNames+3; n++ {
		for _, name := range []string{"a", "9", "-", "_", "a.b", "...", longName} {
			s := strings.Repeat(name+"/", n)
			pathOrNot(t, s[:len(s)-1], n <= mostPathNames)
			pathOrNot(t, s, false)
			pathOrNot(t, "/"+s[:len(s)-1], false)
		}
	}
	pathOrNot(t, "", false)
}

func TestLengthOfNamesOfAPath(t *testing.T) {
	for n := range 2*mostPathName + 3 {
		ok := 1 <= n && n <= mostPathName
		for _, sign := range []string{"a", "0", "-", "_"} {
			s := strings.Repeat(sign, n)
			pathOrNot(t, s, ok)
			pathOrNot(t, "b/"+s, ok)
			pathOrNot(t, s+"/b", ok)
			pathOrNot(t, "b/c/"+s+"/d", ok)
			pathOrNot(t, strings.Join([]string{longName, longName, longName, s}, "/"), ok)
		}
		pathOrNot(t, strings.Repeat("é", n), false)
	}
	if len(longName) != mostPathName {
		t.Error("the test's long name is not of the greatest length")
	}
}

func TestDotsInPaths(t *testing.T) {
	for n := range mostPathName + 3 {
		dots := strings.Repeat(".", n)
		ok := 3 <= n && n <= mostPathName
		for _, s := range []string{dots, dots + "/a", "a/" + dots, "a/" + dots + "/b", "a/b/c/" + dots, dots + "/" + dots} {
			pathOrNot(t, s, ok)
		}
		for _, sign := range []string{"a", "0", "-", "_"} {
			for _, s := range []string{dots + sign, sign + dots, "a/" + dots + sign, sign + dots + "/a"} {
				pathOrNot(t, s, n < mostPathName)
			}
		}
	}
}

func TestPathOfEachByte(t *testing.T) {
	for c := range 256 {
		s := oneByte(c)
		known := strings.Contains(pathSigns, s)
		pathOrNot(t, s, known && s != ".")
		pathOrNot(t, "a"+s, known)
		pathOrNot(t, s+"a", known)
		pathOrNot(t, "a"+s+"b", known || s == "/")
		pathOrNot(t, "a/b"+s+"/c", known)
		pathOrNot(t, "a/"+s+"b/c", known)
		pathOrNot(t, "a/b/c/d"+s, known)
	}
}

func TestWrongPaths(t *testing.T) {
	for _, s := range []string{
		"", "/", "//", "///", "////", "/a", "a/", "/a/", "a//b", "//a", "a//", "a/b//", "a///b", "a/b/c/d/", "/a/b/c/d", "a/b/c//d",
		".", "..", "./a", "../a", "a/.", "a/..", "a/./b", "a/../b", "./.", "../..", "a/b/c/.", "a/b/c/..",
		"A", "aB", "a/B", "README", "a/b/c/D", " ", "a ", " a", "a b", "a/ /b", "a\\b", "a:b", "a*", "a?", "[a]", "a,b", "a~", "a+b",
		"\x7f", "a\x80", "\xff", "é", "aé/b", "a\x00", "\x00", "a\n", "\ta",
		"thirteen-byte", "a/thirteen-byte", "thirteen-byte/a", "a/b/c/thirteen-byte",
	} {
		pathOrNot(t, s, false)
	}
}

func TestGreatPaths(t *testing.T) {
	for _, s := range []string{"a", "/", "a/", ".", "../", "é"} {
		pathOrNot(t, strings.Repeat(s, 300000), false)
	}
}

var (
	pathShape = regexp.MustCompile(`\A[a-z0-9._-]{1,12}(?:/[a-z0-9._-]{1,12}){0,3}\z`)
	dotShape  = regexp.MustCompile(`(?:\A|/)\.\.?(?:/|\z)`)
)

// isPath tells by patterns whether a text is a path.
func isPath(s string) bool { return pathShape.MatchString(s) && !dotShape.MatchString(s) }

// TestPathsOfFewSigns holds all texts of few signs, behind a beginning, against another reader.
func TestPathsOfFewSigns(t *testing.T) {
	right := 0
	for _, head := range []string{"", "a/", "a/b/c/", "a/b/c/d", "twelve-byte", longName + "/"} {
		for _, signs := range []string{"a./", "./", "a/A", "._-/0", "é/"} {
			texts := []string{head}
			for from := 0; len(texts) < 5000; from++ {
				for i := range len(signs) {
					texts = append(texts, texts[from]+signs[i:i+1])
				}
			}
			for _, s := range texts {
				if impl.PathOk(s) != isPath(s) {
					t.Fatalf("the path %q is %v", s, !isPath(s))
				}
				if isPath(s) {
					right++
				}
			}
		}
	}
	if right < 10000 {
		t.Error("only", right, "were paths")
	}
}

func anyPath(r *rand.Rand) string {
	var names []string
	for range 1 + r.Intn(mostPathNames) {
		s := make([]byte, 1+r.Intn(mostPathName))
		for i := range s {
			s[i] = pathSigns[r.Intn(len(pathSigns))]
		}
		if s[0] == '.' {
			s[0] = smallLetters[r.Intn(len(smallLetters))]
		}
		names = append(names, string(s))
	}
	return strings.Join(names, "/")
}

func TestManyPaths(t *testing.T) {
	r := rand.New(rand.NewSource(5))
	for range 20000 {
		s := anyPath(r)
		if !isPath(s) || !impl.PathOk(s) {
			t.Fatalf("%q is no path", s)
		}
		at := r.Intn(len(s))
		turned := s[:at] + oneByte(r.Intn(256)) + s[at+1:]
		if impl.PathOk(turned) != isPath(turned) {
			t.Fatalf("the path %q is %v", turned, !isPath(turned))
		}
	}
}
