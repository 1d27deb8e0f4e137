package tests

import (
	"fmt"
	"math"
	"math/rand"
	"regexp"
	"slices"
	"strings"
	"testing"

	"loop.example/g00464/impl"
)

const (
	mostVerNum  = 9999
	mostPre     = 3
	mostPreText = 8
	bigLetters  = "ABCDEFGHIJKLMNOPQRSTUVWXYZ"
	preSigns    = smallLetters + bigLetters + digits + "-"
)

func ver(a, b, c int, pre ...string) impl.Ver { return impl.Ver{A: a, B: b, C: c, Pre: pre} }

func preVer(pre ...string) impl.Ver { return ver(1, 2, 3, pre...) }

// verAlike does not lean on SameVer, which is under test, too.
func verAlike(a, b impl.Ver) bool {
	if a.A != b.A || a.B != b.B || a.C != b.C || len(a.Pre) != len(b.Pre) {
		return false
	}
	for i := range a.Pre {
		if a.Pre[i] != b.Pre[i] {
			return false
		}
	}
	return true
}

func rightVer(t *testing.T, v impl.Ver, text string) {
	t.Helper()
	if !impl.VerOk(v) {
		t.Errorf("%q is not right", text)
	}
	if s := impl.VerText(v); s != text {
		t.Errorf("%q is told as %q", text, s)
	}
	if x, ok := impl.ParseVer(text); !ok || !verAlike(x, v) {
		t.Errorf("%q came back as %v, %v", text, x, ok)
	}
}

func wrongVer(t *testing.T, v impl.Ver) {
	t.Helper()
	if impl.VerOk(v) {
		t.Errorf("%v is right", v)
	}
	if s := impl.VerText(v); s != "" {
		t.Errorf("%v is told as %q", v, s)
	}
}

func noVer(t *testing.T, text string) {
	t.Helper()
	if x, ok := impl.ParseVer(text); ok || !verAlike(x, impl.Ver{}) {
		t.Errorf("%q is read as %v, %v", text, x, ok)
	}
}

func TestVersionsToldAndRead(t *testing.T) {
	for text, v := range map[string]impl.Ver{
		"0.0.0":                      {},
		"1.2.3":                      ver(1, 2, 3),
		"10.20.30":                   ver(10, 20, 30),
		"9999.9999.9999":             ver(9999, 9999, 9999),
		"0.0.0-0":                    ver(0, 0, 0, "0"),
		"1.0.0-a":                    ver(1, 0, 0, "a"),
		"1.0.0-a.1":                  ver(1, 0, 0, "a", "1"),
		"1.0.0-rc-1":                 ver(1, 0, 0, "rc-1"),
		"1.0.0-rc.10.x":              ver(1, 0, 0, "rc", "10", "x"),
		"1.0.0-Alpha.BETA.z9":        ver(1, 0, 0, "Alpha", "BETA", "z9"),
		"1.0.0-0.0.0":                ver(1, 0, 0, "0", "0", "0"),
		"1.2.3-1.2.3":                ver(1, 2, 3, "1", "2", "3"),
		"1.2.3--":                    ver(1, 2, 3, "-"),
		"1.2.3---.--.-":              ver(1, 2, 3, "--", "--", "-"),
		"1.2.3-0a.00a.a00":           ver(1, 2, 3, "0a", "00a", "a00"),
		"1.2.3-abcdefgh.12345678.--": ver(1, 2, 3, "abcdefgh", "12345678", "--"),
	} {
		rightVer(t, v, text)
	}
}

func TestVersionNumbers(t *testing.T) {
	for _, n := range []int{0, 1, 9, 10, 99, 100, 999, 1000, mostVerNum - 1, mostVerNum} {
		s := fmt.Sprint(n)
		for _, pre := range [][]string{nil, {"a"}, {"0", "b"}} {
			tail := ""
			if len(pre) > 0 {
				tail = "-" + strings.Join(pre, ".")
			}
			rightVer(t, ver(n, 1, 2, pre...), s+".1.2"+tail)
			rightVer(t, ver(1, n, 2, pre...), "1."+s+".2"+tail)
			rightVer(t, ver(1, 2, n, pre...), "1.2."+s+tail)
		}
	}
	for _, n := range []int{-1, -2, -mostVerNum, mostVerNum + 1, 10001, 99999, 9999999, 10000000, 1 << 32, 1<<32 + 1, math.MaxInt, math.MinInt} {
		s := fmt.Sprint(n)
		for _, v := range []impl.Ver{ver(n, 1, 2), ver(1, n, 2), ver(1, 2, n), ver(n, n, n), ver(1, 2, n, "a")} {
			wrongVer(t, v)
		}
		for _, text := range []string{s + ".1.2", "1." + s + ".2", "1.2." + s, s + ".1.2-a", "1." + s + ".2-a", "1.2." + s + "-a"} {
			noVer(t, text)
		}
	}
	for _, s := range []string{"", "00", "01", "007", "0000", "09999", "00001", "000000000000", "18446744073709551617", "+1", "-1", "-0", "- 1", " 1", "1 ", "1_0", "0x1", "1e3", "x", "*", "a", "1a", "A", "\xd9\xa1", "١"} {
		for _, text := range []string{s + ".1.2", "1." + s + ".2", "1.2." + s, s + ".1.2-a", "1." + s + ".2-a", "1.2." + s + "-a", s + "." + s + "." + s} {
			noVer(t, text)
		}
	}
}

func TestHowManyTextsOfPre(t *testing.T) {
	for n := range 10 {
		for _, s := range []string{"a", "0", "-", "abcdefgh", "12345678"} {
			pre := slices.Repeat([]string{s}, n)
			text := "1.2.3-" + strings.Join(pre, ".")
			switch {
			case n == 0:
				rightVer(t, preVer(), "1.2.3")
				rightVer(t, preVer(pre...), "1.2.3")
				noVer(t, text)
			case n <= mostPre:
				rightVer(t, preVer(pre...), text)
			default:
				wrongVer(t, preVer(pre...))
				noVer(t, text)
			}
		}
	}
	wrongVer(t, preVer(slices.Repeat([]string{"a"}, 100000)...))
	noVer(t, "1.2.3-a"+strings.Repeat(".a", 100000))
}

func TestLengthOfTextsOfPre(t *testing.T) {
	for n := range 30 {
		for _, unit := range []string{"a", "Z", "1", "-"} {
			s := strings.Repeat(unit, n)
			for _, pre := range [][]string{{s}, {s, "b"}, {"b", s}, {"b", s, "c"}, {"b", "c", s}} {
				text := "1.2.3-" + strings.Join(pre, ".")
				if 1 <= n && n <= mostPreText {
					rightVer(t, preVer(pre...), text)
				} else {
					wrongVer(t, preVer(pre...))
					noVer(t, text)
				}
			}
		}
	}
	wrongVer(t, preVer(strings.Repeat("a", 1000000)))
	noVer(t, "1.2.3-"+strings.Repeat("a", 1000000))
	noVer(t, strings.Repeat("1", 1000000))
	noVer(t, strings.Repeat("1.", 1000000))
	noVer(t, strings.Repeat("-", 1000000))
}

func TestPreOfEachByte(t *testing.T) {
	for c := range 256 {
		b := oneByte(c)
		right := strings.Contains(preSigns, b)
		for _, s := range []string{b, "a" + b, b + "a", "a" + b + "z", "1" + b, b + "-", "abcdefg" + b} {
			for _, pre := range [][]string{{s}, {"x", s}, {s, "x", "1"}} {
				text := "1.2.3-" + strings.Join(pre, ".")
				if right {
					rightVer(t, preVer(pre...), text)
					continue
				}
				wrongVer(t, preVer(pre...))
				if c != '.' {
					noVer(t, text)
				}
			}
		}
	}
}

func TestVersionOfEachByteMore(t *testing.T) {
	const text = "1.2.3-a.1"
	for c := range 256 {
		for i := range len(text) + 1 {
			asOthersRead(t, text[:i]+oneByte(c)+text[i:])
		}
		for i := range len(text) {
			asOthersRead(t, text[:i]+oneByte(c)+text[i+1:])
		}
	}
}

func TestNoughtsAheadInPre(t *testing.T) {
	for _, s := range []string{"0", "1", "9", "10", "100", "10000000", "90000000", "99999999", "0a", "00a", "01a", "0-", "00-", "0-0", "-0", "-00", "-01", "a0", "a00", "a01", "0000000a", "-0000000", "0A"} {
		for _, pre := range [][]string{{s}, {"a", s}, {s, "0"}, {s, s, s}} {
			rightVer(t, preVer(pre...), "1.2.3-"+strings.Join(pre, "."))
		}
	}
	for _, s := range []string{"00", "000", "01", "001", "010", "09", "00000000", "01234567", "00000001"} {
		for _, pre := range [][]string{{s}, {"a", s}, {s, "0"}, {"a", "b", s}, {s, s, s}} {
			wrongVer(t, preVer(pre...))
			noVer(t, "1.2.3-"+strings.Join(pre, "."))
		}
	}
}

func TestDashAtAnyPlaceOfPre(t *testing.T) {
	for n := 1; n <= mostPreText; n++ {
		for _, unit := range []string{"a", "1", "Z", "-", "0"} {
			for i := range n {
				s := strings.Repeat(unit, i) + "-" + strings.Repeat(unit, n-i-1)
				for _, pre := range [][]string{{s}, {"a", s}, {s, "1"}, {"1", s, "a"}, {s, s, s}} {
					rightVer(t, preVer(pre...), "1.2.3-"+strings.Join(pre, "."))
				}
			}
		}
	}
}

func TestWrongVersionTexts(t *testing.T) {
	for _, s := range []string{
		"", " ", ".", "..", "...", "-", "--", "-a", "1", "1.", "1.2", "1.2.", ".2.3", "1..3", "1.2.3.", ".1.2.3", "1..2.3", "1.2..3", "1.2.3.4", "1.2.3.4-a", "1.2.3.4.5",
		"1-a", "1.2-a", "1.-2.3", "1.2-3", "1.2.-3", "-1.2.3", "1-.2.3", "1.2-.3", "1.2.-", "1.2-", "1-", "1.2.-a", "..-a", "1..-a",
		"1.2.3-", "1.2.3-.", "1.2.3-.a", "1.2.3-a.", "1.2.3-a..b", "1.2.3-a.b.", "1.2.3-a.b.c.", "1.2.3-..", "1.2.3.-a", "1.2.3-a.b.c.d", "1.2.3-a.b.c.d.e",
		"1.2.3a", "1.2.3 -a", "1.2.3- a", "1.2.3-a ", " 1.2.3", "1.2.3 ", "1.2.3\n", "\n1.2.3", "1. 2.3", "1.2.3-a b", "1.2.3-a,b", "1,2,3", "1.2,3",
		"v1.2.3", "V1.2.3", "=1.2.3", "^1.2.3", "~1.2.3", ">1.2.3", "1.2.x", "1.x.x", "x", "*", "1.2.*", "1.2.3+a", "1.2.3-a+b", "1.2.3-a_", "1.2.3-a/b", "1.2.3-a@", "1.2.3-a[", "1.2.3-a`", "1.2.3-a{", "1.2.3-:", "1.2.3_a",
		"1.2.3\x00", "1.2.3-\x00", "1.2.3-a\x00", "\x001.2.3", "1.2.3-\x7f", "1.2.3-\x80", "1.2.3-a\xff", "1.2.3-\xc3", "1.2.3-\xc3\xa9", "1.2.3-é", "1.2.3-a\xc3\xa9b", "1.2.3\xe2\x80\x90a", "1\xe2\x80\xa42.3", "１.2.3", "1.2.3-\uff11", "1.2.3-\ufffd", "\xef\xbb\xbf1.2.3", "1.2.3-\U0001d7d8",
		"1.2.3-\u0161", "1.2.3-\u012d", "1\u012e2.3", "1.2.\u0133", // runes whose lowest bytes are `a`, `-`, `.` and `3`
	} {
		noVer(t, s)
	}
}

func TestVersionsCutShort(t *testing.T) {
	for _, s := range []string{"1.2.3", "10.20.30", "1.2.3-a", "1.2.3-a.b.c", "1.2.3---.-", "9999.9999.9999-abcdefgh.12345678.-0000000"} {
		for i := range len(s) + 1 {
			asOthersRead(t, s[:i])
		}
	}
}

const (
	verNumShape = `(?:0|[1-9][0-9]{0,3})`
	preShape    = `[0-9A-Za-z-]{1,8}`
)

var (
	verShape       = regexp.MustCompile(`\A` + verNumShape + `\.` + verNumShape + `\.` + verNumShape + `(?:-(` + preShape + `(?:\.` + preShape + `){0,2}))?\z`)
	noughtsInShape = regexp.MustCompile(`(?:\A|\.)0[0-9]+(?:\.|\z)`)
)

// isVerText tells by patterns whether a text is one of a version.
func isVerText(s string) bool {
	found := verShape.FindStringSubmatch(s)
	return found != nil && !noughtsInShape.MatchString(found[1])
}

// asOthersRead holds what is read of a text against what the patterns tell of it.
func asOthersRead(t *testing.T, s string) bool {
	t.Helper()
	v, ok := impl.ParseVer(s)
	if ok != isVerText(s) || ok && (!impl.VerOk(v) || impl.VerText(v) != s) || !ok && !verAlike(v, impl.Ver{}) {
		t.Fatalf("%q is read as %v, %v", s, v, ok)
	}
	return ok
}

// TestVersionTextsOfFewSigns holds all texts of few signs, behind a beginning, against another reader.
func TestVersionTextsOfFewSigns(t *testing.T) {
	read := 0
	for _, head := range []string{"", "0.1", "1.0.1", "1.0.1-", "1.0.1-a.b", "1.2.3-abcdef"} {
		for _, signs := range []string{"01.-a", "0.-", "9.", "Z-.é"} {
			texts := []string{head}
			for from := 0; len(texts) < 20000; from++ {
				for i := range len(signs) {
					texts = append(texts, texts[from]+signs[i:i+1])
				}
			}
			for _, s := range texts {
				if asOthersRead(t, s) {
					read++
				}
			}
		}
	}
	if read < 10000 {
		t.Error("only", read, "were versions")
	}
}

func TestManyVersionsComeBack(t *testing.T) {
	r := rand.New(rand.NewSource(3))
	for range 50000 {
		v := anyVer(r)
		s := impl.VerText(v)
		if !impl.VerOk(v) || !isVerText(s) {
			t.Fatalf("%v is told as %q", v, s)
		}
		x, ok := impl.ParseVer(s)
		if !ok || !verAlike(x, v) || !impl.SameVer(x, v) || impl.LessVer(x, v) || impl.LessVer(v, x) {
			t.Fatalf("%q came back as %v, %v", s, x, ok)
		}
	}
}

func anyVer(r *rand.Rand) impl.Ver {
	v := ver(r.Intn(mostVerNum+1), r.Intn(mostVerNum+1), r.Intn(mostVerNum+1))
	for range r.Intn(mostPre + 1) {
		if r.Intn(2) == 0 {
			v.Pre = append(v.Pre, fmt.Sprint(r.Intn(100000000)))
			continue
		}
		s := make([]byte, r.Intn(mostPreText))
		for i := range s {
			s[i] = preSigns[r.Intn(len(preSigns))]
		}
		at := r.Intn(len(s) + 1)
		v.Pre = append(v.Pre, string(s[:at])+oneByte(int(bigLetters[r.Intn(26)]))+string(s[at:]))
	}
	return v
}
