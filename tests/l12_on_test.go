package tests

import (
	"regexp"
	"strings"
	"testing"

	"loop.example/g00464/impl"
)

var onShape = regexp.MustCompile(`\A(?:\^?[a-z][a-z0-9-]{0,9}|[a-z][a-z0-9-]{0,9}#[a-z][a-z0-9-]{0,9})\z`)

// onOrNot asks for s alone, and as the first, the last and the only text of a rule's On.
func onOrNot(t *testing.T, s string, want bool) {
	t.Helper()
	if impl.OnOk(s) != want || onShape.MatchString(s) != want {
		t.Errorf("%q is %v", s, !want)
	}
	for _, on := range [][]string{{s}, {s, "a", "^a", "a#a"}, {"a", "^a", "a#a", s}} {
		ruleOrNot(t, withOn(on...), want)
	}
}

func rightNames() []string {
	return []string{"a", "z", "m", "a-", "a0", "z9", "a--9", "on", "abcdefghij", "a123456789", "z-0123456-"}
}

// noNames are wrong by themselves, and hold no sign of On.
func noNames() []string {
	return []string{"", "A", "0", "9", "-", "9a", "-a", "a_", "a.b", "a*", "a b", " a", "a ", " ", "\ta", "a\n", "\na", "a\r", "a\x00", "aB", "Ab", "é", "a\xff", "a/b", "a@b", "a:b", "abcdefghijk", "a1234567890", "ABCDEFGHIJ"}
}

func TestOnsOfRightNames(t *testing.T) {
	for _, name := range rightNames() {
		onOrNot(t, name, true)
		onOrNot(t, "^"+name, true)
		for _, other := range rightNames() {
			onOrNot(t, name+"#"+other, true)
			onOrNot(t, name+other, len(name+other) <= 10)
			onOrNot(t, name+"##"+other, false)
			onOrNot(t, name+" "+other, false)
			onOrNot(t, name+"^"+other, false)
			onOrNot(t, name+"#"+other+"#"+name, false)
			onOrNot(t, "^"+name+"#"+other, false)
			onOrNot(t, name+"#^"+other, false)
			onOrNot(t, name+"^#"+other, false)
		}
	}
}

func TestOnsOfNoNames(t *testing.T) {
	for _, wrong := range noNames() {
		onOrNot(t, wrong, false)
		onOrNot(t, "^"+wrong, false)
		onOrNot(t, wrong+"#"+wrong, false)
		for _, name := range rightNames() {
			onOrNot(t, wrong+"#"+name, false)
			onOrNot(t, name+"#"+wrong, false)
		}
	}
}

func TestOnsWithSignsAlone(t *testing.T) {
	for _, s := range []string{
		"", "^", "#", "^^", "##", "^#", "#^", "p#", "#t", "^p#", "^#t", "^p#t", "p#^t", "p^#t", "p#t^", "p#t#t", "p#t#", "#p#t", "p##t", "^^t", "^^^t", "t^", "^t^", "t#", "^t#",
		"!t", "~t", "*", "p#*", "*#t", "^*", "p/t", "p.t", "p:t", "\\^t", "\"t\"", "^T", "P#t", "p#T", "^build#test",
	} {
		onOrNot(t, s, false)
	}
}

// TestOnsWithBlanks: a blank is taken nowhere.
func TestOnsWithBlanks(t *testing.T) {
	for _, s := range []string{"t", "^t", "p#t", "build-all", "^build-all", "main-pack#build-all"} {
		onOrNot(t, s, true)
		for _, blank := range []string{" ", "\t", "\n", "\r", "  ", "\x00"} {
			for at := range len(s) + 1 {
				onOrNot(t, s[:at]+blank+s[at:], false)
			}
		}
	}
}

// TestOnsByLength: 10 signs are a name, 11 are none, in each place.
func TestOnsByLength(t *testing.T) {
	for n := range 16 {
		for _, sign := range []string{"a", "9", "-"} {
			name := "z" + strings.Repeat(sign, n)
			want := len(name) <= 10
			onOrNot(t, name, want)
			onOrNot(t, "^"+name, want)
			onOrNot(t, name+"#t", want)
			onOrNot(t, "p#"+name, want)
			onOrNot(t, name+"#"+name, want)
			onOrNot(t, "abcdefghij#"+name, want)
			onOrNot(t, name+"#abcdefghij", want)
		}
	}
}

// TestOnsOfEachByte has each byte in each place, ahead and behind.
func TestOnsOfEachByte(t *testing.T) {
	for c := range 256 {
		b := oneByte(c)
		small := 'a' <= c && c <= 'z'
		within := small || '0' <= c && c <= '9' || c == '-'
		onOrNot(t, b, small)
		onOrNot(t, b+"t", small || c == '^')
		onOrNot(t, "t"+b, within)
		onOrNot(t, "t"+b+"t", within || c == '#')
		onOrNot(t, "^"+b, small)
		onOrNot(t, "^t"+b, within)
		onOrNot(t, b+"^t", false)
		onOrNot(t, b+"#t", small)
		onOrNot(t, "p"+b+"#t", within)
		onOrNot(t, "p#"+b, small)
		onOrNot(t, "p#"+b+"t", small)
		onOrNot(t, "p#t"+b, within)
		onOrNot(t, b+"p#t", small)
	}
}

// TestOnsOfFewSigns holds all texts of few signs, behind a beginning, against another reader.
func TestOnsOfFewSigns(t *testing.T) {
	right, wrong := 0, 0
	for _, head := range []string{"", "^", "a#", "abcdefgh", "^abcdefgh", "abcdefgh#", "abcdefgh#abcdefgh", "a#abcdefgh"} {
		for _, signs := range []string{"a^#-", "b0# ", "#^A", "a0-"} {
			for _, s := range textsOf(signs, 4000) {
				s = head + s
				want := onShape.MatchString(s)
				if impl.OnOk(s) != want {
					t.Fatalf("%q is %v", s, !want)
				}
				if want {
					right++
				} else {
					wrong++
				}
			}
		}
	}
	if right < 1000 || wrong < 1000 {
		t.Error("only", right, "were right, and", wrong, "were not")
	}
}

func TestGreatOns(t *testing.T) {
	for _, s := range []string{"a", "^", "#", "a#", "#a", "^a", "a#b", " ", "é", "A", "\x00"} {
		great := strings.Repeat(s, 300000)
		for _, on := range []string{great, "^" + great, "a#" + great, great + "#a", great + "#" + great} {
			if impl.OnOk(on) {
				t.Errorf("%d times %q is right", 300000, s)
			}
		}
	}
}
