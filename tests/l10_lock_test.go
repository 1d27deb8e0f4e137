package tests

import (
	"fmt"
	"math/rand"
	"slices"
	"strings"
	"testing"

	"loop.example/g00464/impl"
)

const mostPicks = 12

// lockOf tells the text of Picks in short: each word is a line.
func lockOf(told string) string {
	var out strings.Builder
	for _, word := range strings.Fields(told) {
		out.WriteString(word + "\n")
	}
	return out.String()
}

// othersPicksOk asks by patterns whether Picks may be written down.
func othersPicksOk(l []impl.Pick) bool {
	var names []string
	for _, p := range l {
		if !nameShape.MatchString(p.Name) || !othersVerOk(p.V) {
			return false
		}
		names = append(names, p.Name)
	}
	return len(l) <= mostPicks && strictly(names)
}

func othersLockText(l []impl.Pick) string {
	if !othersPicksOk(l) {
		return ""
	}
	var out []byte
	for _, p := range l {
		out = fmt.Appendf(out, "%s@%d.%d.%d", p.Name, p.V.A, p.V.B, p.V.C)
		if len(p.V.Pre) > 0 {
			out = fmt.Appendf(out, "-%s", strings.Join(p.V.Pre, "."))
		}
		out = append(out, 10)
	}
	return string(out)
}

// othersLock cuts a text into lines that end, each into what stands ahead of the last sign and behind it.
func othersLock(s string) ([]impl.Pick, bool) {
	lines := strings.SplitAfter(s, "\n")
	if lines[len(lines)-1] != "" {
		return nil, false
	}
	var out []impl.Pick
	for _, line := range lines[:len(lines)-1] {
		line = line[:len(line)-1]
		at := strings.LastIndex(line, "@")
		if at < 0 || !isVerText(line[at+1:]) {
			return nil, false
		}
		nums, tail, pre := strings.Cut(line[at+1:], "-")
		p := pick(line[:at], impl.Ver{})
		if n, err := fmt.Sscanf(nums, "%d.%d.%d", &p.V.A, &p.V.B, &p.V.C); n != 3 || err != nil {
			return nil, false
		}
		if pre {
			p.V.Pre = strings.Split(tail, ".")
		}
		out = append(out, p)
	}
	if !othersPicksOk(out) {
		return nil, false
	}
	return out, true
}

func rightLock(t *testing.T, l []impl.Pick, text string) {
	t.Helper()
	if s := impl.LockText(l); s != text {
		t.Errorf("%v is written down as %q, not as %q", l, s, text)
	}
	if x, ok := impl.ParseLock(text); !ok || !picksAlike(x, l) {
		t.Errorf("%q came back as %v, %v", text, x, ok)
	}
	if s := othersLockText(l); s != text {
		t.Errorf("the test's own text of %v is %q, not %q", l, s, text)
	}
	asOthersReadLock(t, text)
}

func notWritten(t *testing.T, l []impl.Pick) {
	t.Helper()
	if s := impl.LockText(l); s != "" {
		t.Errorf("%v is written down as %q", l, s)
	}
}

func noLock(t *testing.T, s string) {
	t.Helper()
	if l, ok := impl.ParseLock(s); ok || len(l) != 0 {
		t.Errorf("%q is read as %v, %v", s, l, ok)
	}
	if _, ok := othersLock(s); ok {
		t.Errorf("the test's own reader takes %q", s)
	}
}

// asOthersReadLock holds what is read of a text against the other reader; what is read is told anew as the same text.
func asOthersReadLock(t *testing.T, s string) bool {
	t.Helper()
	l, ok := impl.ParseLock(s)
	want, wantOk := othersLock(s)
	if ok != wantOk || !picksAlike(l, want) {
		t.Fatalf("%q is read as %v, %v", s, l, ok)
	}
	if ok && impl.LockText(l) != s {
		t.Fatalf("%q is told anew as %q", s, impl.LockText(l))
	}
	return ok
}

// fewLocks are right ones of one line to three.
func fewLocks() []string {
	return []string{"a@1.0.0\n", "a@1.0.0\nb@2.0.0-rc\n", "a@0.0.0\na-@10.20.30-a.1\nz9@9999.9999.9999-abcdefgh.12345678.--------\n"}
}

// numberedPicks are n of them, ascending.
func numberedPicks(n int) []impl.Pick {
	var out []impl.Pick
	for i := range n {
		out = append(out, pick(fmt.Sprintf("p%03d", i), ver(i, 1, 2)))
	}
	return out
}

func TestNoPicksWrittenDown(t *testing.T) {
	rightLock(t, nil, "")
	rightLock(t, []impl.Pick{}, "")
}

func TestPicksWrittenDown(t *testing.T) {
	for _, told := range []string{
		"a@0.0.0", "a@1.0.0", "lib@1.2.3", "abcdefghij@9999.9999.9999", "a-@1.0.0", "a--------9@1.0.0", "z0123456-9@0.0.1",
		"a@1.0.0 b@1.0.0", "a@2.0.0 b@1.0.0", "a@1.0.0 b@2.0.0-rc", "a@1.0.0 a-@1.0.0 a0@1.0.0 aa@1.0.0 b@1.0.0", "lib@1.0.0 lib-a@1.0.0 lib0@1.0.0 liba@1.0.0",
		"a@1.0.0-0", "a@1.0.0-a", "a@1.0.0-rc-1", "a@1.0.0--", "a@1.0.0---.--.-", "a@1.0.0-0.0.0", "a@1.0.0-Alpha.BETA.z9", "a@1.0.0-0a.00a.a00", "a@1.0.0-abcdefgh.12345678.ABCDEFGH",
		"a@1.0.0-1 b@1.0.0-a.1 c@1.0.0 d@1.0.0-x.y.z",
	} {
		rightLock(t, picksOf(t, told), lockOf(told))
	}
	rightLock(t, []impl.Pick{{Name: "a"}}, "a@0.0.0\n")
	rightLock(t, []impl.Pick{{Name: "a", V: impl.Ver{Pre: []string{}}}}, "a@0.0.0\n")
}

func TestTwelvePicksWrittenDown(t *testing.T) {
	for n := range 3 * mostPicks {
		l, text := numberedPicks(n), ""
		for i := range n {
			text += fmt.Sprintf("p%03d@%d.1.2\n", i, i)
		}
		if n <= mostPicks {
			rightLock(t, l, text)
			continue
		}
		notWritten(t, l)
		noLock(t, text)
		noLock(t, text[:len(text)-1])
	}
}

func TestPicksNotInOrder(t *testing.T) {
	for _, told := range []string{"b@1.0.0 a@1.0.0", "b@1.0.0 a@2.0.0", "a@1.0.0 c@1.0.0 b@1.0.0", "b@1.0.0 a@1.0.0 c@1.0.0", "a-@1.0.0 a@1.0.0", "aa@1.0.0 a@1.0.0", "lib-a@1.0.0 lib@1.0.0", "a0@1.0.0 a-@1.0.0", "aa@1.0.0 a0@1.0.0"} {
		notWritten(t, picksOf(t, told))
		noLock(t, lockOf(told))
	}
	four, orders := picksOf(t, "a@4.0.0 b@3.0.0-x c@2.0.0 d@1.0.0"), 0
	eachOrder(four, func(l []impl.Pick) {
		orders++
		if picksAlike(l, four) {
			rightLock(t, l, "a@4.0.0\nb@3.0.0-x\nc@2.0.0\nd@1.0.0\n")
			return
		}
		notWritten(t, l)
		text := ""
		for _, p := range l {
			text += othersLockText([]impl.Pick{p})
		}
		noLock(t, text)
	})
	if orders != 24 {
		t.Error("orders", orders)
	}
	l := numberedPicks(mostPicks)
	for i := range l[1:] {
		other := slices.Clone(l)
		other[i], other[i+1] = other[i+1], other[i]
		notWritten(t, other)
	}
}

// TestOneNameTwice: also where both are of the same version, or the second one is newer.
func TestOneNameTwice(t *testing.T) {
	for _, told := range []string{"a@1.0.0 a@1.0.0", "a@1.0.0 a@2.0.0", "a@2.0.0 a@1.0.0", "a@1.0.0-a a@1.0.0", "a@1.0.0 a@1.0.0 b@1.0.0", "a@1.0.0 b@1.0.0 b@2.0.0", "a@1.0.0 b@1.0.0 a@1.0.0", "a@1.0.0 b@1.0.0 b@1.0.0 c@1.0.0"} {
		notWritten(t, picksOf(t, told))
		noLock(t, lockOf(told))
	}
}

func wrongNames() []string {
	return []string{"", "A", "0", "-", "9a", "-a", "a_", "a.b", "a b", " a", "a ", "\ta", "a\n", "\na", "a\r", "a@", "@a", "a@b", "a@1.0.0", "a\x00", "aB", "é", "a\xff", "abcdefghijk", "a/b", "a#b", strings.Repeat("a", 100000)}
}

// inEachPick turns one of 3 Picks at a time; what is turned is not written down.
func inEachPick(t *testing.T, turn func(*impl.Pick)) {
	t.Helper()
	one := []impl.Pick{pick("b", ver(1, 2, 3))}
	turn(&one[0])
	notWritten(t, one)
	for i := range 3 {
		l := picksOf(t, "b@1.0.0 m@2.0.0-a y@3.0.0")
		turn(&l[i])
		notWritten(t, l)
	}
	full := numberedPicks(mostPicks)
	turn(&full[mostPicks-1])
	notWritten(t, full)
}

func TestNamesThatAreNone(t *testing.T) {
	for _, name := range wrongNames() {
		inEachPick(t, func(p *impl.Pick) { p.Name = name })
		for _, text := range []string{"%s@1.0.0\n", "%s@1.0.0\nzz@1.0.0\n", "a@1.0.0\n%s@1.0.0\n", "a@1.0.0\n%s@1.0.0\nzz@1.0.0\n"} {
			noLock(t, fmt.Sprintf(text, name))
		}
	}
	for c := range 256 {
		first := strings.Contains(smallLetters, oneByte(c))
		later := strings.Contains(smallLetters+digits+"-", oneByte(c))
		for name, right := range map[string]bool{oneByte(c): first, oneByte(c) + "a": first, "m" + oneByte(c): later, "abcdefghi" + oneByte(c): later} {
			l, text := []impl.Pick{pick(name, ver(1, 0, 0))}, name+"@1.0.0\n"
			if right {
				rightLock(t, l, text)
			} else {
				notWritten(t, l)
				noLock(t, text)
			}
		}
	}
}

func TestPicksOfVersionsThatAreNone(t *testing.T) {
	for _, v := range wrongVers() {
		inEachPick(t, func(p *impl.Pick) { p.V = v })
	}
	for _, text := range []string{
		"", "1", "1.0", "1.0.", "1..0", ".1.0.0", "1.0.0.", "1.0.0.0", "x", "1.x", "1.0.x", "*", "^1.0.0", "=1.0.0", "v1.0.0", "V1.0.0", "latest",
		"01.0.0", "1.00.0", "1.0.00", "00.0.0", "1.0.007", "1.0.0-01", "1.0.0-00", "1.0.0-a.01", "1.0.0-0.00.0", "1.0.0-a.b.000",
		"10000.0.0", "0.10000.0", "0.0.10000", "9999.9999.10000", "-1.0.0", "1.-1.0", "+1.0.0", "1.0.+0", "18446744073709551617.0.0",
		"1.0.0-", "1.0.0-.", "1.0.0-a.", "1.0.0-.a", "1.0.0-a..b", "1.0.0-a.b.c.d", "1.0.0-abcdefghi", "1.0.0-123456789", "1.0.0-a_", "1.0.0-é", "1.0.0-\xff", "1.0.0+a", "1.0.0-a+b", "1.0.0\x00", "1,0,0", strings.Repeat("1.", 50000), "1.0.0-" + strings.Repeat("a", 100000),
	} {
		for _, all := range []string{"m@%s\n", "m@%s\nz@1.0.0\n", "a@1.0.0\nm@%s\n", "a@1.0.0-rc\nm@%s\nz@1.0.0-rc\n"} {
			noLock(t, fmt.Sprintf(all, text))
		}
	}
}

func TestLastLineThatDoesNotEnd(t *testing.T) {
	noLock(t, "a@1.0.0")
	noLock(t, "a@1.0.0\nb@1.0.0")
	noLock(t, "a@1.0.0\nb@1.0.0-rc.1")
	noLock(t, "a@1.0.0\n ")
	noLock(t, "a@1.0.0\nb")
	noLock(t, "a@1.0.0\n\x00")
	for n := 1; n <= mostPicks; n++ {
		text := othersLockText(numberedPicks(n))
		if !asOthersReadLock(t, text) {
			t.Errorf("%q is not read", text)
		}
		noLock(t, text[:len(text)-1])
	}
	// Of all beginnings of a text just those are read that end with a line.
	for _, text := range fewLocks() {
		for i := range len(text) + 1 {
			if asOthersReadLock(t, text[:i]) != (i == 0 || text[i-1] == '\n') {
				t.Errorf("of %q %q is read: %v", text, text[:i], i > 0 && text[i-1] != '\n')
			}
		}
	}
}

// betweenLines has s ahead of all lines, between any two, and behind all.
func betweenLines(text, s string) []string {
	var out []string
	for i := range len(text) + 1 {
		if i == 0 || text[i-1] == '\n' {
			out = append(out, text[:i]+s+text[i:])
		}
	}
	return out
}

func TestEmptyLines(t *testing.T) {
	noLock(t, "\n")
	noLock(t, "\n\n")
	noLock(t, "\r\n")
	noLock(t, " ")
	noLock(t, " \n")
	for _, text := range fewLocks() {
		for _, s := range []string{"\n", "\n\n", " \n", "\r\n", "\t\n", "\x00", "@\n", "#\n", "\ufeff", " ", "\r", "@", "1"} {
			for _, other := range betweenLines(text, s) {
				noLock(t, other)
			}
		}
	}
}

func TestBlanksInLines(t *testing.T) {
	for _, text := range fewLocks() {
		for _, blank := range []string{" ", "  ", "\t", "\r", "\v", "\f", "\x00", "\u00a0", "\u2028", "\x85"} {
			for i := range len(text) + 1 {
				noLock(t, text[:i]+blank+text[i:])
			}
		}
		noLock(t, strings.ReplaceAll(text, "\n", "\r\n"))
		noLock(t, strings.ReplaceAll(text, "\n", "\r"))
		noLock(t, strings.ReplaceAll(text, "\n", "\n\r"))
		noLock(t, strings.ReplaceAll(text, "\n", " "))
		noLock(t, strings.ReplaceAll(text, "\n", ""))
		noLock(t, strings.ReplaceAll(text, "\n", `\n`))
	}
	noLock(t, "a@1.0.0\r\n")
	noLock(t, "a@1.0.0-rc\r\nb@1.0.0\n")
	noLock(t, "a@1.0.0\nb@1.0.0-rc\r\n")
}

func TestSignsOfLines(t *testing.T) {
	for _, line := range []string{"a", "a1.0.0", "1.0.0", "@", "@@", "a@", "@1.0.0", "a@@1.0.0", "@a@1.0.0", "a@1.0.0@", "a@1.0.0@b", "a@1.0.0@1.0.0", "a@1.0.0 b@1.0.0", "a@1.0.0b@1.0.0", "a@b@1.0.0", "a#1.0.0", "a 1.0.0", "a=1.0.0", "a:1.0.0", "a/1.0.0", "a-1.0.0", "1.0.0@a"} {
		for _, all := range []string{"%s\n", "%s\nz@1.0.0\n", "a@1.0.0\n%s\n", "a@1.0.0\n%s\nz@1.0.0\n"} {
			noLock(t, fmt.Sprintf(all, line))
		}
	}
	for _, text := range fewLocks() {
		noLock(t, strings.ReplaceAll(text, "@", ""))
		noLock(t, strings.ReplaceAll(text, "@", "@@"))
		noLock(t, strings.Replace(text, "@", "", 1))
		noLock(t, strings.Replace(text, "@", "@@", 1))
	}
}

// TestEachByteOfALock: each byte is gone, is another one, or has another one ahead of it.
func TestEachByteOfALock(t *testing.T) {
	read := 0
	for _, text := range fewLocks() {
		for i := range len(text) + 1 {
			for c := range 256 {
				if asOthersReadLock(t, text[:i]+oneByte(c)+text[i:]) {
					read++
				}
				if i < len(text) && asOthersReadLock(t, text[:i]+oneByte(c)+text[i+1:]) {
					read++
				}
			}
			if i < len(text) && asOthersReadLock(t, text[:i]+text[i+1:]) {
				read++
			}
		}
	}
	if read < 500 {
		t.Error("only", read, "were read")
	}
}

// TestLocksOfFewSigns holds all texts of few signs, behind a beginning, against another reader.
func TestLocksOfFewSigns(t *testing.T) {
	read := 0
	for _, head := range []string{"", "a@0.0.0", "a@0.0.0\n", "a@0.0.0\nb@1.0.", "a", "a@0.0."} {
		for _, signs := range []string{"a@\n", "0.\n@", "ab@0.\n", "1-\n"} {
			texts := []string{head}
			for from := 0; len(texts) < 12000; from++ {
				for i := range len(signs) {
					texts = append(texts, texts[from]+signs[i:i+1])
				}
			}
			for _, s := range texts {
				if asOthersReadLock(t, s) {
					read++
				}
			}
		}
	}
	if read < 100 {
		t.Error("only", read, "were read")
	}
}

func anyName(r *rand.Rand) string {
	const later = smallLetters + digits + "-"
	out := []byte{smallLetters[r.Intn(4)]}
	for range r.Intn(3) + r.Intn(8) {
		out = append(out, later[r.Intn(len(later))])
	}
	return string(out[:min(len(out), 10)])
}

// anyPicks are right ones.
func anyPicks(r *rand.Rand) []impl.Pick {
	known := map[string]bool{}
	for range r.Intn(mostPicks + 1) {
		known[anyName(r)] = true
	}
	var names []string
	for name := range known {
		names = append(names, name)
	}
	slices.Sort(names)
	var out []impl.Pick
	for _, name := range names {
		out = append(out, pick(name, anyVer(r)))
	}
	return out
}

func TestManyPicksComeBack(t *testing.T) {
	rnd := rand.New(rand.NewSource(100))
	most := 0
	for range 5000 {
		l := anyPicks(rnd)
		rightLock(t, l, othersLockText(l))
		if t.Failed() {
			t.FailNow()
		}
		if len(l) == mostPicks {
			most++
		}
	}
	if most < 50 {
		t.Error("only", most, "were of", mostPicks)
	}
}

// TestManyPicksNearlyRight turns right Picks in one thing, or in none.
func TestManyPicksNearlyRight(t *testing.T) {
	rnd := rand.New(rand.NewSource(101))
	names, vers, written := wrongNames(), wrongVers(), 0
	const tries = 20000
	for range tries {
		l := append(anyPicks(rnd), pick("z", anyVer(rnd)))
		i, k := rnd.Intn(len(l)), rnd.Intn(len(l))
		switch rnd.Intn(6) {
		case 0:
			l[i].Name = names[rnd.Intn(len(names))]
		case 1:
			l[i].V = vers[rnd.Intn(len(vers))]
		case 2:
			l[i], l[k] = l[k], l[i]
		case 3:
			l[i].Name = l[k].Name
		case 4:
			l[i].Name = anyName(rnd)
		}
		want := othersLockText(l)
		if got := impl.LockText(l); got != want {
			t.Fatalf("%v is written down as %q", l, got)
		}
		if want != "" {
			written++
			asOthersReadLock(t, want)
		}
	}
	if written < tries/10 || written > tries*9/10 {
		t.Errorf("of %d %d were written down", tries, written)
	}
}

// TestManyTextsNearlyLocks turns right texts at one to three places.
func TestManyTextsNearlyLocks(t *testing.T) {
	rnd := rand.New(rand.NewSource(102))
	bits := []string{"", "\n", "@", "a", "0", "1", ".", "-", "z", "Z", " ", "\r", "b@1.0.0\n", "zz@1.2.3-a\n", "\x00", "\xff"}
	read := 0
	const tries = 40000
	for range tries {
		s := othersLockText(anyPicks(rnd))
		for range 1 + rnd.Intn(3) {
			i := rnd.Intn(len(s) + 1)
			k := min(i+rnd.Intn(2), len(s))
			s = s[:i] + bits[rnd.Intn(len(bits))] + s[k:]
		}
		if asOthersReadLock(t, s) {
			read++
		}
	}
	if read < tries/20 || read > tries*9/10 {
		t.Errorf("of %d %d were read", tries, read)
	}
}

// TestGreatLocks: texts and lists beyond all limits are refused, and soon.
func TestGreatLocks(t *testing.T) {
	const n = 1000000
	notWritten(t, numberedPicks(n/10))
	notWritten(t, slices.Repeat(picksOf(t, "a@1.0.0"), n))
	notWritten(t, []impl.Pick{pick("a", preVer(slices.Repeat([]string{"a"}, n)...))})
	for _, s := range []string{strings.Repeat("\n", n), strings.Repeat("@", n), strings.Repeat("a@1.0.0\n", n), strings.Repeat("a", n), strings.Repeat("a", n) + "@1.0.0\n", "a@1.0.0" + strings.Repeat("\n", n), "a@" + strings.Repeat("1", n) + "\n", "a@1.0.0-" + strings.Repeat("a.", n) + "\n", strings.Repeat("\x00", n)} {
		if l, ok := impl.ParseLock(s); ok || len(l) != 0 {
			t.Errorf("a great text that begins with %q is read", s[:10])
		}
	}
	var lines strings.Builder
	for i := range n / 10 {
		fmt.Fprintf(&lines, "p%06d@1.0.0\n", i)
	}
	if l, ok := impl.ParseLock(lines.String()); ok || len(l) != 0 {
		t.Error("a text of many lines is read")
	}
}
