package tests

import (
	"math"
	"math/rand"
	"slices"
	"strings"
	"testing"

	"loop.example/g00464/impl"
)

// ascendingPres are lists of Pre, the least first; what has none comes behind them all.
func ascendingPres() [][]string {
	return [][]string{
		{"0"}, {"0", "0"}, {"0", "0", "0"}, {"0", "0", "a"}, {"0", "1"}, {"0", "-"}, {"0", "a"},
		{"1"}, {"2"}, {"9"}, {"9", "99999999"}, {"9", "a"}, {"10"}, {"10", "0"}, {"11"}, {"19"}, {"20"}, {"99"}, {"100"}, {"101"}, {"1000"}, {"9999"}, {"10000"}, {"12345678"}, {"99999999"},
		{"-"}, {"--"}, {"---"}, {"-0"}, {"-1"}, {"-10"}, {"-9"}, {"-a"},
		{"0-"}, {"0-1"}, {"00a"}, {"0a"}, {"1-"}, {"10a"}, {"10b"}, {"1a"}, {"2a"}, {"9a"},
		{"A"}, {"A", "1"}, {"AA"}, {"Z"},
		{"a"}, {"a", "0"}, {"a", "1"}, {"a", "1", "0"}, {"a", "1", "a"}, {"a", "2"}, {"a", "10"}, {"a", "10", "2"}, {"a", "10", "10"}, {"a", "-"}, {"a", "1a"}, {"a", "a"}, {"a", "a", "1"}, {"a", "b"},
		{"a-"}, {"a-b"}, {"a1"}, {"a10"}, {"a2"}, {"aA"}, {"aa"}, {"ab"}, {"ab", "0"}, {"abcdefgh"}, {"alpha"}, {"alpha", "1"}, {"alpha", "beta"}, {"b"}, {"beta"}, {"beta", "2"}, {"beta", "11"}, {"rc", "1"}, {"rc-1"}, {"rc1"}, {"z"},
	}
}

// ascendingVers are versions, the least first.
func ascendingVers() []impl.Ver {
	var out []impl.Ver
	for _, n := range [][3]int{{0, 0, 0}, {0, 0, 1}, {0, 1, 0}, {0, 9999, 9999}, {1, 0, 0}, {1, 2, 3}, {2, 0, 9999}, {9, 9, 9}, {10, 0, 0}, {9999, 0, 0}, {9999, 9999, 9998}, {9999, 9999, 9999}} {
		for i, pre := range ascendingPres() {
			if n == [3]int{1, 2, 3} || i%13 == n[2]%13 {
				out = append(out, ver(n[0], n[1], n[2], pre...))
			}
		}
		out = append(out, ver(n[0], n[1], n[2]))
	}
	return out
}

// inThisOrder holds each of l against each.
func inThisOrder(t *testing.T, l []impl.Ver) {
	t.Helper()
	for i := range l {
		for k := range l {
			if impl.LessVer(l[i], l[k]) != (i < k) {
				t.Errorf("%#v is less than %#v: %v", l[i], l[k], i >= k)
			}
			if impl.SameVer(l[i], l[k]) != (i == k) {
				t.Errorf("%#v is the same as %#v: %v", l[i], l[k], i != k)
			}
		}
	}
}

func TestOrderOfVersions(t *testing.T) {
	l := ascendingVers()
	for _, v := range l {
		if !impl.VerOk(v) {
			t.Errorf("%#v is not right", v)
		}
	}
	inThisOrder(t, l)
}

func TestOrderOfVersionsAsTheyAreRead(t *testing.T) {
	var l []impl.Ver
	for _, v := range ascendingVers() {
		x, ok := impl.ParseVer(impl.VerText(v))
		if !ok {
			t.Fatalf("%#v is not read", v)
		}
		l = append(l, x)
	}
	inThisOrder(t, l)
}

// TestOrderOfWrongVersions: the document gives LessVer no other answer for what is not VerOk, so its words hold for that, too.
func TestOrderOfWrongVersions(t *testing.T) {
	inThisOrder(t, []impl.Ver{
		ver(math.MinInt, 0, 0), ver(math.MinInt, 0, 1), ver(-10000, 5, 5), ver(-1, math.MaxInt, 0),
		ver(0, math.MinInt, 0), ver(0, -1, 9), ver(0, 0, math.MinInt), ver(0, 0, -1, "a"), ver(0, 0, -1), ver(0, 0, 0, "a"), ver(0, 0, 0),
		ver(0, 0, 10000, "a"), ver(0, 0, 10000), ver(0, 0, math.MaxInt), ver(0, 10000, -1), ver(0, math.MaxInt, 0), ver(10000, 0, 0, "0"), ver(10000, 0, 0), ver(math.MaxInt, math.MinInt, 0), ver(math.MaxInt, 0, 0), ver(math.MaxInt, math.MaxInt, math.MaxInt),
	})
	long, nines := strings.Repeat("a", 100), strings.Repeat("9", 30)
	inThisOrder(t, []impl.Ver{
		preVer(""), preVer("", ""), preVer("", "0"), preVer("", "a"),
		preVer("0"), preVer("0", ""), preVer("1"), preVer("9"), preVer("00"), preVer("01"), preVer("10"), preVer("000"), preVer("007"), preVer("100"), preVer("123456789"), preVer("18446744073709551617"), preVer(nines), preVer("1" + nines),
		preVer("\x00"), preVer(" "), preVer("-"), preVer("/"), preVer("0.0"), preVer("00a"), preVer("1 "), preVer(":"), preVer("_"),
		preVer("a"), preVer("a", ""), preVer("a", "1", "2", "3"), preVer("a", "1", "2", "3", "4"), preVer("a", "1", "2", "4"), preVer("a", "1", "2", "a"), preVer("a", "b", "c"), preVer("a", "b", "c", "00"), preVer("a", "b", "c", "d"),
		preVer("a\x00"), preVer("a\n"), preVer("a.b"), preVer("a_"), preVer("aaaaaaaaa"), preVer(long), preVer(long + "a"), preVer(long + "b"), preVer("b"),
		preVer("\x7f"), preVer("\x80"), preVer("\xc3"), preVer("\xc3\xa9"), preVer("\xd9\xa1"), preVer("\xef\xbf\xbd"), preVer("\xff"), preVer("\xff1"), preVer("\xff\xff"),
		preVer(),
	})
}

func TestPreOfManyTexts(t *testing.T) {
	a, b := slices.Repeat([]string{"a"}, 10000), slices.Repeat([]string{"a"}, 10000)
	b[9999] = "b"
	inThisOrder(t, []impl.Ver{preVer(a[:9999]...), preVer(a...), preVer(b...), preVer()})
}

func TestNoPreIsAnEmptyPre(t *testing.T) {
	none, empty := impl.Ver{A: 1}, impl.Ver{A: 1, Pre: []string{}}
	if !impl.SameVer(none, empty) || impl.LessVer(none, empty) || impl.LessVer(empty, none) {
		t.Error("no Pre and an empty one are not the same")
	}
	if impl.VerText(empty) != "1.0.0" || !impl.VerOk(empty) || impl.SameVer(empty, ver(1, 0, 0, "")) {
		t.Error("an empty Pre is not as none")
	}
	for _, pre := range ascendingPres() {
		with := ver(1, 0, 0, pre...)
		for _, v := range []impl.Ver{none, empty} {
			if !impl.LessVer(with, v) || impl.LessVer(v, with) || impl.SameVer(v, with) {
				t.Errorf("%#v and %v", with, v)
			}
		}
	}
}

func TestSameInAllParts(t *testing.T) {
	a := ver(1, 2, 3, "a", "1", "b")
	if !impl.SameVer(a, ver(1, 2, 3, "a", "1", "b")) {
		t.Error("not the same as itself")
	}
	for _, b := range []impl.Ver{
		ver(0, 2, 3, "a", "1", "b"), ver(1, 0, 3, "a", "1", "b"), ver(1, 2, 0, "a", "1", "b"), ver(1, 2, 3), ver(1, 2, 3, "a"), ver(1, 2, 3, "a", "1"), ver(1, 2, 3, "a", "1", "b", "c"),
		ver(1, 2, 3, "A", "1", "b"), ver(1, 2, 3, "a", "2", "b"), ver(1, 2, 3, "a", "01", "b"), ver(1, 2, 3, "a", "1", "c"), ver(1, 2, 3, "1", "a", "b"), ver(1, 2, 3, "a.1.b"), ver(1, 2, 3, "", "a", "1", "b"), ver(1, 2, 3, "a1", "", "b"), ver(2, 1, 3, "a", "1", "b"),
	} {
		if impl.SameVer(a, b) || impl.SameVer(b, a) {
			t.Errorf("%#v is the same as %#v", a, b)
		}
		if impl.LessVer(a, b) == impl.LessVer(b, a) {
			t.Errorf("of %#v and %#v not just one is less", a, b)
		}
	}
	if impl.SameVer(preVer("0"), preVer("00")) || impl.SameVer(preVer("a", "b"), preVer("ab")) {
		t.Error("texts that are not alike are the same")
	}
}

// TestJustOneOfThree holds versions of few parts, right ones and wrong ones, against each other, two by two and three by three.
func TestJustOneOfThree(t *testing.T) {
	l := []impl.Ver{}
	words := []string{"", "0", "1", "00", "01", "10", "a", "-", "1a", "ab", "\xff"}
	for _, n := range []int{-1, 0, 10000} {
		l = append(l, ver(0, 0, n))
		for _, a := range words {
			l = append(l, ver(0, 0, n, a))
			for _, b := range words[:7] {
				l = append(l, ver(0, 0, n, a, b))
			}
		}
	}
	for _, a := range l {
		for _, b := range l {
			just := 0
			for _, holds := range []bool{impl.LessVer(a, b), impl.LessVer(b, a), impl.SameVer(a, b)} {
				if holds {
					just++
				}
			}
			if just != 1 || impl.SameVer(a, b) != verAlike(a, b) {
				t.Fatalf("of %#v and %#v %d hold", a, b, just)
			}
			if !impl.LessVer(a, b) {
				continue
			}
			for _, c := range l {
				if impl.LessVer(b, c) && !impl.LessVer(a, c) {
					t.Fatalf("%#v, %#v and %#v go round", a, b, c)
				}
			}
		}
	}
}

func TestOrderOfManyVersions(t *testing.T) {
	r := rand.New(rand.NewSource(33))
	for range 100000 {
		a, b := anyVer(r), anyVer(r)
		if r.Intn(4) > 0 {
			b.A, b.B, b.C = a.A, a.B, a.C
		}
		if r.Intn(2) == 0 && len(a.Pre) > 0 && len(b.Pre) > 0 {
			b.Pre[0] = a.Pre[0]
		}
		want := othersLess(a, b)
		if impl.LessVer(a, b) != (want < 0) || impl.LessVer(b, a) != (want > 0) || impl.SameVer(a, b) != (want == 0) {
			t.Fatalf("%#v and %#v: %d", a, b, want)
		}
	}
}

// othersLess makes of each version a text whose order byte by byte is that of the versions.
func othersLess(a, b impl.Ver) int { return strings.Compare(orderText(a), orderText(b)) }

func orderText(v impl.Ver) string {
	var out strings.Builder
	for _, n := range []int{v.A, v.B, v.C} {
		out.WriteString(oneByte(n>>8) + oneByte(n))
	}
	for _, s := range v.Pre {
		if strings.Trim(s, digits) == "" {
			out.WriteString("\x01" + oneByte(len(s)) + s)
		} else {
			out.WriteString("\x02" + s)
		}
		out.WriteString("\x00")
	}
	if len(v.Pre) == 0 {
		out.WriteString("\xff")
	}
	return out.String()
}
