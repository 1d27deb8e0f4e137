package tests

import (
	"fmt"
	"math"
	"math/rand"
	"slices"
	"strings"
	"testing"

	"loop.example/g00464/impl"
)

// readRange is that of a text that must be one.
func readRange(t *testing.T, text string) [][]impl.Cmp {
	t.Helper()
	r, ok := impl.ParseRange(text)
	if !ok {
		t.Fatalf("%q is no range", text)
	}
	return r
}

func readVer(t *testing.T, text string) impl.Ver {
	t.Helper()
	v, ok := impl.ParseVer(text)
	if !ok {
		t.Fatalf("%q is no version", text)
	}
	return v
}

// manyVers are versions with and without a Pre: near each other, and far.
func manyVers() []impl.Ver {
	out := ascendingVers()
	for code := range 4 * 4 * 4 {
		a, b, c := code/16, code/4%4, code%4
		out = append(out, ver(a, b, c))
		for _, pre := range []string{"0", "0.0", "1", "10", "-", "a", "a.1", "b"} {
			out = append(out, ver(a, b, c, strings.Split(pre, ".")...))
		}
	}
	return append(out, ver(9999, 0, 1), ver(9998, 9999, 9999), ver(9999, 9999, 9999, "a"), ver(0, 9999, 0), ver(0, 0, 9999))
}

// othersHold goes by the order of texts that were made for the tests of versions.
func othersHold(c impl.Cmp, v impl.Ver) bool {
	order := othersLess(v, c.V)
	switch opNames()[c.Op] {
	case "same":
		return order == 0
	case "less":
		return order < 0
	case "upto":
		return order <= 0
	case "more":
		return order > 0
	}
	return order >= 0
}

func othersTake(r [][]impl.Cmp, v impl.Ver) bool {
	for _, cmps := range r {
		hold, named := 0, 0
		for _, c := range cmps {
			if othersHold(c, v) {
				hold++
			}
			if len(c.V.Pre) > 0 && c.V.A == v.A && c.V.B == v.B && c.V.C == v.C {
				named++
			}
		}
		if hold == len(cmps) && (len(v.Pre) == 0 || named > 0) {
			return true
		}
	}
	return false
}

func TestCmpsOfEachOp(t *testing.T) {
	l := ascendingVers()
	for i := range l {
		for k := range l {
			for op, want := range []bool{k == i, k < i, k <= i, k > i, k >= i} {
				if impl.CmpOk(impl.Cmp{Op: op, V: l[i]}, l[k]) != want {
					t.Fatalf("%s %v takes %v: %v", opNames()[op], l[i], l[k], !want)
				}
			}
		}
	}
}

func TestCmpsOfNoOp(t *testing.T) {
	for _, op := range []int{-1, 5, 6, 7, 8, 100, -4, math.MaxInt, math.MinInt, 1 << 32, 1<<32 + 1, 256, 257} {
		for _, v := range []impl.Ver{ver(0, 0, 0), ver(1, 2, 3), ver(1, 2, 3, "a"), ver(9999, 9999, 9999)} {
			c := impl.Cmp{Op: op, V: ver(1, 2, 3, "a")}
			if impl.CmpOk(c, v) || impl.InRange([][]impl.Cmp{{c}}, v) {
				t.Errorf("Op %d takes %v", op, v)
			}
			all := impl.Cmp{Op: impl.CmpFrom}
			if impl.InRange([][]impl.Cmp{{all, c}, {c, all}}, v) {
				t.Errorf("Op %d beside another takes %v", op, v)
			}
			if !impl.InRange([][]impl.Cmp{{c}, {{Op: impl.CmpFrom, V: v}}}, v) {
				t.Errorf("a list of Op %d hides the one behind it", op)
			}
		}
	}
}

// TestCmpsOfWrongVersions: the document gives CmpOk no other answer for what is not VerOk, so the words of its Ops hold for that, too.
func TestCmpsOfWrongVersions(t *testing.T) {
	l := []impl.Ver{ver(math.MinInt, 0, 0), ver(-1, 0, 0), ver(0, 0, 0, ""), ver(0, 0, 0, "01"), ver(0, 0, 0, "a", "b", "c", "d"), ver(0, 0, 0), ver(0, 10000, 0), ver(math.MaxInt, 0, 0)}
	for i := range l {
		for k := range l {
			for op, want := range []bool{k == i, k < i, k <= i, k > i, k >= i} {
				if impl.CmpOk(impl.Cmp{Op: op, V: l[i]}, l[k]) != want {
					t.Errorf("%s %v takes %v: %v", opNames()[op], l[i], l[k], !want)
				}
			}
		}
	}
}

// TestWordsTakeWhatTheyMean asks of versions without a Pre what each sign means, by the numbers that are told.
func TestWordsTakeWhatTheyMean(t *testing.T) {
	for code := range 3 * 3 * 3 {
		nums := []int{code / 9, code / 3 % 3, code % 3}
		for told := 1; told <= 3; told++ {
			for _, form := range formsOf(nums[:told]) {
				for sign, means := range meanings() {
					r := readRange(t, sign+form)
					for at := range 4 * 4 * 4 {
						v := []int{at / 16, at / 4 % 4, at % 4}
						want := means(nums[:told], v)
						if impl.InRange(r, ver(v[0], v[1], v[2])) != want {
							t.Errorf("%s%s takes %v: %v", sign, form, v, !want)
						}
					}
				}
			}
		}
	}
}

func formsOf(told []int) []string {
	s := strings.Trim(strings.ReplaceAll(fmt.Sprint(told), " ", "."), "[]")
	return [][]string{{s, s + ".x", s + ".x.x"}, {s, s + ".x"}, {s}}[len(told)-1]
}

func meanings() map[string]func(told, v []int) bool {
	begins := func(told, v []int) int { return slices.Compare(v[:len(told)], told) }
	same := func(told, v []int) bool { return begins(told, v) == 0 }
	return map[string]func(told, v []int) bool{
		"":   same,
		"=":  same,
		">=": func(told, v []int) bool { return begins(told, v) >= 0 },
		">":  func(told, v []int) bool { return begins(told, v) > 0 },
		"<=": func(told, v []int) bool { return begins(told, v) <= 0 },
		"<":  func(told, v []int) bool { return begins(told, v) < 0 },
		"~":  func(told, v []int) bool { return begins(told, v) >= 0 && same(told[:min(len(told), 2)], v) },
		"^": func(told, v []int) bool {
			fast := slices.IndexFunc(told, func(n int) bool { return n != 0 }) + 1
			if fast == 0 {
				fast = len(told)
			}
			return begins(told, v) >= 0 && same(told[:fast], v)
		},
	}
}

func TestPreIsTakenWhereItIsNamed(t *testing.T) {
	for _, z := range []struct {
		r, in, out string
	}{
		{"*", "0.0.0 1.0.0 9999.9999.9999", "0.0.0-a 1.0.0-a 9999.9999.9999-0"},
		{"^1.2.3", "1.2.3 1.2.4 1.9.0", "1.2.3-a 1.2.3-0 1.2.4-a 1.3.0-a 2.0.0-0 2.0.0-a 2.0.0 1.2.2"},
		{"^1.2.3-b", "1.2.3-b 1.2.3-c 1.2.3-b.0 1.2.3 1.2.4 1.9.9", "1.2.3-a 1.2.3-1 1.2.4-c 1.3.3-c 2.2.3-c 0.2.3-c 1.2.2-c 1.3.0-b 2.0.0-0 2.0.0"},
		{"~1.2.3-b", "1.2.3-b 1.2.3-z 1.2.3 1.2.9", "1.2.3-a 1.2.4-b 1.3.0-0 1.3.0-b 1.3.0"},
		{"=1.2.3-a", "1.2.3-a", "1.2.3 1.2.3-b 1.2.3-a.0 1.2.3-0 1.2.4-a"},
		{"1.2.3", "1.2.3", "1.2.3-a 1.2.3-0 1.2.4"},
		{">1.0.0-a", "1.0.0-b 1.0.0-a.0 1.0.0 1.0.1 2.0.0", "1.0.0-a 1.0.0-0 1.0.1-a 1.1.0-b 2.0.0-b 0.0.0-b"},
		{">=1.0.0-a", "1.0.0-a 1.0.0-b 1.0.0 3.0.0", "1.0.0-0 1.0.1-b 2.0.0-a"},
		{"<1.0.0-b", "1.0.0-a 1.0.0-0 0.9.0 0.0.0", "1.0.0-b 1.0.0 0.9.0-a 0.0.0-a 1.0.1-a"},
		{"<=1.0.0-b", "1.0.0-a 1.0.0-b 0.9.9", "1.0.0-b.0 1.0.0 1.0.0-c 0.9.9-a"},
		{"<2.0.0", "1.9.9 0.0.0", "2.0.0-a 2.0.0-0 2.0.0 1.0.0-a"},
		{"<=2.0.0", "1.9.9 2.0.0", "2.0.0-a 2.0.0-0 2.0.1"},
		{">2.0.0", "2.0.1", "2.0.0-a 2.0.1-a 3.0.0-0 2.0.0"},
		{"1", "1.0.0 1.9.9", "1.0.0-a 1.5.0-a 2.0.0-0 2.0.0-a 2.0.0"},
		{"<=1", "0.0.0 1.9.9", "1.0.0-a 2.0.0-0 2.0.0-a"},
		{">=1.0.0 <2.0.0-b", "1.0.0 1.9.9 2.0.0-a 2.0.0-0", "2.0.0-b 2.0.0 1.0.0-a 1.9.9-a"},
		{">=1.0.0-a <1.0.0-c", "1.0.0-a 1.0.0-b 1.0.0-b.9", "1.0.0-c 1.0.0-0 1.0.0 0.9.9"},
		{"* >=1.2.3-a", "1.2.3-a 1.2.3 4.0.0", "1.2.4-a 0.0.0-a 0.0.0"},
		{">=1.2.3-a <1.2.4-c", "1.2.3-a 1.2.3-z 1.2.3 1.2.4-a 1.2.4-b", "1.2.4-c 1.2.4 1.2.2-z 1.2.5-a"},
		{"1.0.0-a - 2.0.0-b", "1.0.0-a 1.0.0-z 1.0.0 1.5.0 2.0.0-a 2.0.0-b", "1.5.0-a 2.0.0-c 2.0.0 1.0.0-0"},
		{"1.2.3 - 2.0.0", "1.2.3 2.0.0 1.9.9", "1.2.2 2.0.1 1.5.0-a 2.0.0-a 1.2.3-a"},
		{"2.0.0 - 1.0.0", "", "0.0.0 1.0.0 1.5.0 2.0.0 3.0.0"},
		{"1 || 3", "1.0.0 1.9.0 3.1.0", "0.9.0 2.0.0 4.0.0 3.1.0-a 2.0.0-0"},
		{"<1.0.0 || 2.0.0-a", "0.5.0 2.0.0-a", "1.0.0 2.0.0 2.0.0-b 0.5.0-a"},
		{">=1.0.0 || 5.0.0-a", "1.0.0 5.0.0 5.0.0-a", "5.0.0-b 1.0.0-a"},
		{"* || >=9.0.0-a <1.0.0", "9.0.0 0.0.0", "9.0.0-b 9.0.0-a"},
	} {
		r := readRange(t, z.r)
		for _, v := range strings.Fields(z.in) {
			if !impl.InRange(r, readVer(t, v)) {
				t.Errorf("%q does not take %s", z.r, v)
			}
		}
		for _, v := range strings.Fields(z.out) {
			if impl.InRange(r, readVer(t, v)) {
				t.Errorf("%q takes %s", z.r, v)
			}
		}
	}
}

// TestPreOfTheSameNumbers turns each of A, B and C of the Cmp that names a Pre.
func TestPreOfTheSameNumbers(t *testing.T) {
	v := ver(1, 2, 3, "b")
	for code := range 3 * 3 * 3 {
		a, b, c := code/9, 1+code/3%3, 2+code%3
		for op := range opNames() {
			named := impl.Cmp{Op: op, V: ver(a, b, c, "a")}
			want := othersHold(named, v) && a == 1 && b == 2 && c == 3
			all := impl.Cmp{Op: impl.CmpFrom}
			for _, cmps := range [][]impl.Cmp{{named}, {all, named}, {named, all}, {all, all, named, all}} {
				if impl.InRange([][]impl.Cmp{cmps}, v) != want {
					t.Errorf("%v takes %v: %v", cmps, v, !want)
				}
			}
			if impl.InRange([][]impl.Cmp{{all}, {{Op: op, V: ver(a, b, c)}}}, v) {
				t.Errorf("%d of %d.%d.%d without a Pre takes %v", op, a, b, c, v)
			}
		}
	}
	// What names the Pre stands in another list than those that hold.
	if impl.InRange([][]impl.Cmp{{{Op: impl.CmpFrom}}, {{Op: impl.CmpLess, V: ver(1, 2, 3, "a")}}}, v) {
		t.Error("a Pre that another list names is taken")
	}
}

func TestNoVersionIsTakenThatIsNotRight(t *testing.T) {
	for _, v := range []impl.Ver{
		ver(-1, 0, 0), ver(0, -1, 0), ver(0, 0, -1), ver(10000, 0, 0), ver(0, 10000, 0), ver(0, 0, 10000), ver(math.MinInt, 0, 0), ver(0, 0, math.MaxInt),
		ver(1, 2, 3, ""), ver(1, 2, 3, "01"), ver(1, 2, 3, "a", "b", "c", "d"), ver(1, 2, 3, "ninebytes"), ver(1, 2, 3, "a_"), ver(1, 2, 3, "\xff"), ver(1, 2, 3, "a", ""),
	} {
		for op := range opNames() {
			for _, against := range []impl.Ver{v, ver(0, 0, 0), ver(1, 2, 3, "a"), ver(9999, 9999, 9999)} {
				if impl.InRange([][]impl.Cmp{{{Op: op, V: against}}, {{Op: impl.CmpEq, V: v}}, {}}, v) {
					t.Errorf("%s %v takes %v", opNames()[op], against, v)
				}
			}
		}
		if impl.InRange(nil, v) || impl.InRange([][]impl.Cmp{{}}, v) || impl.InRange(readRange(t, "*"), v) {
			t.Errorf("%v is taken", v)
		}
	}
}

func TestEmptyRanges(t *testing.T) {
	one, pre := ver(1, 2, 3), ver(1, 2, 3, "a")
	for _, r := range [][][]impl.Cmp{nil, {}} {
		if impl.InRange(r, one) || impl.InRange(r, pre) || impl.RangeText(r) != "" {
			t.Error("a range without lists takes something")
		}
	}
	for _, r := range [][][]impl.Cmp{{{}}, {nil}, {nil, {}}, {{{Op: impl.CmpLess}}, {}}} {
		if !impl.InRange(r, one) || impl.InRange(r, pre) {
			t.Errorf("%v takes others than all without a Pre", r)
		}
	}
	for want, r := range map[string][][]impl.Cmp{"": {{}}, " || ": {{}, nil}, "=0.0.0 || ": {{{}}, {}}, " || <1.2.3": {{}, {{Op: impl.CmpLess, V: one}}}} {
		if s := impl.RangeText(r); s != want {
			t.Errorf("%v is told as %q", r, s)
		}
	}
}

func TestRangesOfMoreThanAreRead(t *testing.T) {
	from, less := impl.Cmp{Op: impl.CmpFrom, V: ver(1, 0, 0)}, impl.Cmp{Op: impl.CmpLess, V: ver(2, 0, 0)}
	long := [][]impl.Cmp{slices.Repeat([]impl.Cmp{from}, 9)}
	long[0] = append(long[0], less)
	many := append(slices.Repeat([][]impl.Cmp{{{Op: impl.CmpLess}}}, 9), []impl.Cmp{from, less})
	for _, r := range [][][]impl.Cmp{long, many} {
		if !impl.InRange(r, ver(1, 5, 0)) || impl.InRange(r, ver(2, 5, 0)) {
			t.Errorf("%v takes others", r)
		}
	}
	if s, want := impl.RangeText(long), strings.Repeat(">=1.0.0 ", 9)+"<2.0.0"; s != want {
		t.Errorf("told as %q", s)
	}
	if s, want := impl.RangeText(many), strings.Repeat("<0.0.0 || ", 9)+">=1.0.0 <2.0.0"; s != want {
		t.Errorf("told as %q", s)
	}
}

func TestRangeTextOfEachOp(t *testing.T) {
	for _, v := range []impl.Ver{ver(0, 0, 0), ver(1, 2, 3), ver(9999, 9999, 9999), ver(1, 2, 3, "a", "10", "-")} {
		for op, sign := range opSigns() {
			c := impl.Cmp{Op: op, V: v}
			word := sign + impl.VerText(v)
			for want, r := range map[string][][]impl.Cmp{
				word:                                  {{c}},
				word + " " + word:                     {{c, c}},
				word + " || " + word:                  {{c}, {c}},
				word + " " + word + " || " + word:     {{c, c}, {c}},
				word + " <0.0.0 || =0.0.0 " + word:    {{c, {Op: impl.CmpLess}}, {{}, c}},
				strings.Repeat(word+" ", 3) + word:    {{c, c, c, c}},
				strings.Repeat(word+" || ", 3) + word: {{c}, {c}, {c}, {c}},
			} {
				if s := impl.RangeText(r); s != want {
					t.Errorf("%v is told as %q", r, s)
				}
				if again, ok := impl.ParseRange(want); !ok || !rangeAlike(again, r) {
					t.Errorf("%q is read as %v, %v", want, again, ok)
				}
			}
		}
	}
}

// TestRangeTextOfWrongCmps: the document names no sign of what is no Op, and VerText is nothing of what is not VerOk.
func TestRangeTextOfWrongCmps(t *testing.T) {
	for _, op := range []int{-1, 5, 6, 7, math.MaxInt, math.MinInt} {
		if s := impl.RangeText([][]impl.Cmp{{{Op: op, V: ver(1, 2, 3)}, {Op: impl.CmpMore}}}); s != "1.2.3 >0.0.0" {
			t.Errorf("Op %d is told as %q", op, s)
		}
	}
	for op, sign := range opSigns() {
		r := [][]impl.Cmp{{{Op: op, V: ver(-1, 0, 0)}}, {{Op: op, V: ver(1, 2, 3, "")}, {Op: op, V: ver(1, 0, 10000)}}}
		if s := impl.RangeText(r); s != sign+" || "+sign+" "+sign {
			t.Errorf("wrong versions are told as %q", s)
		}
	}
}

// sameTaken tells r, reads it anew, and asks both of all versions, and another one who takes them.
func sameTaken(t *testing.T, r [][]impl.Cmp, vers []impl.Ver) (taken int) {
	t.Helper()
	told := impl.RangeText(r)
	again, ok := impl.ParseRange(told)
	if !ok || !rangeAlike(again, r) {
		t.Fatalf("%q is read anew as %v, %v", told, again, ok)
	}
	for _, v := range vers {
		want := othersTake(r, v)
		if impl.InRange(r, v) != want || impl.InRange(again, v) != want {
			t.Fatalf("%q takes %v: %v, read anew: %v", told, v, impl.InRange(r, v), impl.InRange(again, v))
		}
		if want {
			taken++
		}
	}
	return taken
}

func TestRangesReadAnewTakeTheSame(t *testing.T) {
	r := rand.New(rand.NewSource(44))
	vers, taken := manyVers(), 0
	for range 1000 {
		if got, ok := impl.ParseRange(someRangeText(r)); ok {
			taken += sameTaken(t, got, vers)
		}
	}
	if taken < 10000 {
		t.Error("only", taken, "were taken")
	}
}

// TestAnyRangesReadAnewTakeTheSame: of Cmps that no word makes, too.
func TestAnyRangesReadAnewTakeTheSame(t *testing.T) {
	rnd := rand.New(rand.NewSource(45))
	vers, taken := manyVers(), 0
	for range 1000 {
		r := make([][]impl.Cmp, 1+rnd.Intn(mostLists))
		for i := range r {
			for range 1 + rnd.Intn(mostCmps) {
				v := readVer(t, someSmallVer(rnd))
				if rnd.Intn(3) == 0 {
					v = vers[rnd.Intn(len(vers))]
				}
				r[i] = append(r[i], impl.Cmp{Op: rnd.Intn(len(opNames())), V: v})
			}
		}
		taken += sameTaken(t, r, vers)
	}
	if taken < 10000 {
		t.Error("only", taken, "were taken")
	}
}
