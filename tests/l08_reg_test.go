package tests

import (
	"fmt"
	"math"
	"math/rand"
	"regexp"
	"slices"
	"strings"
	"testing"

	"loop.example/g00464/impl"
)

const mostEntries = 12

var (
	preTextShape = regexp.MustCompile(`\A[0-9A-Za-z-]{1,8}\z`)
	noughtsAhead = regexp.MustCompile(`\A0[0-9]+\z`)
)

func entry(name string, v impl.Ver, needs ...impl.Need) impl.Entry {
	return impl.Entry{Name: name, V: v, Needs: needs}
}

// regOf tells a registry in short: `lib@1.0.0 lib@1.1.0-rc:log=^1,x=2 log@1.0.0`.
func regOf(t *testing.T, told string) []impl.Entry {
	t.Helper()
	var out []impl.Entry
	for _, word := range strings.Fields(told) {
		head, tail, _ := strings.Cut(word, ":")
		name, v, _ := strings.Cut(head, "@")
		e := entry(name, readVer(t, v))
		for _, part := range strings.FieldsFunc(tail, func(c rune) bool { return c == ',' }) {
			of, text, _ := strings.Cut(part, "=")
			e.Needs = append(e.Needs, need(of, text))
		}
		out = append(out, e)
	}
	return out
}

func entriesAlike(a, b impl.Entry) bool {
	return a.Name == b.Name && verAlike(a.V, b.V) && slices.Equal(a.Needs, b.Needs)
}

func regsAlike(a, b []impl.Entry) bool { return slices.EqualFunc(a, b, entriesAlike) }

func othersVerOk(v impl.Ver) bool {
	ok := len(v.Pre) <= mostPre
	for _, n := range []int{v.A, v.B, v.C} {
		ok = ok && 0 <= n && n <= mostVerNum
	}
	for _, s := range v.Pre {
		ok = ok && preTextShape.MatchString(s) && !noughtsAhead.MatchString(s)
	}
	return ok
}

func othersNeedsOk(l []impl.Need) bool { return othersPackOk(impl.Pack{Name: "a", Needs: l}) }

// othersRegOk holds each Entry against all ahead of it.
func othersRegOk(r []impl.Entry) bool {
	if len(r) > mostEntries {
		return false
	}
	for i, e := range r {
		if !nameShape.MatchString(e.Name) || !othersVerOk(e.V) || !othersNeedsOk(e.Needs) {
			return false
		}
		for _, old := range r[:i] {
			if order := strings.Compare(old.Name, e.Name); order > 0 || order == 0 && othersLess(old.V, e.V) >= 0 {
				return false
			}
		}
	}
	return true
}

func regOrNot(t *testing.T, r []impl.Entry, right bool) {
	t.Helper()
	if impl.RegOk(r) != right {
		t.Errorf("%v is right: %v", r, !right)
	}
}

// fullReg is a right one of 12 Entries, with versions with a Pre and without, and with 0 to 4 Needs.
func fullReg(t *testing.T) []impl.Entry {
	t.Helper()
	return regOf(t, `a@0.0.0-0 a@0.0.0
		lib@1.0.0-9 lib@1.0.0-10 lib@1.0.0-a:log=^1 lib@1.0.0-a.1 lib@1.0.0:a=*,log=^1.0.0 lib@1.0.1-0 lib@10.0.0:a=*,b=1,lib=>1,z=~2
		lib-a@1.0.0 lib-a@9999.9999.9999 log@1.0.0:a=*,b=1,c=2`)
}

func TestRegistries(t *testing.T) {
	for _, told := range []string{
		"", "a@0.0.0", "a@1.0.0", "a@9999.9999.9999", "a@1.0.0-a.1.b", "a@1.0.0 a@1.0.1", "a@1.0.0 b@1.0.0", "a@2.0.0 b@1.0.0", "a@1.0.0 a@2.0.0 b@1.0.0 b@2.0.0 c@0.0.1",
		"a@1.0.0-a a@1.0.0", "a@1.0.0-9 a@1.0.0-10", "a@1.0.0-9 a@1.0.0-a", "a@1.0.0-a a@1.0.0-a.0", "a@1.0.0-a a@1.0.0-aa", "a@1.0.0-99 a@1.0.0-1a", "a@1.0.0-Z a@1.0.0-a", "a@1.0.0 a@1.0.1-0",
		"a@9.0.0 a@10.0.0", "a@1.9.0 a@1.10.0", "a@1.0.9 a@1.0.10", "a@1.9999.9999 a@2.0.0", "lib@1.0.0 lib-a@1.0.0 lib0@1.0.0 liba@1.0.0",
		"a@1.0.0:a=1", "a@1.0.0:b=1 a@2.0.0:b=1", "a@1.0.0:nowhere=*", "a@1.0.0:b=^9.0.0 b@1.0.0:a=^9.0.0", "abcdefghij@1.0.0:abcdefghij=*",
	} {
		regOrNot(t, regOf(t, told), true)
	}
	regOrNot(t, nil, true)
	regOrNot(t, []impl.Entry{}, true)
	regOrNot(t, []impl.Entry{{Name: "a", V: impl.Ver{Pre: []string{}}, Needs: []impl.Need{}}}, true)
	regOrNot(t, fullReg(t), true)
}

func TestRegistriesNotInOrder(t *testing.T) {
	for _, told := range []string{
		"b@1.0.0 a@1.0.0", "b@1.0.0 a@2.0.0", "b@2.0.0 a@1.0.0", "liba@1.0.0 lib@1.0.0", "lib0@1.0.0 lib-@1.0.0", "a@1.0.0 b@1.0.0 a@2.0.0", "a@1.0.0 c@1.0.0 b@1.0.0", "b@1.0.0 b@1.0.1 a@1.0.2",
		"a@2.0.0 a@1.0.0", "a@1.1.0 a@1.0.1", "a@1.0.1 a@1.0.0", "a@10.0.0 a@9.0.0", "a@1.10.0 a@1.9.0", "a@1.0.10 a@1.0.9", "a@1.0.0 a@3.0.0 a@2.0.0", "a@1.0.0 b@2.0.0 b@1.0.0", "b@2.0.0 b@1.0.0 c@1.0.0",
		"a@1.0.0 a@1.0.0-a", "a@1.0.0 a@1.0.0-0", "a@1.0.0-10 a@1.0.0-9", "a@1.0.0-a a@1.0.0-9", "a@1.0.0-a.0 a@1.0.0-a", "a@1.0.0-aa a@1.0.0-a", "a@1.0.0-1a a@1.0.0-99", "a@1.0.0-a a@1.0.0-Z", "a@1.0.1-0 a@1.0.0", "a@1.0.0-a.10 a@1.0.0-a.9", "a@1.0.0-a a@1.0.0 a@1.0.0-b",
		"a@1.0.0 a@1.0.0", "a@1.0.0-a a@1.0.0-a", "a@1.0.0-a.1 a@1.0.0-a.1", "a@1.0.0 a@2.0.0 a@2.0.0", "a@1.0.0 a@1.0.0 a@2.0.0", "a@1.0.0 b@1.0.0 b@1.0.0", "a@1.0.0:b=1 a@1.0.0:b=2", "a@1.0.0 a@1.0.0:b=2", "a@1.0.0 b@1.0.0 a@1.0.0",
	} {
		regOrNot(t, regOf(t, told), false)
	}
}

// TestRegistriesInEachOrder: of all orders just one is right.
func TestRegistriesInEachOrder(t *testing.T) {
	for _, told := range []string{"a@1.0.0-9 a@1.0.0-10 a@1.0.0-b a@1.0.0 a@1.0.1", "a@3.0.0 b@1.0.0-a b@1.0.0 b@2.0.0-0 c@0.0.0", "a@1.0.0 b@1.0.0 c@1.0.0 d@1.0.0 e@1.0.0", "lib@2.0.0 lib-a@1.0.0 lib-a@1.0.1 lib0@0.0.0-a lib0@0.0.0"} {
		want := regOf(t, told)
		eachOrder(want, func(r []impl.Entry) { regOrNot(t, r, regsAlike(r, want)) })
	}
}

func TestTwoVersionsOfOneName(t *testing.T) {
	l := ascendingVers()
	for i := range l {
		for k := range l {
			r := []impl.Entry{entry("a", l[i]), entry("a", l[k])}
			if impl.RegOk(r) != (i < k) {
				t.Fatalf("%v is right: %v", r, i >= k)
			}
		}
	}
	// By another Name any version may follow.
	for i := range l {
		r := []impl.Entry{entry("a", l[len(l)-1]), entry("b", l[i]), entry("c", l[0])}
		regOrNot(t, r, true)
		r[1].Name = "d"
		regOrNot(t, r, false)
	}
}

func TestHowManyEntries(t *testing.T) {
	l := ascendingVers()
	for n := range 40 {
		var ofOne, ofMany, mixed []impl.Entry
		for i := range n {
			ofOne = append(ofOne, entry("a", l[i]))
			ofMany = append(ofMany, entry(fmt.Sprintf("a%02d", i), l[0]))
			mixed = append(mixed, entry(fmt.Sprintf("a%02d", i/3), l[i%3]))
		}
		for _, r := range [][]impl.Entry{ofOne, ofMany, mixed} {
			regOrNot(t, r, n <= mostEntries)
		}
	}
	regOrNot(t, append(fullReg(t), regOf(t, "z@1.0.0")...), false)
	regOrNot(t, append(regOf(t, "a@0.0.0-0"), fullReg(t)...), false)
	for i := range mostEntries {
		regOrNot(t, slices.Delete(fullReg(t), i, i+1), true)
	}
}

// inEachEntry turns one Entry of a right registry at a time; what the turn leaves is to be in order.
func inEachEntry(t *testing.T, turn func(*impl.Entry), right bool) {
	t.Helper()
	for n := 1; n <= 3; n++ {
		for i := range n {
			r := regOf(t, "b@1.0.0 m@2.0.0:x=1 y@3.0.0:x=1,z=2")[:n]
			turn(&r[i])
			regOrNot(t, r, right)
		}
	}
}

func TestNamesOfEntries(t *testing.T) {
	for _, s := range []string{"a", "z", "a-", "a0", "a--9", "abcdefghij", "z-0123456-"} {
		regOrNot(t, []impl.Entry{entry(s, ver(1, 0, 0))}, true)
		inEachEntry(t, func(e *impl.Entry) { e.Needs = []impl.Need{need(s, "1")} }, true)
	}
	for _, s := range []string{"", "A", "0", "-", "9a", "-a", "a_", "a.b", "a b", " a", "a ", "a/b", "a#b", "@a", "a@1.0.0", "a\n", "abcdefghijk", "z-01234567-", "é", "a\x00", "aB", "zz_", "nB"} {
		regOrNot(t, []impl.Entry{entry(s, ver(1, 0, 0))}, false)
		inEachEntry(t, func(e *impl.Entry) { e.Name = s }, false)
		inEachEntry(t, func(e *impl.Entry) { e.Needs = []impl.Need{need(s, "1")} }, false)
	}
	for c := range 256 {
		small := 'a' <= c && c <= 'z'
		regOrNot(t, []impl.Entry{entry(oneByte(c), ver(1, 0, 0))}, small)
		regOrNot(t, []impl.Entry{entry("m"+oneByte(c), ver(1, 0, 0))}, small || '0' <= c && c <= '9' || c == '-')
		regOrNot(t, []impl.Entry{entry("abcdefghi"+oneByte(c), ver(1, 0, 0))}, small || '0' <= c && c <= '9' || c == '-')
	}
	for n := range 20 {
		name := strings.Repeat("n", n)
		regOrNot(t, []impl.Entry{entry("a", ver(1, 0, 0)), entry(name, ver(1, 0, 0)), entry("z", ver(1, 0, 0))}, 1 <= n && n <= 10)
	}
}

// wrongVers are not VerOk, each by one thing.
func wrongVers() []impl.Ver {
	return []impl.Ver{
		ver(-1, 0, 0), ver(0, -1, 0), ver(0, 0, -1), ver(10000, 0, 0), ver(0, 10000, 0), ver(0, 0, 10000), ver(math.MinInt, 0, 0), ver(0, 0, math.MaxInt), ver(1<<32, 0, 0),
		ver(1, 2, 3, ""), ver(1, 2, 3, "01"), ver(1, 2, 3, "00"), ver(1, 2, 3, "abcdefghi"), ver(1, 2, 3, "123456789"), ver(1, 2, 3, "a.b"), ver(1, 2, 3, "a_"), ver(1, 2, 3, "a "), ver(1, 2, 3, "\xff"), ver(1, 2, 3, "é"), ver(1, 2, 3, "a", ""), ver(1, 2, 3, "a", "b", "00"),
		ver(1, 2, 3, "a", "b", "c", "d"), ver(1, 2, 3, "a", "b", "c", ""), ver(1, 2, 3, "", "", "", ""),
	}
}

func TestVersionsOfEntries(t *testing.T) {
	for _, v := range wrongVers() {
		regOrNot(t, []impl.Entry{entry("a", v)}, false)
		inEachEntry(t, func(e *impl.Entry) { e.V = v }, false)
		regOrNot(t, []impl.Entry{entry("a", ver(0, 0, 0)), entry("a", v)}, false)
		regOrNot(t, []impl.Entry{entry("a", v), entry("a", ver(9999, 9999, 9999))}, false)
	}
	for _, v := range ascendingVers() {
		inEachEntry(t, func(e *impl.Entry) { e.V = v }, true)
	}
}

func TestNeedsOfEntries(t *testing.T) {
	for told, right := range orders() {
		var l []impl.Need
		for _, name := range strings.Fields(told) {
			l = append(l, need(name, "^1.0.0"))
		}
		inEachEntry(t, func(e *impl.Entry) { e.Needs = l }, right && len(l) <= mostNeeds)
	}
	for n := range 10 {
		var l []impl.Need
		for i := range n {
			l = append(l, need(oneByte('a'+i), "*"))
		}
		inEachEntry(t, func(e *impl.Entry) { e.Needs = l }, n <= mostNeeds)
		slices.Reverse(l)
		inEachEntry(t, func(e *impl.Entry) { e.Needs = l }, n <= 1)
		l = slices.Repeat([]impl.Need{need("a", "*")}, n)
		inEachEntry(t, func(e *impl.Entry) { e.Needs = l }, n <= 1)
	}
	for _, l := range [][]impl.Need{{{}}, {{Name: "a"}}, {{Range: "1"}}, {need("a", "1"), {}}, {{}, need("a", "1")}, {need("a", "1"), need("a", "2")}, {need("b", "1"), need("a", "1")}, {need("a", "1"), need("b", "")}} {
		inEachEntry(t, func(e *impl.Entry) { e.Needs = l }, false)
	}
	// An Entry may need its own Name, and what is not there.
	inEachEntry(t, func(e *impl.Entry) { e.Needs = []impl.Need{need(e.Name, "^9")} }, true)
}

func TestRangesOfEntries(t *testing.T) {
	for _, s := range []string{"*", "1", "1.x", "^0.0.0", "~1.2", ">=1.0.0 <2", "1 || 2", "1||2||3||4", " 1 ", "1.0.0 - 2.0.0", "1000.1000.1000-abcde", "1.1.1 - 2.2.2-abcdef", "*" + strings.Repeat(" ", mostRangeText-1)} {
		inEachEntry(t, func(e *impl.Entry) { e.Needs = []impl.Need{need("a", s)} }, true)
		inEachEntry(t, func(e *impl.Entry) { e.Needs = []impl.Need{need("a", "1"), need("b", s), need("c", "1")} }, true)
	}
	for _, s := range []string{"", " ", "x", "1.", "01", "1 ||", "||", "1  2", "1\n", "-", "1 - 2", ">", "=>1", "^9999", "10000", "1||2||3||4||5", "latest", "1000.1000.1000-abcdef", "1.1.1 - 2.2.2-abcdefg", "*" + strings.Repeat(" ", mostRangeText), strings.Repeat("x", mostRangeText)} {
		inEachEntry(t, func(e *impl.Entry) { e.Needs = []impl.Need{need("a", s)} }, false)
		inEachEntry(t, func(e *impl.Entry) { e.Needs = []impl.Need{need("a", "1"), need("b", s), need("c", "1")} }, false)
		inEachEntry(t, func(e *impl.Entry) {
			e.Needs = []impl.Need{need("a", "1"), need("b", "1"), need("c", "1"), need("d", s)}
		}, false)
	}
	for n := range 40 {
		inEachEntry(t, func(e *impl.Entry) { e.Needs = []impl.Need{need("a", strings.Repeat(" ", n)+"1")} }, n+1 <= mostRangeText)
	}
}

func TestWrongRegistries(t *testing.T) {
	regOrNot(t, []impl.Entry{{}}, false)
	regOrNot(t, []impl.Entry{{V: ver(1, 0, 0)}}, false)
	regOrNot(t, make([]impl.Entry, mostEntries), false)
	for i := range mostEntries {
		r := fullReg(t)
		r[i] = impl.Entry{}
		regOrNot(t, r, false)
	}
	const n = 200000
	long := strings.Repeat("a", n)
	for _, e := range []impl.Entry{
		entry(long, ver(1, 0, 0)), entry("a", preVer(long)), entry("a", preVer(slices.Repeat([]string{"a"}, n)...)), entry("a", ver(1, 0, 0), need(long, "1")), entry("a", ver(1, 0, 0), need("a", long)), entry("a", ver(1, 0, 0), need("a", strings.Repeat(" ", n)+"1")),
		entry("a", ver(1, 0, 0), slices.Repeat([]impl.Need{need("a", "1")}, n)...),
	} {
		if impl.RegOk([]impl.Entry{e}) {
			t.Error("a great Entry is right")
		}
	}
	if impl.RegOk(slices.Repeat(regOf(t, "a@1.0.0"), n)) {
		t.Error("a great registry is right")
	}
}

// anyEntry is of few names and near versions, most often right.
func anyEntry(r *rand.Rand) impl.Entry {
	e := impl.Entry{Name: []string{"a", "b", "lib", "lib-a"}[r.Intn(4)]}
	e.V, _ = impl.ParseVer(someSmallVer(r))
	for _, name := range []string{"a", "b", "c", "lib", "z"} {
		if r.Intn(4) == 0 {
			e.Needs = append(e.Needs, need(name, []string{"*", "^1.0.0", ">=1 <2", "1.0.0-a"}[r.Intn(4)]))
		}
	}
	switch r.Intn(60) {
	case 0:
		e.Name = []string{"", "A", "a_", "abcdefghijk"}[r.Intn(4)]
	case 1:
		e.V = wrongVers()[r.Intn(len(wrongVers()))]
	case 2:
		e.Needs = []impl.Need{need("b", "1"), need("a", "1")}
	case 3:
		e.Needs = []impl.Need{need("b", someRangeText(r))}
	case 4:
		e.Needs = []impl.Need{need([]string{"", "A", "abcdefghijk"}[r.Intn(3)], "1")}
	}
	return e
}

// anyReg is in order, more often than not.
func anyReg(r *rand.Rand) []impl.Entry {
	var out []impl.Entry
	for range r.Intn(mostEntries + 3) {
		out = append(out, anyEntry(r))
	}
	if r.Intn(4) == 0 {
		return out
	}
	slices.SortStableFunc(out, func(a, b impl.Entry) int {
		if order := strings.Compare(a.Name, b.Name); order != 0 {
			return order
		}
		return othersLess(a.V, b.V)
	})
	if r.Intn(4) > 0 {
		out = slices.CompactFunc(out, func(a, b impl.Entry) bool { return a.Name == b.Name && verAlike(a.V, b.V) })
	}
	if n := len(out); n > 0 && r.Intn(8) == 0 {
		i, k := r.Intn(n), r.Intn(n)
		out[i], out[k] = out[k], out[i]
	}
	return out
}

func TestManyRegistries(t *testing.T) {
	r := rand.New(rand.NewSource(8))
	right := 0
	const tries = 20000
	for range tries {
		reg := anyReg(r)
		ok := othersRegOk(reg)
		if ok {
			right++
		}
		regOrNot(t, reg, ok)
		if t.Failed() {
			t.FailNow()
		}
	}
	if right < tries/4 || right > tries*9/10 {
		t.Errorf("of %d registries %d were right", tries, right)
	}
}
