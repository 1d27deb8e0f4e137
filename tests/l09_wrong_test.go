package tests

import (
	"fmt"
	"slices"
	"strings"
	"testing"

	"loop.example/g00464/impl"
)

// solveForm wants this refused whatever the fuel is.
func solveForm(t *testing.T, r []impl.Entry, needs []impl.Need) {
	t.Helper()
	for _, fuel := range append(fuelsThatAreNone(), 0, 1, 100, mostFuel) {
		if l, c := impl.Solve(r, needs, fuel); c != impl.SolveForm || len(l) != 0 {
			t.Errorf("of %v with %d of fuel %v is solved by %v, %d", r, fuel, needs, l, c)
		}
	}
}

func TestSolveOfWrongRegistries(t *testing.T) {
	for _, needs := range []string{"", "a=*", "b=*", "q=*", "a=x"} {
		asked := needsOf(needs)
		for _, told := range []string{"b@1.0.0 a@1.0.0", "a@2.0.0 a@1.0.0", "a@1.0.0 a@1.0.0", "a@1.0.0-a a@1.0.0-a", "a@1.0.0 A@1.0.0", "@1.0.0", "abcdefghijk@1.0.0", "a@1.0.0:b=x", "a@1.0.0:b=", "a@1.0.0:B=1", "a@1.0.0:c=1,b=1", "a@1.0.0:b=1,b=2", "a@1.0.0:b=1,c=1,d=1,e=1,f=1", "a@1.0.0 b@1.0.0:c=1.2.3-abcdefgh.abcdefgh"} {
			solveForm(t, regOf(t, told), asked)
		}
		for _, v := range wrongVers() {
			solveForm(t, []impl.Entry{entry("a", v)}, asked)
			solveForm(t, []impl.Entry{entry("a", ver(0, 0, 0)), entry("b", v)}, asked)
		}
		solveForm(t, []impl.Entry{{}}, asked)
		for n := mostEntries; n <= mostEntries+2; n++ {
			var r []impl.Entry
			for i := range n {
				r = append(r, entry("b", ver(1, 0, i)))
			}
			if n <= mostEntries && !slices.Equal(asked, needsOf("a=x")) {
				if _, c := impl.Solve(r, asked, 1); c == impl.SolveForm {
					t.Errorf("%d Entries are too many", n)
				}
			} else {
				solveForm(t, r, asked)
			}
		}
	}
}

// wrongNeeds are none, each by one thing.
func wrongNeeds() []impl.Need {
	out := []impl.Need{{}, {Name: "a"}, {Range: "*"}}
	for _, name := range []string{"", "A", "0", "-", "-a", "a_", "a b", " a", "a@", "a\n", "é", "abcdefghijk", "\xff", strings.Repeat("a", 100000)} {
		out = append(out, need(name, "*"))
	}
	for _, text := range []string{"", " ", "x", "1.", "01", "1 ||", "||", "|| 1", "1  2", "1\n", "-", "1 - 2", ">", "=>1", "^9999", "10000", "1||2||3||4||5", "latest", "1.1.1 - 2.2.2-abcdefg", "1.2.3               ||", strings.Repeat(" ", mostRangeText) + "*", "*" + strings.Repeat(" ", mostRangeText), strings.Repeat(" ", 100000) + "*"} {
		out = append(out, need("a", text))
	}
	return out
}

func TestSolveOfWrongNeeds(t *testing.T) {
	for _, reg := range []string{"", "a@1.0.0", "a@1.0.0 a@2.0.0 b@1.0.0:a=1"} {
		r := regOf(t, reg)
		for _, n := range wrongNeeds() {
			solveForm(t, r, []impl.Need{n})
			for _, others := range []string{"a=*", "q=*", "a=1, b=*", "a=2, a=1", "b=1, q=*, a=*"} {
				l := needsOf(others)
				for at := range len(l) + 1 {
					solveForm(t, r, slices.Insert(slices.Clone(l), at, n))
				}
			}
		}
	}
}

func TestRangesAtTheLimit(t *testing.T) {
	r := regOf(t, "a@1.0.0 abcdefghij@1.0.0")
	for _, text := range []string{"*" + strings.Repeat(" ", mostRangeText-1), strings.Repeat(" ", mostRangeText-1) + "1", "1.0.0 - 2.2.2-abcdef", "1000.0.0-abcd || 1.0"} {
		if len(text) != mostRangeText {
			t.Fatalf("%q is not at the limit", text)
		}
		solveIs(t, r, []impl.Need{need("a", text)}, 1, picksOf(t, "a@1.0.0"), impl.SolveGood)
		solveIs(t, r, []impl.Need{need("abcdefghij", text)}, 1, picksOf(t, "abcdefghij@1.0.0"), impl.SolveGood)
		solveForm(t, r, []impl.Need{need("a", text+" ")})
		solveForm(t, r, []impl.Need{need("abcdefghijk", text)})
	}
	for c := range 256 {
		small := 'a' <= c && c <= 'z'
		for name, right := range map[string]bool{oneByte(c): small, "m" + oneByte(c): small || '0' <= c && c <= '9' || c == '-'} {
			if _, code := impl.Solve(r, []impl.Need{need(name, "*")}, 9); (code != impl.SolveForm) != right {
				t.Errorf("a Need of %q is right: %v", name, !right)
			}
		}
	}
}

// TestGreatNeeds: so many that to go through them for each try anew would be seen, if it were slow.
func TestGreatNeeds(t *testing.T) {
	const n = 200000
	r := regOf(t, "a@1.0.0 a@2.0.0 a@3.0.0 b@1.0.0 b@2.0.0 b@3.0.0 c@1.0.0 c@2.0.0 c@3.0.0 d@1.0.0 d@2.0.0 e@1.0.0")
	needs := append(needsOf("a=*, b=*, c=*, d=*, e=*"), slices.Repeat(needsOf("a=*, b=>=1.0.0"), n/2)...)
	newest := picksOf(t, "a@3.0.0 b@3.0.0 c@3.0.0 d@2.0.0 e@1.0.0")
	if l, c := impl.Solve(r, needs, 5); c != impl.SolveGood || !picksAlike(l, newest) {
		t.Error("many Needs are not solved", c)
	}
	if !impl.Solves(r, needs, newest) || impl.Solves(r, needs, newest[:4]) || impl.Solves(r, append(slices.Clone(needs), need("c", "1")), newest) {
		t.Error("many Needs, and what solves them")
	}
	if l, c := impl.Solve(r, append(slices.Clone(needs), need("a", "1"), need("b", "1")), mostFuel); c != impl.SolveGood || !picksAlike(l, picksOf(t, "a@1.0.0 b@1.0.0 c@3.0.0 d@2.0.0 e@1.0.0")) {
		t.Error("many Needs are not gone back over", c)
	}
	if l, c := impl.Solve(r, append(slices.Clone(needs), need("q", "*")), mostFuel); c != impl.SolveNone || len(l) != 0 {
		t.Error("there is a way", c)
	}
	if l, c := impl.Solve(r, append(slices.Clone(needs), need("a", "x")), mostFuel); c != impl.SolveForm || len(l) != 0 {
		t.Error("the last of many is right", c)
	}
}

func TestGreatLists(t *testing.T) {
	const n = 200000
	var r []impl.Entry
	var l []impl.Pick
	var needs []impl.Need
	for i := range n {
		name := fmt.Sprint("p", i)
		r = append(r, entry(name, ver(i, 0, 0), need(fmt.Sprint("p", (i+1)%n), ">=0.0.0")))
		l = append(l, pick(name, ver(i, 0, 0)))
		needs = append(needs, need(name, "<9999"))
	}
	if _, c := impl.Solve(r, needs, mostFuel); c != impl.SolveForm {
		t.Error("a great registry is right", c)
	}
	// Versions past 9999 are not taken.
	if impl.Solves(r, needs, l) {
		t.Error("great versions are taken")
	}
	for i := range n {
		r[i].V.A %= 9999
		l[i].V.A %= 9999
	}
	if !impl.Solves(r, needs, l) || impl.Solves(r, needs, l[1:]) || impl.Solves(r, needs, append(slices.Clone(l), l[0])) || impl.Solves(r[1:], nil, l) {
		t.Error("great lists, and whether they solve")
	}
	if v, ok := impl.PickOf(l, fmt.Sprint("p", n-1)); !ok || v.A != (n-1)%9999 {
		t.Error("the last of many", v)
	}
	packs := slices.Repeat([]impl.Pack{packNeeding("a", "x=1,y=2")}, n)
	if w := impl.Wanted(packs); len(w) != 2*n || w[2*n-1] != need("y", "2") || w[2*n-2] != need("x", "1") {
		t.Error("the Needs of many packs", len(w))
	}
	long := strings.Repeat("a", n)
	great := preVer(append(slices.Repeat([]string{"a"}, n), long)...)
	if v, ok := impl.PickOf([]impl.Pick{pick(long, great)}, long); !ok || !verAlike(v, great) {
		t.Error("a great Pick is not found")
	}
	if !impl.Solves([]impl.Entry{entry(long, great)}, nil, []impl.Pick{pick(long, great)}) || impl.Solves([]impl.Entry{entry(long, great)}, []impl.Need{need(long, "*")}, []impl.Pick{pick(long, great)}) {
		t.Error("a great Entry, and whether it solves")
	}
}
