package tests

import (
	"fmt"
	"math"
	"math/rand"
	"slices"
	"strings"
	"testing"

	"loop.example/g00464/impl"
)

const mostFuel = 10000

// needsOf tells Needs in short: `lib=^1.0.0, log=1 || 2`.
func needsOf(told string) []impl.Need {
	var out []impl.Need
	for _, part := range strings.FieldsFunc(told, func(c rune) bool { return c == ',' }) {
		name, text, _ := strings.Cut(strings.TrimLeft(part, " "), "=")
		out = append(out, need(name, text))
	}
	return out
}

func pick(name string, v impl.Ver) impl.Pick { return impl.Pick{Name: name, V: v} }

// picksOf tells Picks in short: `lib@1.0.0 log@1.2.0-rc`.
func picksOf(t *testing.T, told string) []impl.Pick {
	t.Helper()
	var out []impl.Pick
	for _, e := range regOf(t, told) {
		out = append(out, pick(e.Name, e.V))
	}
	return out
}

func picksAlike(a, b []impl.Pick) bool {
	return slices.EqualFunc(a, b, func(p, q impl.Pick) bool { return p.Name == q.Name && verAlike(p.V, q.V) })
}

// A taker answers, by the other reader of Ranges, what a Need may take, and keeps what it was asked.
type taker struct {
	t     *testing.T
	known map[[2]string]bool
}

func newTaker(t *testing.T) taker { return taker{t, map[[2]string]bool{}} }

func (o taker) mayTake(n impl.Need, v impl.Ver) bool {
	key := [2]string{n.Range, fmt.Sprintf("%q", fmt.Sprint(v.A, v.B, v.C, len(v.Pre), v.Pre))}
	taken, ok := o.known[key]
	if !ok {
		told, read := othersRange(n.Range)
		taken = read && othersVerOk(v) && othersTake(rangeOf(o.t, told), v)
		o.known[key] = taken
	}
	return taken
}

// solves gathers all Needs, and asks each of them of all Picks.
func (o taker) solves(r []impl.Entry, needs []impl.Need, l []impl.Pick) bool {
	all := slices.Clone(needs)
	for i, p := range l {
		e, ok := firstEntry(r, p.Name, p.V)
		if !ok || slices.ContainsFunc(l[:i], func(q impl.Pick) bool { return q.Name == p.Name }) {
			return false
		}
		all = append(all, e.Needs...)
	}
	for _, n := range all {
		if !slices.ContainsFunc(l, func(p impl.Pick) bool { return p.Name == n.Name && o.mayTake(n, p.V) }) {
			return false
		}
	}
	return true
}

// A way is how far a try has come.
type way struct {
	picks []impl.Pick
	left  []impl.Need
}

// solve keeps all ways that are still to be tried on a heap, the next one on top; it tells how many were tried, too.
func (o taker) solve(r []impl.Entry, needs []impl.Need) ([]impl.Pick, int, int) {
	ways, tries := []way{{nil, needs}}, -1 // the beginning is no try
	for len(ways) > 0 {
		w := ways[len(ways)-1]
		ways = ways[:len(ways)-1]
		tries++
		for len(w.left) > 0 && slices.ContainsFunc(w.picks, func(p impl.Pick) bool { return p.Name == w.left[0].Name && o.mayTake(w.left[0], p.V) }) {
			w.left = w.left[1:]
		}
		if len(w.left) == 0 {
			slices.SortFunc(w.picks, func(p, q impl.Pick) int { return strings.Compare(p.Name, q.Name) })
			return w.picks, impl.SolveGood, tries
		}
		n := w.left[0]
		if slices.ContainsFunc(w.picks, func(p impl.Pick) bool { return p.Name == n.Name }) {
			continue
		}
		newest := othersNewest(r, n.Name, othersNewer)
		slices.Reverse(newest)
		for _, e := range newest {
			if o.mayTake(n, e.V) {
				ways = append(ways, way{append(slices.Clone(w.picks), pick(e.Name, e.V)), slices.Concat(w.left[1:], e.Needs)})
			}
		}
	}
	return nil, impl.SolveNone, tries
}

func solveIs(t *testing.T, r []impl.Entry, needs []impl.Need, fuel int, want []impl.Pick, code int) {
	t.Helper()
	if l, c := impl.Solve(r, needs, fuel); c != code || !picksAlike(l, want) {
		t.Errorf("of %v with %d of fuel %v is solved by %v, %d, not by %v, %d", r, fuel, needs, l, c, want, code)
	}
}

// usesFuel wants what is solved with the fuel that it uses and with more, and with less that it is gone first.
func usesFuel(t *testing.T, r []impl.Entry, needs []impl.Need, used int, want []impl.Pick, code int) {
	t.Helper()
	for fuel := range used {
		solveIs(t, r, needs, fuel, nil, impl.SolveFuel)
	}
	for _, fuel := range []int{used, used + 1, used + 2, 2*used + 3, 1000, mostFuel - 1, mostFuel} {
		solveIs(t, r, needs, fuel, want, code)
	}
	for _, fuel := range fuelsThatAreNone() {
		if used == 0 {
			solveIs(t, r, needs, fuel, want, code)
		} else {
			solveIs(t, r, needs, fuel, nil, impl.SolveFuel)
		}
	}
}

func fuelsThatAreNone() []int {
	return []int{-1, -2, -mostFuel, math.MinInt, mostFuel + 1, mostFuel + 2, 2 * mostFuel, 1<<16 + 1000, 1 << 32, 1<<32 + 1000, math.MaxInt}
}

// solvedBy tells all in short, with how many tries it takes; told as `none` there is no way.
func solvedBy(t *testing.T, reg, needs, want string, used int) {
	t.Helper()
	r, asked := regOf(t, reg), needsOf(needs)
	if want == "none" {
		usesFuel(t, r, asked, used, nil, impl.SolveNone)
		return
	}
	picks := picksOf(t, want)
	usesFuel(t, r, asked, used, picks, impl.SolveGood)
	if !impl.Solves(r, asked, picks) {
		t.Errorf("of %s %s does not solve %s", reg, want, needs)
	}
}

func TestSolveCodes(t *testing.T) {
	if codes := []int{impl.SolveGood, impl.SolveNone, impl.SolveFuel, impl.SolveForm}; !slices.Equal(codes, []int{0, 1, 2, 3}) {
		t.Errorf("the codes are %v", codes)
	}
}

func TestSolveOfNoNeeds(t *testing.T) {
	for _, reg := range []string{"", "a@1.0.0", "a@1.0.0:b=1", "a@1.0.0 a@2.0.0:c=1 b@1.0.0"} {
		solvedBy(t, reg, "", "", 0)
	}
	for _, none := range [][]impl.Need{nil, {}} {
		if l, c := impl.Solve(fullReg(t), none, 0); len(l) != 0 || c != impl.SolveGood {
			t.Errorf("no needs are solved by %v, %d", l, c)
		}
		if l, c := impl.Solve(nil, none, 1); len(l) != 0 || c != impl.SolveGood {
			t.Errorf("no needs are solved by %v, %d", l, c)
		}
	}
}

func TestSolveOfOneNeed(t *testing.T) {
	const reg = "a@1.0.0 lib@1.0.0-rc lib@1.0.0 lib@1.2.0 lib@1.10.0 lib@2.0.0-a lib@2.0.0-b lib@3.0.0-9 lib@3.0.0-10 z@0.0.0"
	for text, v := range map[string]string{
		"*": "1.10.0", "<1.10.0": "1.2.0", "^1.0.0": "1.10.0", "~1.2": "1.2.0", "1.0.0": "1.0.0", "<1.2": "1.0.0", "1.0.0-rc": "1.0.0-rc", "<=1.0.0-rc": "1.0.0-rc", ">=1.0.0-a": "1.10.0", "^2.0.0-0": "2.0.0-b", "2.0.0-a": "2.0.0-a", "<2.0.0-b >2.0.0-0": "2.0.0-a",
		">=3.0.0-0": "3.0.0-10", "<3.0.0-10": "3.0.0-9", ">1.10.0 <3.0.0-10": "3.0.0-9", "1.0.0 || 3.0.0-9": "3.0.0-9", "3.0.0-9 || 1.0.0": "3.0.0-9", "4 || 1.2.0": "1.2.0",
	} {
		solvedBy(t, reg, "lib="+text, "lib@"+v, 1)
	}
	solvedBy(t, reg, "a=*", "a@1.0.0", 1)
	solvedBy(t, reg, "z=0", "z@0.0.0", 1)
	for _, text := range []string{"2", "^2.0.0", "3", ">=3.0.0", "0", ">1.10.0", "1.0.0-a", "<1.0.0-a", "^4.0.0-a", "1.3", ">2 <1", "1.2.1"} {
		solvedBy(t, reg, "lib="+text, "none", 0)
	}
}

// TestSolveOfWhatIsNotThere: nothing is tried, so no fuel is asked for.
func TestSolveOfWhatIsNotThere(t *testing.T) {
	for _, reg := range []string{"", "a@1.0.0", "lib@1.0.0 lib@2.0.0"} {
		for _, needs := range []string{"q=*", "li=*", "liba=*", "q=*, a=*", "q=1, q=2", "lib-=*"} {
			solvedBy(t, reg, needs, "none", 0)
		}
	}
	solvedBy(t, "a@1.0.0", "a=*, q=*", "none", 1)
	solvedBy(t, "a@1.0.0 a@2.0.0", "a=*, q=*", "none", 2)
	solvedBy(t, "a@1.0.0 a@2.0.0 b@1.0.0", "a=*, b=*, q=*", "none", 4)
}

// TestElderIsTaken: what is newest leads nowhere.
func TestElderIsTaken(t *testing.T) {
	solvedBy(t, "lib@1.0.0 lib@2.0.0:q=*", "lib=*", "lib@1.0.0", 2)
	solvedBy(t, "lib@1.0.0 lib@2.0.0:q=* lib@3.0.0:q=* lib@4.0.0:q=1", "lib=*", "lib@1.0.0", 4)
	solvedBy(t, "lib@1.0.0 lib@2.0.0:q=* lib@3.0.0:q=* lib@4.0.0:q=1", "lib=<4", "lib@1.0.0", 3)
	solvedBy(t, "lib@1.0.0 lib@2.0.0:log=2 log@1.0.0", "lib=*", "lib@1.0.0", 2)
	solvedBy(t, "lib@1.0.0:log=1 lib@2.0.0:log=2 log@1.0.0", "lib=*", "lib@1.0.0 log@1.0.0", 3)
	solvedBy(t, "lib@1.0.0:log=1 lib@2.0.0:log=* log@1.0.0", "lib=*", "lib@2.0.0 log@1.0.0", 2)
	solvedBy(t, "lib@1.0.0-a lib@1.0.0-b:q=* lib@1.0.0:q=*", "lib=>=1.0.0-0", "lib@1.0.0-a", 3)
	solvedBy(t, "lib@1.0.0:q=* lib@2.0.0:q=*", "lib=*", "none", 2)
	solvedBy(t, "lib@1.0.0:q=* lib@2.0.0:log=1 log@1.0.0:q=*", "lib=*", "none", 3)
	// What the newest led to is not picked any more.
	solvedBy(t, "lib@1.0.0 lib@2.0.0:log=1,q=* log@1.0.0", "lib=*", "lib@1.0.0", 3)
	solvedBy(t, "lib@1.0.0:log=2 lib@2.0.0:log=1,q=* log@1.0.0 log@2.0.0", "lib=*", "lib@1.0.0 log@2.0.0", 4)
	solvedBy(t, "lib@1.0.0 lib@2.0.0:log=1,q=* log@1.0.0 log@2.0.0", "lib=*, log=*", "lib@1.0.0 log@2.0.0", 5)
}

// TestGoneBackFar: what is wrong shows only two and more picks behind the one that must be another.
func TestGoneBackFar(t *testing.T) {
	solvedBy(t, "a@1.0.0 a@2.0.0 b@1.0.0:a=1", "a=*, b=*", "a@1.0.0 b@1.0.0", 4)
	solvedBy(t, "a@1.0.0 a@2.0.0 b@1.0.0 b@2.0.0 c@1.0.0:a=1", "a=*, b=*, c=*", "a@1.0.0 b@2.0.0 c@1.0.0", 8)
	solvedBy(t, "a@1.0.0 a@2.0.0 b@1.0.0 b@2.0.0 c@1.0.0 c@2.0.0 d@1.0.0:a=1", "a=*, b=*, c=*, d=*", "a@1.0.0 b@2.0.0 c@2.0.0 d@1.0.0", 1+2+4+4+4)
	solvedBy(t, "a@1.0.0 a@2.0.0:b=* b@1.0.0:c=* c@1.0.0:d=* d@1.0.0:q=*", "a=*", "a@1.0.0", 5)
	solvedBy(t, "a@1.0.0 a@2.0.0:b=* b@1.0.0:c=* b@2.0.0:c=* c@1.0.0:a=1 c@2.0.0:q=*", "a=*", "a@1.0.0", 8)
	solvedBy(t, "a@1.0.0 a@2.0.0:b=* b@1.0.0 b@2.0.0:c=* c@1.0.0:d=* d@1.0.0:a=1", "a=*", "a@2.0.0 b@1.0.0", 5)
	solvedBy(t, "a@1.0.0:q=* a@2.0.0:b=* b@1.0.0:c=* c@1.0.0:d=* d@1.0.0:a=1", "a=*", "none", 5)
	// The middle one of three must be another, and what was behind it is tried anew.
	solvedBy(t, "a@1.0.0 b@1.0.0 b@2.0.0 c@1.0.0:b=1 c@2.0.0:b=1", "a=*, b=*, c=*", "a@1.0.0 b@1.0.0 c@2.0.0", 6)
}

func TestTwoNeedsOfOneName(t *testing.T) {
	const reg = "a@1.0.0 a@1.5.0 a@2.0.0 a@3.0.0-rc b@1.0.0:a=<2 b@2.0.0:a=1.0.0"
	solvedBy(t, reg, "a=*, a=*", "a@2.0.0", 1)
	solvedBy(t, reg, "a=*, a=^1", "a@1.5.0", 2)
	solvedBy(t, reg, "a=^1, a=*", "a@1.5.0", 1)
	solvedBy(t, reg, "a=*, a=<1.5", "a@1.0.0", 3)
	solvedBy(t, reg, "a=*, a=^1, a=<1.5", "a@1.0.0", 3)
	solvedBy(t, reg, "a=2, a=1", "none", 1)
	solvedBy(t, reg, "a=1, a=2", "none", 2)
	solvedBy(t, reg, "a=*, a=3", "none", 3)
	solvedBy(t, reg, "a=*, a=3.0.0-rc", "none", 3)
	solvedBy(t, reg, "a=3.0.0-rc, a=*", "none", 1)
	solvedBy(t, reg, "a=>=3.0.0-a, a=3.0.0-rc", "a@3.0.0-rc", 1)
	solvedBy(t, reg, "b=*, a=*", "a@1.0.0 b@2.0.0", 4)
	solvedBy(t, reg, "a=*, b=*", "a@1.5.0 b@1.0.0", 6)
	solvedBy(t, reg, "b=*, a=>1 <3, b=1", "none", 4)
	solvedBy(t, reg, "b=*, a=>1.0.0, b=1", "a@1.5.0 b@1.0.0", 6)
}

func TestEntriesThatNeedThemselves(t *testing.T) {
	solvedBy(t, "a@1.0.0:a=*", "a=*", "a@1.0.0", 1)
	solvedBy(t, "a@1.0.0:a=1.0.0", "a=*", "a@1.0.0", 1)
	solvedBy(t, "a@1.0.0:a=2 a@2.0.0:a=1", "a=*", "none", 2)
	solvedBy(t, "a@1.0.0:a=1 a@2.0.0:a=1", "a=*", "a@1.0.0", 2)
	solvedBy(t, "a@1.0.0 a@2.0.0:a=1", "a=2", "none", 1)
	solvedBy(t, "a@1.0.0-b:a=* a@1.0.0-c:a=1.0.0-c", "a=>=1.0.0-a", "a@1.0.0-c", 1)
	solvedBy(t, "a@1.0.0-b:a=*", "a=1.0.0-b", "none", 1)
}

func TestEntriesThatNeedEachOther(t *testing.T) {
	solvedBy(t, "a@1.0.0:b=* b@1.0.0:a=*", "a=*", "a@1.0.0 b@1.0.0", 2)
	solvedBy(t, "a@1.0.0:b=* b@1.0.0:a=*", "b=*, a=*", "a@1.0.0 b@1.0.0", 2)
	solvedBy(t, "a@1.0.0:b=1 a@2.0.0:b=2 b@1.0.0:a=1 b@2.0.0:a=1", "a=*", "a@1.0.0 b@1.0.0", 4)
	solvedBy(t, "a@1.0.0:b=1 a@2.0.0:b=2 b@1.0.0:a=2 b@2.0.0:a=1", "a=*", "none", 4)
	solvedBy(t, "a@1.0.0:b=1 a@2.0.0:b=2 b@1.0.0:a=1 b@2.0.0:a=2", "b=1", "a@1.0.0 b@1.0.0", 2)
	solvedBy(t, "a@1.0.0:b=*,c=* b@1.0.0:a=*,c=* c@1.0.0:a=*,b=*", "c=*", "a@1.0.0 b@1.0.0 c@1.0.0", 3)
	solvedBy(t, "a@1.0.0:b=* b@1.0.0:c=* c@1.0.0:a=2", "a=*", "none", 3)
}

func TestEntriesThatNeedWhatIsNotThere(t *testing.T) {
	solvedBy(t, "a@1.0.0:q=*", "a=*", "none", 1)
	solvedBy(t, "a@1.0.0:b=2 b@1.0.0", "a=*", "none", 1)
	solvedBy(t, "a@1.0.0 a@2.0.0:b=2 b@1.0.0", "a=*, b=*", "a@1.0.0 b@1.0.0", 4)
	solvedBy(t, "a@1.0.0 b@1.0.0:q=*", "a=*", "a@1.0.0", 1)
}

// TestBehindAllThatAreLeft: an Entry's Needs wait until those that were there ahead of them are picked.
func TestBehindAllThatAreLeft(t *testing.T) {
	const reg = "a@1.0.0:b=* b@1.0.0 b@2.0.0:c=1 c@1.0.0 c@2.0.0:b=1"
	solvedBy(t, reg, "a=*, c=*", "a@1.0.0 b@1.0.0 c@2.0.0", 4)
	solvedBy(t, reg, "a=*, b=*, c=*", "a@1.0.0 b@2.0.0 c@1.0.0", 4)
	solvedBy(t, reg, "c=*, a=*", "a@1.0.0 b@1.0.0 c@2.0.0", 3)
	solvedBy(t, reg, "b=*, a=*", "a@1.0.0 b@2.0.0 c@1.0.0", 3)
	// Of two that are picked, the Needs of the first one come first.
	const both = "a@1.0.0:x=* b@1.0.0:y=* x@1.0.0 x@2.0.0:y=1 y@1.0.0 y@2.0.0:x=1"
	solvedBy(t, both, "a=*, b=*", "a@1.0.0 b@1.0.0 x@2.0.0 y@1.0.0", 5)
	solvedBy(t, both, "b=*, a=*", "a@1.0.0 b@1.0.0 x@1.0.0 y@2.0.0", 5)
	// Needs of one Entry are gone through as they stand.
	solvedBy(t, "a@1.0.0:x=*,y=* x@1.0.0 x@2.0.0:y=1 y@1.0.0 y@2.0.0:x=1", "a=*", "a@1.0.0 x@2.0.0 y@1.0.0", 4)
}

// TestOrderOfNeeds: what is needed first is the newest that can be.
func TestOrderOfNeeds(t *testing.T) {
	const reg = "a@1.0.0 a@2.0.0:b=1 a@3.0.0:q=* b@1.0.0 b@2.0.0:a=1 b@3.0.0:q=*"
	solvedBy(t, reg, "a=*, b=*", "a@2.0.0 b@1.0.0", 8)
	solvedBy(t, reg, "b=*, a=*", "a@1.0.0 b@2.0.0", 8)
}

// TestPicksAscend: in whatever order they are picked.
func TestPicksAscend(t *testing.T) {
	r := regOf(t, "a@1.0.0 a-@1.0.0 a0@1.0.0 aa@1.0.0 b@1.0.0 lib@1.0.0 lib-a@1.0.0 z9@1.0.0 zz@1.0.0")
	want := picksOf(t, "a@1.0.0 a-@1.0.0 a0@1.0.0 aa@1.0.0 b@1.0.0 lib@1.0.0 lib-a@1.0.0 z9@1.0.0 zz@1.0.0")
	rnd := rand.New(rand.NewSource(90))
	for range 300 {
		var needs []impl.Need
		for _, i := range rnd.Perm(len(r)) {
			needs = append(needs, need(r[i].Name, "*"))
		}
		solveIs(t, r, needs, len(r), want, impl.SolveGood)
		solveIs(t, r, needs, len(r)-1, nil, impl.SolveFuel)
	}
	solvedBy(t, "a@1.0.0 m@1.0.0:a=* z@1.0.0:m=*", "z=*", "a@1.0.0 m@1.0.0 z@1.0.0", 3)
}

// TestTwelvePicks: as many as a registry has, one leading to the next.
func TestTwelvePicks(t *testing.T) {
	var reg, want []string
	for i := range mostEntries {
		e := fmt.Sprintf("p%02d@1.0.0-a.%d", 11-i, i)
		want = append(want, e)
		if i < mostEntries-1 {
			e += fmt.Sprintf(":p%02d=>=1.0.0-0", 10-i)
		}
		reg = append(reg, e)
	}
	slices.Sort(reg)
	slices.Sort(want)
	solvedBy(t, strings.Join(reg, " "), "p11=1.0.0-a.0", strings.Join(want, " "), mostEntries)
}

// TestManyTries: of all ways none leads to the end, so that all are tried.
func TestManyTries(t *testing.T) {
	const reg = "a@1.0.0 a@2.0.0 a@3.0.0 b@1.0.0 b@2.0.0 b@3.0.0 c@1.0.0 c@2.0.0 c@3.0.0 d@1.0.0 d@2.0.0 e@1.0.0"
	solvedBy(t, reg, "a=*, b=*, c=*, d=*, e=*, q=*", "none", 3+9+27+54+54)
	solvedBy(t, reg, "a=*, b=*, c=*, d=*, e=*, a=1, b=1, c=1, d=1", "a@1.0.0 b@1.0.0 c@1.0.0 d@1.0.0 e@1.0.0", 3+9+27+54+54)
	solvedBy(t, reg, "a=*, b=*, c=*, d=*, e=*", "a@3.0.0 b@3.0.0 c@3.0.0 d@2.0.0 e@1.0.0", 5)
	solvedBy(t, reg, "a=*, b=*, c=*, a=1, b=1, c=1, d=*, e=*", "a@1.0.0 b@1.0.0 c@1.0.0 d@2.0.0 e@1.0.0", 3+9+27+2)
}

// TestFuel: what is told where the last of it is used by the last try.
func TestFuel(t *testing.T) {
	r := regOf(t, "a@1.0.0:q=* a@2.0.0:q=* b@1.0.0")
	solveIs(t, r, needsOf("a=*"), 2, nil, impl.SolveNone)
	solveIs(t, r, needsOf("a=*"), 1, nil, impl.SolveFuel)
	solveIs(t, r, needsOf("a=2"), 1, nil, impl.SolveNone)
	solveIs(t, r, needsOf("a=2"), 0, nil, impl.SolveFuel)
	solveIs(t, r, needsOf("a=3"), 0, nil, impl.SolveNone)
	solveIs(t, r, needsOf("b=*"), 1, picksOf(t, "b@1.0.0"), impl.SolveGood)
	solveIs(t, r, needsOf("b=*"), 0, nil, impl.SolveFuel)
	solveIs(t, r, needsOf("b=*, b=1, b=*"), 1, picksOf(t, "b@1.0.0"), impl.SolveGood)
	solveIs(t, r, needsOf("b=*, b=2"), 1, nil, impl.SolveNone)
	// There is no way, but that is not seen ahead of the first try.
	solveIs(t, r, needsOf("b=*, q=*"), 0, nil, impl.SolveFuel)
	solveIs(t, r, needsOf("q=*, b=*"), 0, nil, impl.SolveNone)
	for _, fuel := range fuelsThatAreNone() {
		solveIs(t, r, needsOf("b=*"), fuel, nil, impl.SolveFuel)
		solveIs(t, r, needsOf("q=*"), fuel, nil, impl.SolveNone)
		solveIs(t, r, nil, fuel, nil, impl.SolveGood)
	}
	solveIs(t, r, needsOf("b=*"), mostFuel, picksOf(t, "b@1.0.0"), impl.SolveGood)
}

// TestManyNeedsOfOneWay: that there are more than 4, that they do not ascend, or that a Name comes again, is no wrong.
func TestManyNeedsOfOneWay(t *testing.T) {
	solvedBy(t, "a@1.0.0 a@2.0.0 b@1.0.0 c@1.0.0 d@1.0.0 e@1.0.0", "e=*, d=*, c=*, b=*, a=*, a=*, e=1, a=<2, d=1.0.0", "a@1.0.0 b@1.0.0 c@1.0.0 d@1.0.0 e@1.0.0", 6)
}
