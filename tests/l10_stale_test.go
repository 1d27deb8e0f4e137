package tests

import (
	"math/rand"
	"slices"
	"strings"
	"testing"

	"loop.example/g00464/impl"
)

// packsNeeding tells packs in short: of each its Needs, with `;` between packs.
func packsNeeding(told string) []impl.Pack {
	var out []impl.Pack
	for i, needs := range strings.Split(told, ";") {
		out = append(out, packNeeding("p"+oneByte('a'+i), needs))
	}
	return out
}

// wantedOf gathers all Needs, not by Wanted.
func wantedOf(l []impl.Pack) []impl.Need {
	var out []impl.Need
	for _, p := range l {
		out = append(out, p.Needs...)
	}
	return out
}

// stale is told by the other reader, and the other Solves.
func (o taker) stale(r []impl.Entry, l []impl.Pack, s string) bool {
	picks, ok := othersLock(s)
	return !ok || !o.solves(r, wantedOf(l), picks)
}

// renewed is told by the other search.
func (o taker) renewed(r []impl.Entry, l []impl.Pack, s string, fuel int) (string, int) {
	if !o.stale(r, l, s) {
		return s, impl.SolveGood
	}
	if !othersRegOk(r) || slices.ContainsFunc(wantedOf(l), func(n impl.Need) bool { return !othersNeedsOk([]impl.Need{n}) }) {
		return s, impl.SolveForm
	}
	if fuel < 0 || fuel > mostFuel {
		fuel = 0
	}
	picks, code, used := o.solve(r, wantedOf(l))
	if used > fuel {
		return s, impl.SolveFuel
	}
	if code != impl.SolveGood {
		return s, code
	}
	return othersLockText(picks), code
}

func staleOrNot(t *testing.T, reg, needs, s string, want bool) {
	t.Helper()
	r, l := regOf(t, reg), packsNeeding(needs)
	if impl.Stale(r, l, s) != want {
		t.Errorf("of %s %q is stale for %s: %v", reg, s, needs, !want)
	}
	if newTaker(t).stale(r, l, s) != want {
		t.Errorf("the test's own Stale: of %s %q is stale for %s: %v", reg, s, needs, !want)
	}
}

func renewedIs(t *testing.T, r []impl.Entry, l []impl.Pack, s string, fuel int, want string, code int) {
	t.Helper()
	if x, c := impl.Renewed(r, l, s, fuel); x != want || c != code {
		t.Errorf("of %v with %d of fuel %q is renewed for %v as %q, %d, not as %q, %d", r, fuel, s, wantedOf(l), x, c, want, code)
	}
	if x, c := newTaker(t).renewed(r, l, s, fuel); x != want || c != code {
		t.Errorf("the test's own Renewed: of %v with %d of fuel %q is renewed for %v as %q, %d, not as %q, %d", r, fuel, s, wantedOf(l), x, c, want, code)
	}
}

func allFuels() []int { return append(fuelsThatAreNone(), 0, 1, 2, 100, mostFuel-1, mostFuel) }

const regToLock = "lib@1.0.0 lib@1.1.0:log=^1.0.0 lib@2.0.0:log=^2.0.0 log@1.0.0 log@1.2.0 log@2.0.0-rc"

// staleTexts are no locks, though some are near to what solves.
func staleTexts() []string {
	return []string{
		"x", " ", "\n", "@", "old", "lib@1.0.0", "lib@1.0.0\n\n", "\nlib@1.0.0\n", "lib@1.0.0\r\n", " lib@1.0.0\n", "lib@1.0.0 \n", "lib @1.0.0\n", "lib@ 1.0.0\n", "lib@1.0\n", "lib@01.0.0\n", "lib@1.0.0\nlib@1.0.0\n",
		"lib\n", "lib@@1.0.0\n", "lib@1.0.0@\n", "Lib@1.0.0\n", "log@1.2.0\nlib@1.1.0\n", "lib@1.1.0\nlog@1.2.0", "lib@1.1.0 log@1.2.0\n", "\xff", "\x00", "lib@1.0.0\n\x00", strings.Repeat("lib@1.0.0\n", 13),
	}
}

func TestStaleOfTextsThatAreNone(t *testing.T) {
	for _, s := range staleTexts() {
		for _, needs := range []string{"", "lib=*", "lib=^1.0.0;log=*", "q=*"} {
			staleOrNot(t, regToLock, needs, s, true)
			staleOrNot(t, "", needs, s, true)
		}
		if !impl.Stale(nil, nil, s) || !impl.Stale(regOf(t, regToLock), nil, s) {
			t.Errorf("%q is not stale where nothing is wanted", s)
		}
	}
}

func TestStaleOfWhatSolves(t *testing.T) {
	const reg = regToLock
	staleOrNot(t, reg, "lib=^1.0.0", "lib@1.1.0\nlog@1.2.0\n", false)
	staleOrNot(t, reg, "lib=^1.0.0", "lib@1.1.0\nlog@1.0.0\n", false)
	staleOrNot(t, reg, "lib=^1.0.0", "lib@1.0.0\n", false)
	staleOrNot(t, reg, "lib=*", "lib@1.0.0\n", false)
	staleOrNot(t, reg, "log=*", "log@1.0.0\n", false)
	staleOrNot(t, reg, "log=^2.0.0-a", "log@2.0.0-rc\n", false)
	staleOrNot(t, reg, "lib=*;log=*", "lib@1.0.0\nlog@1.0.0\n", false)
	staleOrNot(t, reg, "lib=*;log=*;;lib=^1.0.0,log=1.0.0", "lib@1.1.0\nlog@1.0.0\n", false)
	staleOrNot(t, "a@1.0.0:b=* b@1.0.0:a=*", "a=*", "a@1.0.0\nb@1.0.0\n", false)
}

func TestStaleOfWhatDoesNotSolve(t *testing.T) {
	const reg = regToLock
	staleOrNot(t, reg, "lib=^1.0.0", "", true)
	staleOrNot(t, reg, "lib=^1.0.0", "lib@1.1.0\n", true)
	staleOrNot(t, reg, "lib=^1.0.0", "log@1.2.0\n", true)
	staleOrNot(t, reg, "lib=^1.0.0", "lib@2.0.0\n", true)
	staleOrNot(t, reg, "lib=^1.0.0", "lib@2.0.0\nlog@2.0.0-rc\n", true)
	staleOrNot(t, reg, "lib=*", "lib@2.0.0\nlog@2.0.0-rc\n", true)
	staleOrNot(t, reg, "lib=^1.0.0", "lib@1.1.0\nlog@2.0.0-rc\n", true)
	staleOrNot(t, reg, "lib=^1.0.0", "lib@1.2.0\nlog@1.2.0\n", true)
	staleOrNot(t, reg, "lib=^1.0.0", "lib@1.0.0-rc\n", true)
	staleOrNot(t, reg, "lib=^1.0.0", "lib@1.0.0\nq@1.0.0\n", true)
	staleOrNot(t, reg, "log=*", "log@2.0.0-rc\n", true)
	staleOrNot(t, "", "", "a@1.0.0\n", true)
	staleOrNot(t, "", "a=*", "a@1.0.0\n", true)
	// All packs are asked: the first one, one in the middle, and the last one.
	for _, needs := range []string{"lib=2;log=*;log=1", "log=*;lib=2;log=1", "log=*;log=1;lib=2", "log=*;;lib=1.1.0", "log=*,q=*"} {
		staleOrNot(t, reg, needs, "lib@1.0.0\nlog@1.2.0\n", true)
	}
	staleOrNot(t, reg, "log=*;lib=1;log=1", "lib@1.0.0\nlog@1.2.0\n", false)
}

func TestStaleWhereNothingIsNeeded(t *testing.T) {
	for _, l := range [][]impl.Pack{nil, {}, {{}}, packsNeeding(""), packsNeeding(";;"), packsOf("a b=a c")} {
		for _, reg := range []string{"", regToLock} {
			if impl.Stale(regOf(t, reg), l, "") {
				t.Errorf("nothing is stale, where %v needs nothing", l)
			}
			if !impl.Stale(regOf(t, reg), l, "\n") || !impl.Stale(regOf(t, reg), l, "q@1.0.0\n") {
				t.Errorf("what is no lock, or is not there, is not stale, where %v needs nothing", l)
			}
		}
	}
}

// TestStaleOfPicksNotNeeded: that all are needed Solves does not ask.
func TestStaleOfPicksNotNeeded(t *testing.T) {
	const reg = regToLock
	staleOrNot(t, reg, "", "lib@1.0.0\n", false)
	staleOrNot(t, reg, "", "log@2.0.0-rc\n", false)
	staleOrNot(t, reg, "", "lib@1.1.0\nlog@1.0.0\n", false)
	staleOrNot(t, reg, "lib=1.0.0", "lib@1.0.0\nlog@1.2.0\n", false)
	staleOrNot(t, reg, "lib=1.0.0", "lib@1.0.0\nlog@2.0.0-rc\n", false)
	staleOrNot(t, reg, "log=*", "lib@1.0.0\nlog@1.2.0\n", false)
	// But what they need must be there.
	staleOrNot(t, reg, "", "lib@1.1.0\n", true)
	staleOrNot(t, reg, "log=^2.0.0-a", "lib@1.1.0\nlog@2.0.0-rc\n", true)
}

// TestStaleOfWrongRegistries: Solves does not ask whether they are right, nor whether packs are.
func TestStaleOfWrongRegistries(t *testing.T) {
	staleOrNot(t, "b@1.0.0 a@1.0.0", "a=*", "a@1.0.0\n", false)
	staleOrNot(t, "a@1.0.0 a@1.0.0 a@1.0.0-x", "a=*", "a@1.0.0\n", false)
	staleOrNot(t, "a@1.0.0 A@1.0.0:x=x", "a=*", "a@1.0.0\n", false)
	staleOrNot(t, "a@1.0.0:b=x b@1.0.0", "a=*", "a@1.0.0\nb@1.0.0\n", true)
	staleOrNot(t, "a@1.0.0", "a=x", "a@1.0.0\n", true)
	staleOrNot(t, "A@1.0.0", "A=*", "A@1.0.0\n", true)
	wrong := []impl.Pack{packNeeding("", "b=*,a=*"), packNeeding("P", "a=1"), packNeeding("P", "a=1")}
	if impl.Stale(regOf(t, "a@1.0.0 b@1.0.0"), wrong, "a@1.0.0\nb@1.0.0\n") || !impl.Stale(regOf(t, "a@2.0.0 b@1.0.0"), wrong, "a@2.0.0\nb@1.0.0\n") {
		t.Error("the Needs of wrong packs")
	}
}

// TestRenewedStays: whatever the fuel, and also where a newer version would do.
func TestRenewedStays(t *testing.T) {
	r := regOf(t, regToLock)
	for _, fuel := range allFuels() {
		renewedIs(t, r, packsNeeding("lib=^1.0.0"), "lib@1.0.0\n", fuel, "lib@1.0.0\n", impl.SolveGood)
		renewedIs(t, r, packsNeeding("lib=^1.0.0"), "lib@1.1.0\nlog@1.0.0\n", fuel, "lib@1.1.0\nlog@1.0.0\n", impl.SolveGood)
		renewedIs(t, r, packsNeeding("lib=^1.0.0"), "lib@1.1.0\nlog@1.2.0\n", fuel, "lib@1.1.0\nlog@1.2.0\n", impl.SolveGood)
		renewedIs(t, r, packsNeeding("lib=*;log=*"), "lib@1.0.0\nlog@1.0.0\n", fuel, "lib@1.0.0\nlog@1.0.0\n", impl.SolveGood)
		// What is not needed stays, too.
		renewedIs(t, r, packsNeeding("lib=1.0.0"), "lib@1.0.0\nlog@2.0.0-rc\n", fuel, "lib@1.0.0\nlog@2.0.0-rc\n", impl.SolveGood)
		renewedIs(t, r, packsNeeding(""), "log@1.0.0\n", fuel, "log@1.0.0\n", impl.SolveGood)
		renewedIs(t, r, nil, "lib@1.0.0\n", fuel, "lib@1.0.0\n", impl.SolveGood)
		renewedIs(t, r, nil, "", fuel, "", impl.SolveGood)
		renewedIs(t, nil, nil, "", fuel, "", impl.SolveGood)
		// It is not asked whether Solve would take the registry.
		renewedIs(t, regOf(t, "b@1.0.0 a@1.0.0"), packsNeeding("a=*"), "a@1.0.0\n", fuel, "a@1.0.0\n", impl.SolveGood)
		renewedIs(t, []impl.Entry{{}}, nil, "", fuel, "", impl.SolveGood)
	}
}

func TestRenewedAnew(t *testing.T) {
	r := regOf(t, regToLock)
	for _, s := range append(staleTexts(), "", "lib@2.0.0\n", "lib@1.1.0\n", "lib@1.1.0\nlog@2.0.0-rc\n", "lib@1.2.0\n", "lib@1.0.0\nq@1.0.0\n") {
		l := packsNeeding("lib=^1.0.0")
		for _, fuel := range []int{2, 3, 100, mostFuel - 1, mostFuel} {
			renewedIs(t, r, l, s, fuel, "lib@1.1.0\nlog@1.2.0\n", impl.SolveGood)
		}
		renewedIs(t, r, packsNeeding("lib=*"), s, 3, "lib@1.1.0\nlog@1.2.0\n", impl.SolveGood)
		renewedIs(t, r, packsNeeding("log=1.0.0;lib=^1.0.0"), s, mostFuel, "lib@1.1.0\nlog@1.0.0\n", impl.SolveGood)
		renewedIs(t, r, packsNeeding("log=^2.0.0-a;lib=>=1"), s, mostFuel, "lib@1.0.0\nlog@2.0.0-rc\n", impl.SolveGood)
	}
	renewedIs(t, r, packsNeeding("lib=<1.1.0"), "lib@1.1.0\nlog@1.2.0\n", 1, "lib@1.0.0\n", impl.SolveGood)
	renewedIs(t, r, packsNeeding("lib=1.1.0"), "lib@1.0.0\n", 2, "lib@1.1.0\nlog@1.2.0\n", impl.SolveGood)
}

func TestRenewedWhereThereIsNoWay(t *testing.T) {
	r := regOf(t, regToLock)
	for _, s := range append(staleTexts(), "", "lib@1.0.0\n", "lib@1.1.0\n", "lib@2.0.0\nlog@2.0.0-rc\n") {
		renewedIs(t, r, packsNeeding("lib=^2.0.0"), s, mostFuel, s, impl.SolveNone)
		renewedIs(t, r, packsNeeding("lib=*;q=*"), s, mostFuel, s, impl.SolveNone)
		renewedIs(t, r, packsNeeding("log=1.0.0;log=1.2.0"), s, 1, s, impl.SolveNone)
		renewedIs(t, r, packsNeeding("log=1.0.0;log=1.2.0"), s, 0, s, impl.SolveFuel)
		for _, fuel := range allFuels() {
			renewedIs(t, r, packsNeeding("q=*"), s, fuel, s, impl.SolveNone)
			renewedIs(t, nil, packsNeeding("lib=*"), s, fuel, s, impl.SolveNone)
		}
	}
}

func TestRenewedWithoutFuel(t *testing.T) {
	r, l := regOf(t, regToLock), packsNeeding("lib=*")
	for _, s := range append(staleTexts(), "", "lib@1.1.0\n") {
		for _, fuel := range append(fuelsThatAreNone(), 0, 1, 2) {
			renewedIs(t, r, l, s, fuel, s, impl.SolveFuel)
		}
		for _, fuel := range []int{3, 4, mostFuel - 1, mostFuel} {
			renewedIs(t, r, l, s, fuel, "lib@1.1.0\nlog@1.2.0\n", impl.SolveGood)
		}
	}
}

func TestRenewedOfWrongForm(t *testing.T) {
	for _, s := range append(staleTexts(), "", "a@1.0.0-q\n", "q@1.0.0\n") {
		for _, fuel := range allFuels() {
			for _, reg := range []string{"b@1.0.0 a@1.0.0", "a@2.0.0 a@1.0.0", "a@1.0.0 a@1.0.0", "A@1.0.0", "a@1.0.0:b=x"} {
				renewedIs(t, regOf(t, reg), packsNeeding("a=*"), s, fuel, s, impl.SolveForm)
			}
			for _, needs := range []string{"a=x", "a=", "A=*", "a=*;b=x", "a=                    *"} {
				renewedIs(t, regOf(t, "a@1.0.0 a@2.0.0"), packsNeeding(needs), s, fuel, s, impl.SolveForm)
			}
		}
	}
	// Where nothing is needed, but the registry is wrong, and what is there is no lock.
	renewedIs(t, []impl.Entry{{}}, nil, "x", mostFuel, "x", impl.SolveForm)
	renewedIs(t, numberedReg(mostEntries+1), nil, "x", mostFuel, "x", impl.SolveForm)
}

// numberedReg has n Entries, of as many Names, each of which needs the one behind it.
func numberedReg(n int) []impl.Entry {
	var out []impl.Entry
	for i, p := range numberedPicks(n) {
		e := entry(p.Name, p.V)
		if i+1 < n {
			e.Needs = []impl.Need{need(numberedPicks(n)[i+1].Name, "*")}
		}
		out = append(out, e)
	}
	return out
}

// TestRenewedOfNoNeeds: LockText of nothing is nothing.
func TestRenewedOfNoNeeds(t *testing.T) {
	for _, l := range [][]impl.Pack{nil, {}, {{}}, packsNeeding(";"), packsOf("a b=a")} {
		for _, fuel := range allFuels() {
			for _, s := range append(staleTexts(), "q@1.0.0\n", "lib@1.1.0\n") {
				renewedIs(t, regOf(t, regToLock), l, s, fuel, "", impl.SolveGood)
				renewedIs(t, nil, l, s, fuel, "", impl.SolveGood)
			}
			renewedIs(t, regOf(t, regToLock), l, "", fuel, "", impl.SolveGood)
		}
	}
}

// TestTwelveRenewed: as many Picks as there can be.
func TestTwelveRenewed(t *testing.T) {
	r, l := numberedReg(mostEntries), packsNeeding("p000=*")
	want := othersLockText(numberedPicks(mostPicks))
	renewedIs(t, r, l, "", mostEntries, want, impl.SolveGood)
	renewedIs(t, r, l, "", mostEntries-1, "", impl.SolveFuel)
	renewedIs(t, r, l, want, 0, want, impl.SolveGood)
	renewedIs(t, r, l, want+"q@1.0.0\n", mostEntries, want, impl.SolveGood)
	renewedIs(t, r, l, strings.TrimSuffix(want, "\n"), mostEntries, want, impl.SolveGood)
}

// anyPacksNeeding are up to 3 packs, with Needs of few Names.
func anyPacksNeeding(r *rand.Rand) []impl.Pack {
	var out []impl.Pack
	for i := range r.Intn(4) {
		out = append(out, impl.Pack{Name: "p" + oneByte('a'+i), Needs: anyNeeds(r, []string{"a", "b", "c", "d"}, 30)})
	}
	if len(out) > 0 && r.Intn(20) == 0 {
		p := &out[r.Intn(len(out))]
		p.Needs = append(p.Needs, wrongNeeds()[r.Intn(len(wrongNeeds()))])
	}
	return out
}

// anyLockOf is a text of Picks of r, or near to one.
func anyLockOf(rnd *rand.Rand, r []impl.Entry) string {
	var l []impl.Pick
	for _, e := range r {
		if rnd.Intn(3) == 0 && (len(l) == 0 || l[len(l)-1].Name != e.Name) {
			l = append(l, pick(e.Name, e.V))
		}
	}
	s := othersLockText(l)
	switch rnd.Intn(12) {
	case 0:
		return strings.TrimSuffix(s, "\n")
	case 1:
		return s + "zz@1.0.0\n"
	case 2:
		return s + "\n"
	}
	return s
}

// TestManyRenewed holds Stale and Renewed against the others; what is renewed well is not stale, and stays.
func TestManyRenewed(t *testing.T) {
	rnd, o := rand.New(rand.NewSource(103)), newTaker(t)
	stays, anew, codes := 0, 0, make([]int, 4)
	for range 20000 {
		r, l := anySmallReg(rnd), anyPacksNeeding(rnd)
		if len(r) > 1 && rnd.Intn(20) == 0 {
			r[0], r[1] = r[1], r[0]
		}
		s := anyLockOf(rnd, r)
		fuel := []int{-1, 0, 1, 2, 3, 5, 8, mostFuel, mostFuel, mostFuel, mostFuel, mostFuel + 1}[rnd.Intn(12)]
		stale := o.stale(r, l, s)
		want, code := o.renewed(r, l, s, fuel)
		got, c := impl.Renewed(r, l, s, fuel)
		if impl.Stale(r, l, s) != stale || got != want || c != code {
			t.Fatalf("of %v with %d of fuel %q is renewed for %v as %q, %d, not as %q, %d", r, fuel, s, wantedOf(l), got, c, want, code)
		}
		codes[code]++
		if !stale {
			stays++
		}
		if code != impl.SolveGood {
			continue
		}
		if stale {
			anew++
		}
		if impl.Stale(r, l, got) {
			t.Fatalf("of %v %q is stale for %v as soon as it is renewed", r, got, wantedOf(l))
		}
		for _, fuel := range []int{-1, 0, mostFuel} {
			if again, c := impl.Renewed(r, l, got, fuel); again != got || c != impl.SolveGood {
				t.Fatalf("of %v %q is renewed once more for %v as %q, %d", r, got, wantedOf(l), again, c)
			}
		}
	}
	if stays < 1000 || anew < 1000 || slices.Min(codes) < 200 {
		t.Errorf("how many stay: %d; anew: %d; by codes: %v", stays, anew, codes)
	}
}

func TestGreatStale(t *testing.T) {
	const n = 200000
	r := regOf(t, "a@1.0.0 b@1.0.0")
	l := slices.Repeat([]impl.Pack{packNeeding("p", "a=*,b=1")}, n)
	if impl.Stale(r, l, "a@1.0.0\nb@1.0.0\n") || !impl.Stale(r, append(slices.Clone(l), packNeeding("q", "b=2")), "a@1.0.0\nb@1.0.0\n") {
		t.Error("many packs, and what is stale")
	}
	if s, c := impl.Renewed(r, l, "", 2); s != "a@1.0.0\nb@1.0.0\n" || c != impl.SolveGood {
		t.Error("many packs, and what is renewed", s, c)
	}
	long := strings.Repeat("a@1.0.0\n", n)
	if s, c := impl.Renewed(r, l, long, 1); s != long || c != impl.SolveFuel {
		t.Error("a great text does not stay", c)
	}
	if s, c := impl.Renewed(r, l, long, 2); s != "a@1.0.0\nb@1.0.0\n" || c != impl.SolveGood {
		t.Error("a great text is not renewed", c)
	}
}
