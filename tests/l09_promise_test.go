package tests

import (
	"math/rand"
	"slices"
	"testing"

	"loop.example/g00464/impl"
)

// eachPicks hands out every list of Picks of r that ascends, with none or one of each Name.
func eachPicks(r []impl.Entry, do func([]impl.Pick)) {
	var names []string
	for _, e := range r {
		if !slices.Contains(names, e.Name) {
			names = append(names, e.Name)
		}
	}
	slices.Sort(names)
	var from func(names []string, l []impl.Pick)
	from = func(names []string, l []impl.Pick) {
		if len(names) == 0 {
			do(l)
			return
		}
		from(names[1:], l)
		for _, e := range r {
			if e.Name == names[0] {
				from(names[1:], append(slices.Clone(l), pick(e.Name, e.V)))
			}
		}
	}
	from(names, nil)
}

// promised holds what Solve answers against all lists of Picks, and Solves against the other one; it tells the code.
func promised(t *testing.T, o taker, r []impl.Entry, needs []impl.Need) int {
	t.Helper()
	l, code := impl.Solve(r, needs, mostFuel)
	good := 0
	eachPicks(r, func(other []impl.Pick) {
		solves := o.solves(r, needs, other)
		if impl.Solves(r, needs, other) != solves {
			t.Fatalf("of %v %v solves %v: %v", r, other, needs, !solves)
		}
		if !solves {
			return
		}
		good++
		if len(needs) == 0 || code != impl.SolveGood {
			return
		}
		for _, p := range other {
			for _, q := range l {
				if p.Name == needs[0].Name && q.Name == p.Name && othersNewer(p.V, q.V) {
					t.Fatalf("of %v %v solves %v, and is newer than %v", r, other, needs, l)
				}
			}
		}
	})
	if code == impl.SolveGood != (good > 0) || code != impl.SolveGood && code != impl.SolveNone {
		t.Fatalf("of %v %v is solved with %d, and there are %d", r, needs, code, good)
	}
	if code == impl.SolveNone {
		if len(l) > 0 {
			t.Fatalf("where there is none there is %v", l)
		}
		return code
	}
	var names []string
	for _, p := range l {
		names = append(names, p.Name)
	}
	if !o.solves(r, needs, l) || !impl.Solves(r, needs, l) || !strictly(names) {
		t.Fatalf("of %v %v does not solve %v", r, l, needs)
	}
	return code
}

// allNeedsOf are the Needs of up to two Names, each of 1, of 2, or not there.
func allNeedsOf() [][]impl.Need {
	var out [][]impl.Need
	for _, a := range []string{"", "a=1", "a=2"} {
		for _, b := range []string{"", ",b=1", ",b=2"} {
			out = append(out, needsOf(a+b))
		}
	}
	return out
}

// TestAllSmallRegistries: two Names of two versions each, with all Needs of each other and of themselves.
func TestAllSmallRegistries(t *testing.T) {
	o, all := newTaker(t), allNeedsOf()
	codes := make([]int, 4)
	for _, a1 := range all {
		for _, a2 := range all {
			for _, b1 := range all {
				for _, b2 := range all {
					r := []impl.Entry{entry("a", ver(1, 0, 0), a1...), entry("a", ver(2, 0, 0), a2...), entry("b", ver(1, 0, 0), b1...), entry("b", ver(2, 0, 0), b2...)}
					codes[promised(t, o, r, needsOf("a=*"))]++
					needs := needsOf("b=*, a=*")
					codes[promised(t, o, r, needs)]++
					want, code, used := o.solve(r, needs)
					solveIs(t, r, needs, used, want, code)
					if used > 0 {
						solveIs(t, r, needs, used-1, nil, impl.SolveFuel)
					}
					if t.Failed() {
						t.FailNow()
					}
				}
			}
		}
	}
	if codes[impl.SolveGood] < 1000 || codes[impl.SolveNone] < 1000 {
		t.Errorf("how many were solved, and how many not: %v", codes)
	}
}

// anyNeeds are of few Names, some of which are in no registry; ascending, where they are an Entry's.
func anyNeeds(r *rand.Rand, names []string, often int) []impl.Need {
	texts := []string{"*", "*", "*", "*", "*", "^1.0.0", "<2", ">=2", "1.0.0", "2", "^1.0.0-a", ">=2.0.0-a", "1 || 3", "3.0.0-b", "<=1.1.0"}
	var out []impl.Need
	for _, name := range names {
		if len(out) < mostNeeds && r.Intn(100) < often {
			out = append(out, need(name, texts[r.Intn(len(texts))]))
		}
	}
	return out
}

// anySmallReg is a right one, of so few Names that all lists of Picks can be gone through.
func anySmallReg(r *rand.Rand) []impl.Entry {
	vers := []impl.Ver{ver(1, 0, 0, "a"), ver(1, 0, 0), ver(1, 1, 0), ver(2, 0, 0, "a"), ver(2, 0, 0), ver(3, 0, 0, "b"), ver(3, 0, 0)}
	names := []string{"a", "b", "c", "d", "e"}[:2+r.Intn(4)]
	needed := slices.Clone(names)
	if r.Intn(3) == 0 {
		needed = append(needed, "q")
	}
	var out []impl.Entry
	for _, name := range names {
		for _, v := range vers {
			if r.Intn(2) == 0 {
				out = append(out, entry(name, v, anyNeeds(r, needed, 5+r.Intn(30))...))
			}
		}
	}
	for len(out) > mostEntries {
		i := r.Intn(len(out))
		out = slices.Delete(out, i, i+1)
	}
	return out
}

func TestManySmallRegistries(t *testing.T) {
	rnd, o := rand.New(rand.NewSource(91)), newTaker(t)
	codes := make([]int, 4)
	for range 2500 {
		r := anySmallReg(rnd)
		needs := anyNeeds(rnd, []string{"a", "b", "c", "b", "a"}, 40)
		rnd.Shuffle(len(needs), func(i, k int) { needs[i], needs[k] = needs[k], needs[i] })
		codes[promised(t, o, r, needs)]++
	}
	if codes[impl.SolveGood] < 500 || codes[impl.SolveNone] < 500 {
		t.Errorf("how many were solved, and how many not: %v", codes)
	}
}

// TestManyWays holds what is found, and how many tries it takes, against another search; with less fuel it is gone first, with more the answer is the same.
func TestManyWays(t *testing.T) {
	rnd, o := rand.New(rand.NewSource(92)), newTaker(t)
	far, codes := 0, make([]int, 4)
	for range 20000 {
		r := anySmallReg(rnd)
		needs := anyNeeds(rnd, []string{"a", "b", "c", "d", "a", "b"}, 40)
		rnd.Shuffle(len(needs), func(i, k int) { needs[i], needs[k] = needs[k], needs[i] })
		want, code, used := o.solve(r, needs)
		codes[code]++
		if used > len(want)+3 {
			far++
		}
		for _, fuel := range []int{0, used - 2, used - 1, rnd.Intn(used + 1)} {
			if 0 <= fuel && fuel < used {
				solveIs(t, r, needs, fuel, nil, impl.SolveFuel)
			}
		}
		for _, fuel := range []int{used, used + 1, used + rnd.Intn(100), mostFuel} {
			solveIs(t, r, needs, fuel, want, code)
		}
		if t.Failed() {
			t.FailNow()
		}
	}
	if codes[impl.SolveGood] < 3000 || codes[impl.SolveNone] < 3000 || far < 1000 {
		t.Errorf("how many were solved, and how many not: %v; far back: %d", codes, far)
	}
}

// TestSolveIsAlwaysTheSame: the answer hangs on no order but that of the lists.
func TestSolveIsAlwaysTheSame(t *testing.T) {
	rnd := rand.New(rand.NewSource(93))
	for range 200 {
		r, needs := anySmallReg(rnd), anyNeeds(rnd, []string{"a", "b", "c", "d"}, 70)
		want, code := impl.Solve(r, needs, mostFuel)
		for range 20 {
			solveIs(t, r, needs, mostFuel, want, code)
		}
	}
}
