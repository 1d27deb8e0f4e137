package tests

import (
	"math/rand"
	"slices"
	"strings"
	"testing"

	"loop.example/g00464/impl"
)

func pickIs(t *testing.T, l []impl.Pick, name string, want impl.Ver) {
	t.Helper()
	if v, ok := impl.PickOf(l, name); !ok || !verAlike(v, want) {
		t.Errorf("in %v %q is %v, %v", l, name, v, ok)
	}
}

func noPick(t *testing.T, l []impl.Pick, name string) {
	t.Helper()
	if v, ok := impl.PickOf(l, name); ok || !verAlike(v, impl.Ver{}) {
		t.Errorf("in %v there is %q: %v, %v", l, name, v, ok)
	}
}

func TestPickOf(t *testing.T) {
	noPick(t, nil, "a")
	noPick(t, nil, "")
	noPick(t, []impl.Pick{}, "a")
	l := picksOf(t, "a@1.0.0 lib@1.2.3-rc.1 lib-a@0.0.0 log@9999.9999.9999")
	for _, p := range l {
		pickIs(t, l, p.Name, p.V)
		pickIs(t, []impl.Pick{p}, p.Name, p.V)
	}
	for _, name := range []string{"", "b", "li", "lib-", "libb", "LIB", "log ", "a@1.0.0", "z", strings.Repeat("a", 100000)} {
		noPick(t, l, name)
		noPick(t, l[:1], name)
	}
}

// TestPickOfOneNameTwice: the first one counts, in whatever order they stand.
func TestPickOfOneNameTwice(t *testing.T) {
	l := picksOf(t, "b@3.0.0 a@1.0.0 b@4.0.0 a@2.0.0-x a@1.0.0")
	pickIs(t, l, "a", ver(1, 0, 0))
	pickIs(t, l, "b", ver(3, 0, 0))
	slices.Reverse(l)
	pickIs(t, l, "a", ver(1, 0, 0))
	pickIs(t, l, "b", ver(4, 0, 0))
	pickIs(t, l[1:], "a", ver(2, 0, 0, "x"))
	pickIs(t, picksOf(t, "a@0.0.0 a@1.0.0"), "a", impl.Ver{})
	// What is no name, or no version, is found as it stands.
	for _, v := range wrongVers() {
		wrong := []impl.Pick{pick("", v), pick("No name", v), pick("a", v), pick("a", ver(1, 0, 0)), pick("", ver(1, 0, 0))}
		for _, name := range []string{"", "No name", "a"} {
			pickIs(t, wrong, name, v)
		}
		noPick(t, wrong, "b")
	}
}

// solvesOrNot holds Solves against what is told, and against the other one.
func solvesOrNot(t *testing.T, reg, needs, picks string, want bool) {
	t.Helper()
	r, asked, l := regOf(t, reg), needsOf(needs), picksOf(t, picks)
	if impl.Solves(r, asked, l) != want {
		t.Errorf("of %s %s solves %s: %v", reg, picks, needs, !want)
	}
	if newTaker(t).solves(r, asked, l) != want {
		t.Errorf("the test's own Solves: of %s %s solves %s: %v", reg, picks, needs, !want)
	}
}

const regToSolve = "a@1.0.0 a@1.1.0-rc a@1.1.0 a@2.0.0 b@1.0.0:a=^1.0.0 b@2.0.0:a=^2.0.0,c=* b@3.0.0:b=3,q=* c@1.0.0-x:a=>=1.1.0-a c@1.0.0"

func TestSolvesNeeds(t *testing.T) {
	const reg = regToSolve
	solvesOrNot(t, "", "", "", true)
	solvesOrNot(t, reg, "", "", true)
	solvesOrNot(t, reg, "a=*", "", false)
	solvesOrNot(t, "", "a=*", "", false)
	solvesOrNot(t, reg, "a=*", "a@1.0.0", true)
	solvesOrNot(t, reg, "a=*", "a@2.0.0", true)
	solvesOrNot(t, reg, "a=^1.0.0", "a@2.0.0", false)
	solvesOrNot(t, reg, "a=^1.0.0", "a@1.1.0", true)
	solvesOrNot(t, reg, "a=*, a=*", "a@1.1.0", true)
	solvesOrNot(t, reg, "a=*, a=^1", "a@2.0.0", false)
	solvesOrNot(t, reg, "a=^1, a=*", "a@2.0.0", false)
	solvesOrNot(t, reg, "a=1, a=2", "a@1.0.0", false)
	solvesOrNot(t, reg, "a=1, a=2", "a@2.0.0", false)
	solvesOrNot(t, reg, "a=*, c=*", "a@1.0.0", false)
	solvesOrNot(t, reg, "c=*, a=*", "a@1.0.0", false)
	solvesOrNot(t, reg, "a=*, c=*", "a@1.0.0 c@1.0.0", true)
	solvesOrNot(t, reg, "c=*, a=*", "a@1.0.0 c@1.0.0", true)
	solvesOrNot(t, reg, "q=*", "a@1.0.0", false)
	solvesOrNot(t, reg, "q=*", "", false)
	// The Pick must be of the Need's own Name.
	solvesOrNot(t, reg, "c=2", "a@2.0.0 c@1.0.0", false)
	solvesOrNot(t, reg, "a=2, c=1", "a@1.0.0 c@1.0.0", false)
}

func TestSolvesVersionsWithPre(t *testing.T) {
	const reg = regToSolve
	solvesOrNot(t, reg, "a=*", "a@1.1.0-rc", false)
	solvesOrNot(t, reg, "a=^1.0.0", "a@1.1.0-rc", false)
	solvesOrNot(t, reg, "a=1.1.0-rc", "a@1.1.0-rc", true)
	solvesOrNot(t, reg, "a=^1.1.0-a", "a@1.1.0-rc", true)
	solvesOrNot(t, reg, "a=^1.1.0-s", "a@1.1.0-rc", false)
	solvesOrNot(t, reg, "", "a@1.1.0-rc", true)
	solvesOrNot(t, reg, "", "a@1.1.0-rd", false)
	solvesOrNot(t, reg, "", "a@1.1.0-rc.0", false)
	solvesOrNot(t, reg, "c=1.0.0-x", "a@1.1.0-rc c@1.0.0-x", true)
	solvesOrNot(t, reg, "c=1.0.0-x", "a@1.0.0 c@1.0.0-x", false)
	solvesOrNot(t, reg, "c=1", "a@1.1.0-rc c@1.0.0-x", false)
	solvesOrNot(t, reg, "b=1", "a@1.1.0-rc b@1.0.0", false)
}

func TestSolvesNeedsOfEntries(t *testing.T) {
	const reg = regToSolve
	solvesOrNot(t, reg, "b=1", "b@1.0.0", false)
	solvesOrNot(t, reg, "b=1", "a@1.0.0 b@1.0.0", true)
	solvesOrNot(t, reg, "b=1", "a@1.1.0 b@1.0.0", true)
	solvesOrNot(t, reg, "b=1", "a@2.0.0 b@1.0.0", false)
	solvesOrNot(t, reg, "b=*", "a@2.0.0 b@2.0.0", false)
	solvesOrNot(t, reg, "b=*", "b@2.0.0 c@1.0.0", false)
	solvesOrNot(t, reg, "b=*", "a@2.0.0 b@2.0.0 c@1.0.0", true)
	solvesOrNot(t, reg, "b=*", "a@1.0.0 b@2.0.0 c@1.0.0", false)
	solvesOrNot(t, reg, "b=*", "b@3.0.0", false)
	solvesOrNot(t, reg, "", "b@1.0.0", false)
	solvesOrNot(t, reg, "a=*", "a@1.0.0 b@2.0.0 c@1.0.0", false)
	solvesOrNot(t, "a@1.0.0:a=1 a@2.0.0:a=1", "a=*", "a@1.0.0", true)
	solvesOrNot(t, "a@1.0.0:a=1 a@2.0.0:a=1", "a=*", "a@2.0.0", false)
	solvesOrNot(t, "a@1.0.0:b=1 b@1.0.0:a=1", "a=*", "a@1.0.0 b@1.0.0", true)
	solvesOrNot(t, "a@1.0.0:b=1 b@1.0.0:a=2", "a=*", "a@1.0.0 b@1.0.0", false)
	// An Entry that is not picked is not asked, nor one of the same Name.
	solvesOrNot(t, "a@1.0.0 a@2.0.0:q=*", "a=*", "a@1.0.0", true)
	solvesOrNot(t, "a@1.0.0 a@2.0.0:q=*", "a=*", "a@2.0.0", false)
	// Each Need of each Entry: the last one of the last one, too.
	solvesOrNot(t, "a@1.0.0:b=*,c=*,d=1 b@1.0.0 c@1.0.0 d@1.0.0:a=*,b=*,c=1", "", "a@1.0.0 b@1.0.0 c@1.0.0 d@1.0.0", true)
	solvesOrNot(t, "a@1.0.0:b=*,c=*,d=1 b@1.0.0 c@1.0.0 d@1.0.0:a=*,b=*,c=2", "", "a@1.0.0 b@1.0.0 c@1.0.0 d@1.0.0", false)
	solvesOrNot(t, "a@1.0.0:b=2,c=*,d=1 b@1.0.0 c@1.0.0 d@1.0.0:a=*,b=*,c=1", "", "a@1.0.0 b@1.0.0 c@1.0.0 d@1.0.0", false)
}

func TestSolvesPicksNotOfTheRegistry(t *testing.T) {
	const reg = regToSolve
	for _, picks := range []string{"a@3.0.0", "a@1.0.1", "a@1.1.1", "a@0.0.0", "a@1.0.0-rc", "q@1.0.0", "aa@1.0.0", "c@2.0.0", "c@1.0.0-y", "a@2.0.0-rc"} {
		solvesOrNot(t, reg, "", picks, false)
		solvesOrNot(t, "", "", picks, false)
	}
	solvesOrNot(t, reg, "a=*", "a@3.0.0", false)
	solvesOrNot(t, reg, "a=*", "a@1.0.0 q@1.0.0", false)
	solvesOrNot(t, reg, "a=*", "a@1.0.0 a-@1.0.0", false)
	solvesOrNot(t, reg, "c=*", "a@3.0.0 c@1.0.0", false)
	solvesOrNot(t, "a@1.0.0", "a=*", "a@1.0.0", true)
	solvesOrNot(t, "", "a=*", "a@1.0.0", false)
}

// TestSolvesPicksNotNeeded: that all are needed is not asked.
func TestSolvesPicksNotNeeded(t *testing.T) {
	const reg = regToSolve
	solvesOrNot(t, reg, "", "a@1.0.0", true)
	solvesOrNot(t, reg, "", "a@2.0.0 b@2.0.0 c@1.0.0", true)
	solvesOrNot(t, reg, "a=*", "a@1.0.0 b@1.0.0 c@1.0.0", true)
	solvesOrNot(t, reg, "a=*", "a@2.0.0 b@1.0.0 c@1.0.0", false)
}

func TestSolvesOneNameTwice(t *testing.T) {
	const reg = regToSolve
	for _, picks := range []string{"a@1.0.0 a@1.0.0", "a@1.0.0 a@2.0.0", "a@2.0.0 a@1.0.0", "a@1.0.0 c@1.0.0 a@1.0.0", "a@1.0.0 c@1.0.0 a@2.0.0", "c@1.0.0 a@1.0.0 a@1.1.0", "a@1.0.0 c@1.0.0 c@1.0.0", "a@1.0.0 a@1.0.0 a@1.0.0"} {
		for _, needs := range []string{"", "a=*", "a=1.0.0", "a=1, a=2"} {
			solvesOrNot(t, reg, needs, picks, false)
		}
	}
}

// TestSolvesPicksNotInOrder: just that no Name comes twice is asked.
func TestSolvesPicksNotInOrder(t *testing.T) {
	r, good, bad := regOf(t, regToSolve), picksOf(t, "a@2.0.0 b@2.0.0 c@1.0.0"), picksOf(t, "a@2.0.0 b@1.0.0 c@1.0.0")
	for _, needs := range []string{"", "b=*", "c=*, a=2", "a=*, b=*, c=*"} {
		eachOrder(good, func(l []impl.Pick) {
			if !impl.Solves(r, needsOf(needs), l) {
				t.Errorf("%v does not solve %s", l, needs)
			}
		})
		eachOrder(bad, func(l []impl.Pick) {
			if impl.Solves(r, needsOf(needs), l) {
				t.Errorf("%v solves %s", l, needs)
			}
		})
	}
}

// TestSolvesOfWhatIsWrong: no answer is named for that, so the words hold: what is there is found, and a Need takes what its Range takes.
func TestSolvesOfWhatIsWrong(t *testing.T) {
	for _, v := range wrongVers() {
		r, l := []impl.Entry{entry("a", v), entry("", v, need("a", "*"))}, []impl.Pick{pick("a", v)}
		if !impl.Solves(r, nil, l) {
			t.Errorf("%v is not there", v)
		}
		if impl.Solves(r, needsOf("a=*"), l) || impl.Solves(r, needsOf("a=>=1.2.3-0"), l) || impl.Solves(r, nil, append(l, pick("", v))) || impl.Solves(nil, nil, l) || impl.Solves(regOf(t, regToSolve), nil, l) {
			t.Errorf("%v is taken", v)
		}
	}
	solvesOrNot(t, "a@1.0.0", "a=x", "a@1.0.0", false)
	solvesOrNot(t, "a@1.0.0", "a=", "a@1.0.0", false)
	solvesOrNot(t, "a@1.0.0:b=x b@1.0.0", "a=*", "a@1.0.0 b@1.0.0", false)
	solvesOrNot(t, "No_name@1.0.0", "No_name=*", "No_name@1.0.0", true)
	solvesOrNot(t, "@1.0.0", "=*", "@1.0.0", true)
	solvesOrNot(t, "a@1.0.0", "a=                              1", "a@1.0.0", true)
	// Of two that are alike the first one counts.
	solvesOrNot(t, "b@1.0.0 a@1.0.0:b=1 a@1.0.0:b=2", "a=*", "a@1.0.0 b@1.0.0", true)
	solvesOrNot(t, "b@1.0.0 a@1.0.0:b=2 a@1.0.0:b=1", "a=*", "a@1.0.0 b@1.0.0", false)
	// More than 4 Needs, more than 12 Entries, not in order.
	solvesOrNot(t, "f@1.0.0 a@1.0.0:f=*,e=*,d=*,c=*,b=* b@1.0.0 c@1.0.0 d@1.0.0 e@1.0.0 g@1.0.0 g@1.0.0 g@1.0.0 g@1.0.0 g@1.0.0 g@1.0.0 g@1.0.0", "a=*", "a@1.0.0 b@1.0.0 c@1.0.0 d@1.0.0 e@1.0.0 f@1.0.0", true)
	solvesOrNot(t, "f@1.0.0 a@1.0.0:f=*,e=*,d=*,c=*,b=2 b@1.0.0 c@1.0.0 d@1.0.0 e@1.0.0", "a=*", "a@1.0.0 b@1.0.0 c@1.0.0 d@1.0.0 e@1.0.0 f@1.0.0", false)
}

// TestManySolves takes Picks of registries, right ones and wrong ones, near to what solves.
func TestManySolves(t *testing.T) {
	rnd, o := rand.New(rand.NewSource(94)), newTaker(t)
	right := 0
	const tries = 40000
	for range tries {
		r := anySmallReg(rnd)
		if rnd.Intn(3) == 0 {
			r = append(r, anyReg(rnd)...)
		}
		needs := anyNeeds(rnd, []string{"a", "b", "a", "lib"}, 10)
		var l []impl.Pick
		for range rnd.Intn(4) {
			if len(r) > 0 {
				e := r[rnd.Intn(len(r))]
				l = append(l, pick(e.Name, e.V))
			}
		}
		if len(l) > 0 && rnd.Intn(12) == 0 {
			l[rnd.Intn(len(l))].V.A++
		}
		want := o.solves(r, needs, l)
		if want && len(l) > 0 {
			right++
		}
		if impl.Solves(r, needs, l) != want {
			t.Fatalf("of %v %v solves %v: %v", r, l, needs, !want)
		}
	}
	if right < tries/40 || right > tries*9/10 {
		t.Errorf("of %d %d were solved", tries, right)
	}
}

func wantedAre(t *testing.T, l []impl.Pack, want []impl.Need) {
	t.Helper()
	if got := impl.Wanted(l); !slices.Equal(got, want) {
		t.Errorf("of %q %q is wanted, not %q", l, got, want)
	}
}

func packNeeding(name, needs string) impl.Pack { return impl.Pack{Name: name, Needs: needsOf(needs)} }

func TestWanted(t *testing.T) {
	wantedAre(t, nil, nil)
	wantedAre(t, []impl.Pack{}, nil)
	wantedAre(t, packsOf("a b=a c"), nil)
	wantedAre(t, []impl.Pack{{}}, nil)
	wantedAre(t, []impl.Pack{packNeeding("a", "x=*")}, needsOf("x=*"))
	wantedAre(t, []impl.Pack{packNeeding("a", "x=*,y=1"), packNeeding("b", "a=2")}, needsOf("x=*,y=1,a=2"))
	wantedAre(t, []impl.Pack{packNeeding("a", ""), packNeeding("b", "x=1 || 2"), packNeeding("c", ""), packNeeding("d", "y=~1"), packNeeding("e", "")}, needsOf("x=1 || 2,y=~1"))
	wantedAre(t, []impl.Pack{fullPack(), packNeeding("z", "lib=2")}, append(slices.Clone(fullPack().Needs), need("lib", "2")))
	// Two packs with a Need of one Name: both are wanted, also where they are the same.
	wantedAre(t, []impl.Pack{packNeeding("a", "x=^1"), packNeeding("b", "x=^2")}, needsOf("x=^1,x=^2"))
	wantedAre(t, []impl.Pack{packNeeding("a", "x=^1"), packNeeding("b", "x=^1")}, needsOf("x=^1,x=^1"))
	wantedAre(t, []impl.Pack{packNeeding("a", "x=^1,y=1"), packNeeding("b", "w=1,x=^1")}, needsOf("x=^1,y=1,w=1,x=^1"))
	// As many as packs can have.
	var six []impl.Pack
	var want []impl.Need
	for _, name := range []string{"a", "b", "c", "d", "e", "f"} {
		needs := "w=1,x=2,y=3,z-" + name + "=4"
		six, want = append(six, packNeeding(name, needs)), append(want, needsOf(needs)...)
	}
	wantedAre(t, six, want)
	if !impl.PacksOk(six) || len(want) != 24 {
		t.Error("they are not as many as can be")
	}
}

// TestWantedOfWrongPacks: no answer is named for these, so all their Needs are wanted as they stand.
func TestWantedOfWrongPacks(t *testing.T) {
	wantedAre(t, []impl.Pack{packNeeding("b", "y=1,x=1"), packNeeding("a", "x=q"), packNeeding("a", "=,X=1")}, needsOf("y=1,x=1,x=q,=,X=1"))
	wantedAre(t, []impl.Pack{{Needs: []impl.Need{{}, {}}}}, []impl.Need{{}, {}})
	rnd := rand.New(rand.NewSource(95))
	for range 2000 {
		var l []impl.Pack
		var want []impl.Need
		for range rnd.Intn(9) {
			p := anyPack(rnd)
			l, want = append(l, p), append(want, p.Needs...)
		}
		wantedAre(t, l, want)
	}
}

// TestWantedIsSolved: what packs need goes as it stands into Solve.
func TestWantedIsSolved(t *testing.T) {
	l := []impl.Pack{packNeeding("app", "lib=*"), packNeeding("base", "log=1.0.0"), packNeeding("c", "")}
	r := regOf(t, "lib@1.0.0 lib@1.1.0:log=^1.0.0 lib@2.0.0:log=^2.0.0 log@1.0.0 log@1.2.0 log@2.0.0-rc")
	solveIs(t, r, impl.Wanted(l), mostFuel, picksOf(t, "lib@1.1.0 log@1.0.0"), impl.SolveGood)
	slices.Reverse(l)
	solveIs(t, r, impl.Wanted(l), mostFuel, picksOf(t, "lib@1.1.0 log@1.0.0"), impl.SolveGood)
}
