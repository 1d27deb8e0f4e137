package tests

import (
	"slices"
	"testing"

	"loop.example/g00464/impl"
)

// loosePicks has l over memory that can be turned, and spare room behind all its lists, with what would be found there.
func loosePicks(l []impl.Pick) ([]impl.Pick, func()) {
	out := slices.Repeat([]impl.Pick{pick("spare", ver(1, 0, 0))}, len(l)+3)
	var turns []func()
	for i, p := range l {
		name, turnName := looseText(p.Name)
		v, turnVer := looseVer(p.V)
		out[i], turns = pick(name, v), append(turns, turnName, turnVer)
	}
	out = out[:len(l)]
	return out, func() {
		for _, turn := range turns {
			turn()
		}
		scribblePicks(out)
	}
}

// scribblePicks writes into all lists of l, and into the room behind them.
func scribblePicks(l []impl.Pick) {
	for _, p := range l {
		scribbleTexts(p.V.Pre)
	}
	l = l[:cap(l)]
	for i := range l {
		l[i] = pick("scribble", preVer("scribble"))
	}
}

// picksWithRoom has all of l, its spare room as if it were a part of it.
func picksWithRoom(l []impl.Pick) []impl.Pick {
	out := slices.Clone(l[:cap(l)])
	for i, p := range out {
		out[i].V.Pre = slices.Clone(p.V.Pre[:cap(p.V.Pre)])
	}
	return out
}

// A question is what Solve and Solves are asked, told in short.
type question struct{ reg, needs, picks string }

// questions are such as have a way, have none, and are refused; in the spare room behind each list lies what would turn the answer.
func questions() []question {
	return []question{
		{"", "", ""},
		{"a@1.0.0", "", "a@1.0.0"},
		{"a@1.0.0-x.1 a@1.0.0", "a=1.0.0-x.1", "a@1.0.0-x.1"},
		{"a@1.0.0:spare=1", "a=*", "a@1.0.0"},
		{"a@1.0.0 spare@0.9.0", "a=*, spare=1", "a@1.0.0"},
		{"spare@0.9.0 spare@0.9.1-a", "spare=*", "spare@0.9.0"},
		{"a@1.0.0-x:b=1.0.0-y.2,c=>=1.0.0-z b@1.0.0-y.2:c=* c@1.0.0-z.0.1:b=* c@1.0.0:a=1.0.0-x", "a=1.0.0-x", "a@1.0.0-x b@1.0.0-y.2 c@1.0.0"},
		{"a@1.0.0 a@2.0.0 b@1.0.0 b@2.0.0 c@1.0.0:a=1", "a=*, b=*, c=*", "a@1.0.0 b@2.0.0 c@1.0.0"},
		{"a@1.0.0:q=* a@2.0.0:q=*", "a=*", "a@2.0.0"},
		{"b@1.0.0 a@1.0.0", "a=*, b=*", "b@1.0.0 a@1.0.0"},
		{"a@1.0.0 a@1.0.0-x", "a=x, b=", "a@1.0.0-x a@1.0.0"},
		{"a@1.0.0", "A=*", "a@2.0.0-q"},
	}
}

// asked keeps what a question hands in, and how it was.
type asked struct {
	r, wasR     []impl.Entry
	needs, wasN []impl.Need
	l, wasL     []impl.Pick
	turn        func()
}

func ask(t *testing.T, q question) asked {
	t.Helper()
	r, turnR := looseReg(regOf(t, q.reg))
	needs, turnN := looseNeeds(needsOf(q.needs))
	l, turnL := loosePicks(picksOf(t, q.picks))
	return asked{r, regWithRoom(r), needs, slices.Clone(needs[:cap(needs)]), l, picksWithRoom(l), func() {
		turnR()
		turnN()
		turnL()
	}}
}

func (a asked) untouched(t *testing.T, q question) {
	t.Helper()
	if !regsAlike(regWithRoom(a.r), a.wasR) || !slices.Equal(a.needs[:cap(a.needs)], a.wasN) || !picksAlike(picksWithRoom(a.l), a.wasL) {
		t.Fatalf("what is asked by %v, or the room behind it, is written into", q)
	}
	if !regsAlike(a.r, regOf(t, q.reg)) || !slices.Equal(a.needs, needsOf(q.needs)) || !picksAlike(a.l, picksOf(t, q.picks)) {
		t.Fatalf("what is asked by %v is written into", q)
	}
}

// meant is what the other search finds, or that all is refused.
func meant(t *testing.T, q question, fuel int) ([]impl.Pick, int) {
	t.Helper()
	r, needs := regOf(t, q.reg), needsOf(q.needs)
	for _, n := range needs {
		if !othersNeedsOk([]impl.Need{n}) {
			return nil, impl.SolveForm
		}
	}
	if !othersRegOk(r) {
		return nil, impl.SolveForm
	}
	l, code, used := newTaker(t).solve(r, needs)
	if used > fuel {
		return nil, impl.SolveFuel
	}
	return l, code
}

func TestWhatIsSolvedIsLeftAlone(t *testing.T) {
	for _, q := range questions() {
		a := ask(t, q)
		for _, fuel := range []int{0, 1, 3, mostFuel} {
			want, code := meant(t, q, fuel)
			l, c := impl.Solve(a.r, a.needs, fuel)
			if c != code || !picksAlike(l, want) {
				t.Errorf("what solves %v hangs on the room behind: %v, %d", q, l, c)
			}
			a.untouched(t, q)
			scribblePicks(l)
			a.untouched(t, q)
		}
		if impl.Solves(a.r, a.needs, a.l) != newTaker(t).solves(regOf(t, q.reg), needsOf(q.needs), picksOf(t, q.picks)) {
			t.Errorf("whether it solves %v hangs on the room behind", q)
		}
		a.untouched(t, q)
		for _, of := range []string{"a", "b", "c", "spare", ""} {
			name, _ := looseText(of)
			v, ok := impl.PickOf(a.l, name)
			at := slices.IndexFunc(picksOf(t, q.picks), func(p impl.Pick) bool { return p.Name == of })
			if ok != (at >= 0) || ok && !verAlike(v, picksOf(t, q.picks)[at].V) || name != of {
				t.Errorf("in %v %q is %v, %v", q, of, v, ok)
			}
			scribbleTexts(v.Pre)
			a.untouched(t, q)
		}
	}
}

func TestWhatSolvesSharesNothing(t *testing.T) {
	for _, q := range questions() {
		want, code := meant(t, q, mostFuel)
		a := ask(t, q)
		got, c := impl.Solve(a.r, a.needs, mostFuel)
		again, _ := impl.Solve(a.r, a.needs, mostFuel)
		a.turn()
		if c != code || !picksAlike(got, want) {
			t.Errorf("what solves %v shares its memory: %v", q, got)
		}
		scribblePicks(got)
		if !picksAlike(again, want) {
			t.Errorf("two answers to %v lie over each other", q)
		}
	}
}

// TestListsOfWhatSolvesShareNothing writes into one list of an answer at a time, and into the room behind it; in what is asked they are one and the same.
func TestListsOfWhatSolvesShareNothing(t *testing.T) {
	pre := []string{"a", "1", "b"}
	needs := []impl.Need{need("b", ">=1.2.3-a"), need("c", ">=1.2.3-a")}
	r := []impl.Entry{entry("a", preVer(pre...), needs...), entry("b", preVer(pre...), needs...), entry("c", preVer(pre[:2]...), needs[:1]...), entry("d", preVer(pre[:1]...))}
	want := []impl.Pick{pick("a", r[0].V), pick("b", r[1].V), pick("c", r[2].V), pick("d", r[3].V)}
	asked := append([]impl.Need{need("d", ">=1.2.3-a"), need("a", ">=1.2.3-a")}, needs...)
	for i := range want {
		got, code := impl.Solve(r, asked, mostFuel)
		if code != impl.SolveGood || !picksAlike(got, want) {
			t.Fatalf("it is solved by %v, %d", got, code)
		}
		scribbleTexts(got[i].V.Pre)
		got[i].V.Pre = want[i].V.Pre
		if !picksAlike(got, want) {
			t.Errorf("the Pre of %d lies over others: %v", i, got)
		}
	}
	if !slices.Equal(pre, []string{"a", "1", "b"}) {
		t.Errorf("what is asked is written into: %q", pre)
	}
}

func TestPickOfSharesNothing(t *testing.T) {
	for _, in := range [][]impl.Pick{picksOf(t, "a@1.2.3-a.1.b lib@1.0.0-a"), picksOf(t, "lib@1.0.0-x.y a@2.0.0 lib@3.0.0-q"), {pick("lib", preVer("", "\xff", "c", "d"))}} {
		at := slices.IndexFunc(in, func(p impl.Pick) bool { return p.Name == "lib" })
		l, turn := loosePicks(in)
		name, turnName := looseText("lib")
		got, ok := impl.PickOf(l, name)
		again, _ := impl.PickOf(l, name)
		turn()
		turnName()
		if !ok || !verAlike(got, in[at].V) {
			t.Errorf("the Pick shares the memory of %v: %v", in, got)
		}
		scribbleTexts(got.Pre)
		if !verAlike(again, in[at].V) {
			t.Errorf("two answers of %v lie over each other", in)
		}
	}
}

func TestWantedSharesNothing(t *testing.T) {
	shared := needsOf("x=1,y=^2.0.0")
	for _, in := range [][]impl.Pack{
		nil, {fullPack()}, {fullPack(), fullPack()}, {packNeeding("a", "x=1"), packNeeding("b", ""), packNeeding("c", "x=1,y=2")}, {packNeeding("a", "=,X=x"), {}},
		{{Name: "a", Needs: shared}, {Name: "b", Needs: shared}, {Name: "c", Needs: shared[1:]}}, packsToShare(),
	} {
		var want []impl.Need
		for _, p := range in {
			want = append(want, p.Needs...)
		}
		want = slices.Clone(want)
		l := slices.Repeat([]impl.Pack{packNeeding("spare", "spare=*")}, len(in)+3)
		var turns []func()
		var before []impl.Pack
		for i, p := range in {
			loose, turn := loosePack(p)
			l[i], turns = loose, append(turns, turn)
		}
		l = l[:len(in)]
		for _, p := range l[:cap(l)] {
			before = append(before, packWithRoom(p))
		}
		got, again := impl.Wanted(l), impl.Wanted(l)
		if !slices.Equal(got, want) {
			t.Errorf("what is wanted hangs on the room behind: %q", got)
		}
		scribbleNeeds(impl.Wanted(l))
		for i, p := range l[:cap(l)] {
			if !packsAlike(packWithRoom(p), before[i]) {
				t.Errorf("%q, or what is behind it, is written into", in)
			}
		}
		for _, turn := range turns {
			turn()
		}
		if !slices.Equal(got, want) {
			t.Errorf("what is wanted shares the memory of %q: %q", in, got)
		}
		scribbleNeeds(got)
		if !slices.Equal(again, want) {
			t.Errorf("two answers of %q lie over each other", in)
		}
	}
}
