package tests

import (
	"slices"
	"testing"

	"loop.example/g00464/impl"
)

// picksToShare are right ones and wrong ones; in the spare room behind each lies what would be written down.
func picksToShare(t *testing.T) [][]impl.Pick {
	t.Helper()
	shared := []string{"a", "1", "b"}
	return [][]impl.Pick{
		nil, picksOf(t, "a@1.0.0"), picksOf(t, "a@1.0.0-a b@1.2.3-a.1.b c@9999.0.1"), numberedPicks(mostPicks), numberedPicks(mostPicks + 1), numberedPicks(mostPicks - 1),
		{pick("a", preVer(shared...)), pick("b", preVer(shared[:2]...)), pick("c", preVer(shared[1:]...))},
		picksOf(t, "b@1.0.0 a@1.0.0"), picksOf(t, "a@1.0.0 a@1.0.0"), {pick("A", preVer("a"))}, {pick("a", preVer("", "\xff"))}, {{}, {}}, picksOf(t, "spare@1.0.0"),
	}
}

func TestWhatIsWrittenDownIsLeftAlone(t *testing.T) {
	for _, in := range picksToShare(t) {
		l, turn := loosePicks(in)
		before := picksWithRoom(l)
		s, again := impl.LockText(l), impl.LockText(l)
		if s != othersLockText(in) {
			t.Errorf("the text of %v hangs on the room behind: %q", in, s)
		}
		if !picksAlike(picksWithRoom(l), before) || !picksAlike(l, in) {
			t.Errorf("%v, or the room behind it, is written into: %v", in, picksWithRoom(l))
		}
		turn()
		if want := othersLockText(in); s != want || again != want {
			t.Errorf("the text of %v shares its memory: %q", in, s)
		}
	}
}

func locksToRead() []string {
	return append(fewLocks(), "", "x", "\n", "a@1.0.0", "a@1.0.0-a.b.c\nb@1.0.0-a.b.c\nc@1.0.0-a.b.c\n", "a@1.0.0\na@1.0.0\n", othersLockText(numberedPicks(mostPicks)))
}

func TestReadLocksShareNothing(t *testing.T) {
	for _, text := range locksToRead() {
		want, wantOk := othersLock(text)
		s, turn := looseText(text)
		got, ok := impl.ParseLock(s)
		again, _ := impl.ParseLock(s)
		if s != text {
			t.Errorf("%q is written into: %q", text, s)
		}
		turn()
		if ok != wantOk || !picksAlike(got, want) {
			t.Errorf("what is read of %q shares its memory: %v", text, got)
		}
		scribblePicks(got)
		if !picksAlike(again, want) {
			t.Errorf("two answers of %q lie over each other: %v", text, again)
		}
		if third, ok := impl.ParseLock(text); ok != wantOk || !picksAlike(third, want) {
			t.Errorf("%q is read anew as %v", text, third)
		}
	}
}

// TestListsOfReadLocksShareNothing writes into one list of an answer at a time, and into the room behind it.
func TestListsOfReadLocksShareNothing(t *testing.T) {
	for _, text := range locksToRead() {
		want, _ := othersLock(text)
		for i := range want {
			got, _ := impl.ParseLock(text)
			scribbleTexts(got[i].V.Pre)
			got[i].V.Pre = want[i].V.Pre
			if !picksAlike(got, want) {
				t.Errorf("the Pre of %d of %q lies over others: %v", i, text, got)
			}
		}
		got, _ := impl.ParseLock(text)
		var pres [][]string
		for _, p := range got {
			pres = append(pres, p.V.Pre)
		}
		for i := range got[:cap(got)] {
			got[:cap(got)][i] = pick("scribble", preVer("scribble"))
		}
		for i, pre := range pres {
			if !slices.Equal(pre, want[i].V.Pre) {
				t.Errorf("the list of %q lies over the Pre of %d: %q", text, i, pre)
			}
		}
	}
}

// A renewal is what Stale and Renewed are asked, told in short.
type renewal struct{ reg, needs, text string }

// renewals are such as stay, are anew, have no way, and are refused; in the spare room behind each list lies what would turn the answer.
func renewals() []renewal {
	return []renewal{
		{"", "", ""}, {"", "", "x"}, {"", "", "spare@1.0.0\n"}, {"", "spare=*", ""}, {"spare@0.9.0", "spare=*", "spare@1.0.0\n"}, {"a@1.0.0:b=*", "a=*", "a@1.0.0\nspare@1.0.0\n"},
		{regToLock, "lib=^1.0.0", "lib@1.0.0\n"}, {regToLock, "lib=^1.0.0", "lib@1.1.0\nlog@1.0.0\n"}, {regToLock, "lib=^1.0.0;log=*;", "old"}, {regToLock, "log=^2.0.0-a;lib=*", "old text that is longer than what is new, by far, and stays nowhere\n"},
		{regToLock, "lib=2", "lib@2.0.0\n"}, {regToLock, "lib=*;q=*", "lib@1.0.0\n"}, {regToLock, "lib=x", "lib@1.0.0\n"}, {"b@1.0.0 a@1.0.0-x.1", "a=1.0.0-x.1", "a@1.0.0-x.1\n"}, {"b@1.0.0 a@1.0.0-x.1", "a=*", "a@1.0.0-x.1\n"},
		{"a@1.0.0-x.1.y:b=1.0.0-z.2 b@1.0.0-z.2", "a=1.0.0-x.1.y", ""}, {"a@1.0.0-x.1.y:b=1.0.0-z.2 b@1.0.0-z.2", ";a=1.0.0-x.1.y", "a@1.0.0-x.1.y\nb@1.0.0-z.2\n"},
	}
}

// asksAnew keeps what a renewal hands in, and how it was.
type asksAnew struct {
	r, wasR []impl.Entry
	l, wasL []impl.Pack
	s       string
	turn    func()
}

func packsWithRoom(l []impl.Pack) []impl.Pack {
	var out []impl.Pack
	for _, p := range l[:cap(l)] {
		out = append(out, packWithRoom(p))
	}
	return out
}

func askAnew(t *testing.T, q renewal) asksAnew {
	t.Helper()
	r, turnR := looseReg(regOf(t, q.reg))
	in := packsNeeding(q.needs)
	l := slices.Repeat([]impl.Pack{packNeeding("spare", "spare=9")}, len(in)+3)
	var turns []func()
	for i, p := range in {
		loose, turn := loosePack(p)
		l[i], turns = loose, append(turns, turn)
	}
	l = l[:len(in)]
	s, turnS := looseText(q.text)
	return asksAnew{r, regWithRoom(r), l, packsWithRoom(l), s, func() {
		turnR()
		turnS()
		for _, turn := range turns {
			turn()
		}
		for i := range l[:cap(l)] {
			l[:cap(l)][i] = packNeeding("scribble", "scribble=scribble")
		}
	}}
}

func (a asksAnew) untouched(t *testing.T, q renewal) {
	t.Helper()
	if !regsAlike(regWithRoom(a.r), a.wasR) || !slices.EqualFunc(packsWithRoom(a.l), a.wasL, packsAlike) {
		t.Fatalf("what is asked by %q, or the room behind it, is written into", q)
	}
	if !regsAlike(a.r, regOf(t, q.reg)) || !slices.EqualFunc(a.l, packsNeeding(q.needs), packsAlike) || a.s != q.text {
		t.Fatalf("what is asked by %q is written into", q)
	}
}

func TestWhatIsRenewedIsLeftAlone(t *testing.T) {
	stays, codes := 0, make([]int, 4)
	for _, q := range renewals() {
		a, o := askAnew(t, q), newTaker(t)
		stale := o.stale(regOf(t, q.reg), packsNeeding(q.needs), q.text)
		if impl.Stale(a.r, a.l, a.s) != stale {
			t.Errorf("whether %q is stale hangs on the room behind", q)
		}
		a.untouched(t, q)
		for _, fuel := range []int{0, 1, 3, mostFuel} {
			want, code := o.renewed(regOf(t, q.reg), packsNeeding(q.needs), q.text, fuel)
			if s, c := impl.Renewed(a.r, a.l, a.s, fuel); s != want || c != code {
				t.Errorf("what is renewed of %q hangs on the room behind: %q, %d", q, s, c)
			}
			a.untouched(t, q)
			codes[code]++
			if !stale {
				stays++
			}
		}
	}
	if stays == 0 || slices.Min(codes) == 0 {
		t.Errorf("how many stay: %d; by codes: %v", stays, codes)
	}
}

func TestWhatIsRenewedSharesNothing(t *testing.T) {
	for _, q := range renewals() {
		for _, fuel := range []int{0, 1, mostFuel} {
			want, code := newTaker(t).renewed(regOf(t, q.reg), packsNeeding(q.needs), q.text, fuel)
			a := askAnew(t, q)
			got, c := impl.Renewed(a.r, a.l, a.s, fuel)
			a.turn()
			if got != want || c != code {
				t.Errorf("what is renewed of %q shares its memory: %q, %d", q, got, c)
			}
		}
	}
}
