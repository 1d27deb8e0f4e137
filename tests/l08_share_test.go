package tests

import (
	"slices"
	"testing"

	"loop.example/g00464/impl"
)

// looseNeeds has l over memory that can be turned, and spare room behind it, with what would be found there.
func looseNeeds(l []impl.Need) ([]impl.Need, func()) {
	out := slices.Repeat([]impl.Need{need("spare", "*")}, len(l)+3)
	var turns []func()
	for i, n := range l {
		name, turnName := looseText(n.Name)
		text, turnText := looseText(n.Range)
		out[i], turns = need(name, text), append(turns, turnName, turnText)
	}
	out = out[:len(l)]
	return out, func() {
		for _, turn := range turns {
			turn()
		}
		scribbleNeeds(out)
	}
}

func scribbleNeeds(l []impl.Need) {
	l = l[:cap(l)]
	for i := range l {
		l[i] = need("scribble", "scribble")
	}
}

// looseReg has r over memory that can be turned, and spare room behind all its lists, with what would be found there.
func looseReg(r []impl.Entry) ([]impl.Entry, func()) {
	out := slices.Repeat([]impl.Entry{entry("spare", ver(1, 0, 0))}, len(r)+3)
	var turns []func()
	for i, e := range r {
		name, turnName := looseText(e.Name)
		v, turnVer := looseVer(e.V)
		needs, turnNeeds := looseNeeds(e.Needs)
		out[i], turns = entry(name, v, needs...), append(turns, turnName, turnVer, turnNeeds)
	}
	out = out[:len(r)]
	return out, func() {
		for _, turn := range turns {
			turn()
		}
		scribbleEntries(out)
	}
}

// scribbleEntries writes into all lists of l, and into the room behind them.
func scribbleEntries(l []impl.Entry) {
	for _, scribble := range listsOfEntries(l) {
		scribble()
	}
}

// listsOfEntries are the lists of l, each as a function that writes into it and behind it; l itself comes last, as it holds the others.
func listsOfEntries(l []impl.Entry) []func() {
	var out []func()
	for _, e := range l {
		out = append(out, func() { scribbleTexts(e.V.Pre) }, func() { scribbleNeeds(e.Needs) })
	}
	return append(out, func() {
		for i := range l[:cap(l)] {
			l[:cap(l)][i] = entry("scribble", preVer("scribble"))
		}
	})
}

// regWithRoom has all of r, its spare room as if it were a part of it.
func regWithRoom(r []impl.Entry) []impl.Entry {
	out := slices.Clone(r[:cap(r)])
	for i, e := range out {
		out[i].V.Pre, out[i].Needs = slices.Clone(e.V.Pre[:cap(e.V.Pre)]), slices.Clone(e.Needs[:cap(e.Needs)])
	}
	return out
}

// regsToShare are right ones and wrong ones.
func regsToShare(t *testing.T) [][]impl.Entry {
	t.Helper()
	var wrong []impl.Entry
	for _, v := range wrongVers() {
		wrong = append(wrong, entry("lib", v, need("", "x"), need("", "x")))
	}
	return [][]impl.Entry{
		nil, regOf(t, "lib@1.0.0"), regOf(t, "a@1.0.0 lib@1.2.3-a.1.b:x=1,y=2 lib@1.2.3:x=1,y=2,z=3 lib@2.0.0"), fullReg(t), wrong, {{}, {}},
		regOf(t, "lib@1.0.0 lib@2.0.0-a:x=1 lib@1.0.0 lib@2.0.0-a:x=1 b@1.0.0"), regOf(t, "spare@0.9.0 spare@0.9.1"),
		regOf(t, "b@1.0.0 b@1.0.1 b@1.0.2 b@1.0.3 b@1.0.4 b@1.0.5 b@1.0.6 b@1.0.7 b@1.0.8 lib@1.0.9-a lib@1.0.9 lib@1.0.10:b=*"),
	}
}

func entriesToAsk(r []impl.Entry) []impl.Entry {
	return append(slices.Clone(r), entry("spare", ver(1, 0, 0)), entry("lib", ver(7, 7, 7, "none")), impl.Entry{})
}

func firstEntry(r []impl.Entry, name string, v impl.Ver) (impl.Entry, bool) {
	for _, e := range r {
		if e.Name == name && verAlike(e.V, v) {
			return e, true
		}
	}
	return impl.Entry{}, false
}

func namesToAsk() []string { return []string{"lib", "a", "spare", "", "b", "none"} }

// namedEntries leans on LessVer, which holds of wrong versions, too.
func namedEntries(r []impl.Entry, name string) []impl.Entry {
	return othersNewest(r, name, func(a, b impl.Ver) bool { return impl.LessVer(b, a) })
}

func TestRegistriesAreLeftAlone(t *testing.T) {
	for _, in := range regsToShare(t) {
		r, _ := looseReg(in)
		before := regWithRoom(r)
		untouched := func() {
			t.Helper()
			if !regsAlike(regWithRoom(r), before) || !regsAlike(r, in) {
				t.Fatalf("%v, or the room behind it, is written into: %v", in, regWithRoom(r))
			}
		}
		if impl.RegOk(r) != othersRegOk(in) {
			t.Errorf("whether %v is right hangs on the room behind", in)
		}
		untouched()
		for _, of := range namesToAsk() {
			name, _ := looseText(of)
			got := impl.NewestFirst(r, name)
			if !regsAlike(got, namedEntries(in, of)) || name != of {
				t.Errorf("of %v the newest of %q are %v", in, of, got)
			}
			untouched()
			scribbleEntries(got)
			untouched()
		}
		for _, of := range entriesToAsk(in) {
			name, _ := looseText(of.Name)
			v, _ := looseVer(of.V)
			wholePre := slices.Clone(v.Pre[:cap(v.Pre)])
			got, ok := impl.EntryOf(r, name, v)
			if want, wantOk := firstEntry(in, of.Name, of.V); ok != wantOk || !entriesAlike(got, want) {
				t.Errorf("in %v %v is %v, %v", in, of, got, ok)
			}
			scribbleEntries([]impl.Entry{got})
			untouched()
			if name != of.Name || !verAlike(v, of.V) || !slices.Equal(v.Pre[:cap(v.Pre)], wholePre) {
				t.Errorf("%v is written into", of)
			}
		}
	}
}

func TestAnswersOfRegistriesShareNothing(t *testing.T) {
	for _, in := range regsToShare(t) {
		for _, of := range namesToAsk() {
			r, turn := looseReg(in)
			name, turnName := looseText(of)
			got, again := impl.NewestFirst(r, name), impl.NewestFirst(r, name)
			turn()
			turnName()
			want := namedEntries(in, of)
			if !regsAlike(got, want) {
				t.Errorf("the newest of %q share the memory of %v: %v", of, in, got)
			}
			scribbleEntries(got)
			if !regsAlike(again, want) {
				t.Errorf("two answers of %v lie over each other", in)
			}
		}
		for _, of := range entriesToAsk(in) {
			r, turn := looseReg(in)
			name, turnName := looseText(of.Name)
			v, turnVer := looseVer(of.V)
			got, ok := impl.EntryOf(r, name, v)
			again, _ := impl.EntryOf(r, name, v)
			turn()
			turnName()
			turnVer()
			want, wantOk := firstEntry(in, of.Name, of.V)
			if ok != wantOk || !entriesAlike(got, want) {
				t.Errorf("%v shares the memory of %v: %v", of, in, got)
			}
			scribbleEntries([]impl.Entry{got})
			if !entriesAlike(again, want) {
				t.Errorf("two answers of %v lie over each other", in)
			}
		}
	}
}

// sharingReg has Entries whose Needs, and whose Pres, are one and the same list, or a part of it.
func sharingReg() []impl.Entry {
	pre, needs := []string{"a", "1", "b"}, []impl.Need{need("x", "1"), need("y", "2"), need("z", "3")}
	return []impl.Entry{entry("lib", preVer(pre...), needs...), entry("lib", preVer(pre[:2]...), needs[:2]...), entry("lib", ver(2, 0, 0, pre...), needs...), entry("lib", ver(2, 0, 0, pre[1:]...), needs[1:]...), entry("lib", preVer(pre...), needs...)}
}

// TestListsOfTheNewestShareNothing writes into one list of an answer at a time, and into the room behind it.
func TestListsOfTheNewestShareNothing(t *testing.T) {
	for _, r := range append(regsToShare(t), sharingReg()) {
		want := namedEntries(r, "lib")
		for i := range want {
			got := impl.NewestFirst(r, "lib")
			scribbleTexts(got[i].V.Pre)
			got[i].V.Pre = want[i].V.Pre
			if !regsAlike(got, want) {
				t.Errorf("the Pre of %d lies over others: %v", i, got)
			}
			scribbleNeeds(got[i].Needs)
			got[i].Needs = want[i].Needs
			if !regsAlike(got, want) {
				t.Errorf("the Needs of %d lie over others: %v", i, got)
			}
		}
	}
	for _, e := range sharingReg() {
		got, _ := impl.EntryOf(sharingReg(), e.Name, e.V)
		scribbleTexts(got.V.Pre)
		got.V.Pre = e.V.Pre
		if !entriesAlike(got, e) {
			t.Errorf("the Pre lies over the Needs: %v", got)
		}
	}
}

func TestNeedsAreLeftAlone(t *testing.T) {
	for _, s := range []string{"*", "1.2.3", "^1.2.3-a", "1.2.3-10.b || 1.2.3 - 9999.9999.9999", "", "x", "1 ||"} {
		for _, of := range looseVers() {
			name, _ := looseText("lib")
			text, _ := looseText(s)
			v, _ := looseVer(of)
			wholePre := slices.Clone(v.Pre[:cap(v.Pre)])
			told, ok := othersRange(s)
			want := ok && othersVerOk(of) && othersTake(rangeOf(t, told), of)
			if impl.MayTake(need(name, text), v) != want {
				t.Errorf("%q takes %v: %v", s, of, !want)
			}
			if name != "lib" || text != s || !slices.Equal(v.Pre[:cap(v.Pre)], wholePre) || !verAlike(v, of) {
				t.Errorf("%q or %v is written into", s, of)
			}
		}
	}
}
