package tests

import (
	"slices"
	"testing"

	"loop.example/g00464/impl"
)

// A filterCall is a function of the layer, and what it answers as lists of texts; s is a filter or a task, and l are names or what is changed.
type filterCall struct {
	told string
	ask  func(packs []impl.Pack, s string, l []string) [][]string
}

func filterCalls() []filterCall {
	return []filterCall{
		{"FilterOk", func(_ []impl.Pack, s string, _ []string) [][]string { return [][]string{yesOrNo(impl.FilterOk(s))} }},
		{"Filtered", func(packs []impl.Pack, s string, l []string) [][]string {
			return [][]string{impl.Filtered(packs, s, l)}
		}},
		{"WantOf", func(packs []impl.Pack, s string, l []string) [][]string {
			return [][]string{impl.WantOf(packs, l, s)}
		}},
	}
}

// A filterAsk is what filterCalls are asked of.
type filterAsk struct {
	packs []impl.Pack
	s     string
	l     []string
}

// filtersToShare are right ones and wrong ones; what lies in the room behind their lists would be found by each that reads it.
func filtersToShare() []filterAsk {
	var out []filterAsk
	for _, told := range []string{"", "a:build", "a=b:build,test b:build", "a b=a:build c=a,b:test d=c:build,test", "a=b b=a:build c=b:build,spare", "b:build a:build", "a=q:build", "a:build a:test", "a=a:build", "a b c=spare:build"} {
		for _, s := range []string{"*", "a", "!a", "...b", "b...", "!...b...", "[since]", "...[since]", "* !...b c", "[ab] !b c... d", "q", "spare", "", "...", "a  b", "build", "test", "x"} {
			for _, l := range [][]string{nil, {"a"}, {"c", "a", "b", "a"}, {"b/x", "c/y"}, {"b/x", "top", "a/y"}, {"d/x"}, {"q", "spare", "", "d"}} {
				out = append(out, filterAsk{workOf(told), s, l})
			}
		}
	}
	return out
}

func cloneAsk(a filterAsk) filterAsk {
	out := filterAsk{s: a.s, l: slices.Clone(a.l)}
	for _, p := range a.packs {
		out.packs = append(out.packs, clonePack(p))
	}
	return out
}

// looseAsk has a over memory that can be turned, and spare room behind its lists, with what would be found there.
func looseAsk(a filterAsk, behind string) (filterAsk, func()) {
	w, turnPacks := looseWork(work{l: a.packs})
	s, turnText := looseText(a.s)
	l, turnList := looseList(a.l)
	room := slices.Repeat([]string{behind}, len(l)+5)
	copy(room, l)
	out := filterAsk{w.l, s, room[:len(l)]}
	return out, func() {
		turnPacks()
		turnText()
		turnList()
		scribbleTexts(out.l)
	}
}

func asksAlike(a, b filterAsk) bool {
	return slices.EqualFunc(a.packs, b.packs, packsAlike) && a.s == b.s && slices.Equal(a.l, b.l)
}

// askWithRoom has all of a, its spare room as if it were a part of it.
func askWithRoom(a filterAsk) filterAsk {
	return filterAsk{packsWithRoom(a.packs), a.s, slices.Clone(a.l[:cap(a.l)])}
}

// roomsBehind are a Name that is there, Paths of packs, and one of none.
func roomsBehind() []string { return []string{"b", "c/x", "top"} }

func TestFilteredPacksAreLeftAlone(t *testing.T) {
	for _, c := range filterCalls() {
		for i, in := range filtersToShare() {
			want := c.ask(cloneAsk(in).packs, in.s, slices.Clone(in.l))
			a, _ := looseAsk(in, roomsBehind()[i%3])
			before := askWithRoom(a)
			got := c.ask(a.packs, a.s, a.l)
			if !answersAlike(got, want) {
				t.Errorf("%s of %v hangs on the room behind: %q, not %q", c.told, in, got, want)
			}
			for _, l := range got {
				scribbleTexts(l)
			}
			if !asksAlike(askWithRoom(a), before) || !asksAlike(a, in) {
				t.Errorf("%s writes into %v, or into the room behind", c.told, in)
			}
		}
	}
}

func TestAnswersOfFilteredPacksShareNothing(t *testing.T) {
	filled := map[string]int{}
	for _, c := range filterCalls() {
		for i, in := range filtersToShare() {
			want := c.ask(cloneAsk(in).packs, in.s, slices.Clone(in.l))
			a, turn := looseAsk(in, roomsBehind()[i%3])
			got, again := c.ask(a.packs, a.s, a.l), c.ask(a.packs, a.s, a.l)
			turn()
			if !answersAlike(got, want) {
				t.Errorf("%s of %v shares its memory: %q, not %q", c.told, in, got, want)
			}
			filled[c.told] += min(1, len(got[0]))
			for _, l := range got {
				scribbleTexts(l)
			}
			if !answersAlike(again, want) || !answersAlike(c.ask(in.packs, in.s, in.l), want) {
				t.Errorf("two answers of %s of %v lie over each other", c.told, in)
			}
		}
	}
	if filled["Filtered"] < 200 || filled["WantOf"] < 20 {
		t.Errorf("so many answers held a text: %v", filled)
	}
}

// TestPacksThatShareTheirUsesAreFiltered: lists of one argument may lie over each other, and are told apart by their length.
func TestPacksThatShareTheirUsesAreFiltered(t *testing.T) {
	names := []string{"a", "b", "c", "d", "e"}
	var l []impl.Pack
	for i, name := range names {
		l = append(l, impl.Pack{Name: name, Uses: names[:i], Cmds: []impl.Cmd{cmd("x", "y")}})
	}
	for _, z := range []struct {
		s    string
		want []string
	}{{"c...", names[:3]}, {"...c", names[2:]}, {"!c...", names[3:]}, {"[since]", names[1:2]}, {"a...", names[:1]}, {"* !...b", names[:1]}} {
		got := filteredAsOthers(t, l, z.s, []string{"b/x"})
		if !slices.Equal(got, z.want) {
			t.Errorf("by %q there are %q", z.s, got)
		}
		scribbleTexts(got)
	}
	// The names that are asked for may lie there, too.
	got := impl.WantOf(l, names[1:3], "x")
	if !slices.Equal(got, []string{"b#x", "c#x"}) {
		t.Errorf("of those between is wanted %q", got)
	}
	scribbleTexts(got)
	if !slices.Equal(names, []string{"a", "b", "c", "d", "e"}) {
		t.Errorf("the names are written into: %q", names)
	}
}

// TestFilteredIsKeptNowhere: what was asked ahead does not count, whatever it was.
func TestFilteredIsKeptNowhere(t *testing.T) {
	asks := filtersToShare()
	var first [][][]string
	for _, c := range filterCalls() {
		for _, a := range asks {
			first = append(first, c.ask(a.packs, a.s, a.l))
		}
	}
	calls := filterCalls()
	for i := len(first) - 1; i >= 0; i-- {
		c, a := calls[i/len(asks)], asks[i%len(asks)]
		if got := c.ask(a.packs, a.s, a.l); !answersAlike(got, first[i]) {
			t.Errorf("asked again %s of %v is %q, not %q", c.told, a, got, first[i])
		}
	}
}
