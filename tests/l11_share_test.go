package tests

import (
	"slices"
	"testing"

	"loop.example/g00464/impl"
)

// A leanCall is a function of the layer, and another one that answers what it must.
type leanCall struct {
	told       string
	ask, other func(l []impl.Pack, name string) []string
}

func leanCalls() []leanCall {
	return []leanCall{
		{"UsedBy", impl.UsedBy, othersUsedBy},
		{"DeepUses", impl.DeepUses, func(l []impl.Pack, name string) []string { return leaningOf(l).deepUses(name) }},
		{"DeepUsedBy", impl.DeepUsedBy, func(l []impl.Pack, name string) []string { return leaningOf(l).deepUsedBy(name) }},
		{"Ring", func(l []impl.Pack, _ string) []string { return impl.Ring(l) }, func(l []impl.Pack, _ string) []string { return othersRing(l) }},
		{"Order", namesAlone(impl.Order), namesAlone(othersOrder)},
	}
}

// namesAlone leaves out whether there is an order: of packs there are no Names where there is none.
func namesAlone(order func([]impl.Pack) ([]string, bool)) func([]impl.Pack, string) []string {
	return func(l []impl.Pack, _ string) []string {
		out, _ := order(l)
		return out
	}
}

// leaningsToShare are with and without a ring, right and wrong.
func leaningsToShare() []string {
	return []string{
		"", "a", "a=b b", "a=b b=a", "a=a", "a=b b=c c=b", "a=b,c b=d c=d d", "d=a c=a b=a a", "a=spare", "a=b,q b=x c=a", "a=b b=spare c=b", "a a", "a=b a=c b c=a", "a=b,b b", "long-name=other-name other-name=long-name,third third",
	}
}

// looseLeaning has these packs over memory that can be turned; the packs in the room behind lean on all of them, and on themselves.
func looseLeaning(told string) ([]impl.Pack, func()) {
	in := packsOf(told)
	all := slices.Repeat([]impl.Pack{{Name: "spare", Uses: append([]string{"spare"}, namesIn(in)...)}}, len(in)+3)
	var turns []func()
	for i, p := range in {
		loose, turn := loosePack(p)
		all[i], turns = loose, append(turns, turn)
	}
	return all[:len(in)], func() {
		for _, turn := range turns {
			turn()
		}
		for i := range all {
			all[i] = withUses("scribble")
		}
	}
}

// eachLeanCall goes through all functions, packs and names; l and name are over memory that can be turned.
func eachLeanCall(do func(c leanCall, told, asked string, l []impl.Pack, name string, turn func())) {
	for _, c := range leanCalls() {
		for _, told := range leaningsToShare() {
			for _, asked := range append(namesIn(packsOf(told)), "q", "spare", "") {
				l, turnPacks := looseLeaning(told)
				name, turnName := looseText(asked)
				do(c, told, asked, l, name, func() {
					turnPacks()
					turnName()
				})
			}
		}
	}
}

func TestLeaningsAreLeftAlone(t *testing.T) {
	eachLeanCall(func(c leanCall, told, asked string, l []impl.Pack, name string, _ func()) {
		before := packsWithRoom(l)
		got, want := c.ask(l, name), c.other(packsOf(told), asked)
		if !slices.Equal(got, want) {
			t.Errorf("%s of %q and %q hangs on the room behind: %q, not %q", c.told, told, asked, got, want)
		}
		scribbleTexts(got)
		if !slices.EqualFunc(packsWithRoom(l), before, packsAlike) || !slices.EqualFunc(l, packsOf(told), packsAlike) || name != asked {
			t.Errorf("%s writes into %q, into %q, or into the room behind", c.told, told, asked)
		}
	})
}

func TestAnswersOfLeaningsShareNothing(t *testing.T) {
	eachLeanCall(func(c leanCall, told, asked string, l []impl.Pack, name string, turn func()) {
		want := c.other(packsOf(told), asked)
		got, again := c.ask(l, name), c.ask(l, name)
		turn()
		if !slices.Equal(got, want) {
			t.Errorf("%s of %q and %q shares its memory: %q, not %q", c.told, told, asked, got, want)
		}
		scribbleTexts(got)
		if !slices.Equal(again, want) || !slices.Equal(c.ask(packsOf(told), asked), want) {
			t.Errorf("two answers of %s of %q and %q lie over each other", c.told, told, asked)
		}
	})
}

// TestPacksThatShareTheirUses: lists of one argument may lie over each other, and are told apart by their length.
func TestPacksThatShareTheirUses(t *testing.T) {
	uses := []string{"b", "c", "d", "a"}
	l := []impl.Pack{{Name: "a", Uses: uses[:3]}, {Name: "b", Uses: uses[1:3]}, {Name: "c", Uses: uses[2:3]}, {Name: "d", Uses: uses[:0]}}
	leansAsOthersTell(t, l)
	orderOrNone(t, l, []string{"d", "c", "b", "a"}, true)
	orderOrNone(t, l[:0], nil, true)
	orderOrNone(t, l[2:3], []string{"c"}, true)
	l[3].Uses = uses[3:]
	if got := ringAsOthersTell(t, l); !slices.Equal(got, []string{"a", "d"}) {
		t.Errorf("the ring of %q is %q", l, got)
	}
	if !slices.Equal(uses, []string{"b", "c", "d", "a"}) {
		t.Errorf("the Uses are written into: %q", uses)
	}
}
