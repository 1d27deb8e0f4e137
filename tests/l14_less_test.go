package tests

import (
	"fmt"
	"math/rand"
	"slices"
	"strings"
	"testing"

	"loop.example/g00464/impl"
)

func TestFilteredLess(t *testing.T) {
	filteredAre(t, chained, "* !b", "", "a c d")
	filteredAre(t, chained, "* !a !d", "", "b c")
	filteredAre(t, chained, "[abc] !b !c", "", "a")
	filteredAre(t, chained, "* !a !b !c", "", "d")
	filteredAre(t, chained, "* !*", "", "")
	filteredAre(t, chained, "* ![bc]", "", "a d")
	// It is what `!` stands ahead of that is taken away.
	filteredAre(t, chained, "* !...b", "", "a")
	filteredAre(t, chained, "* !b...", "", "c d")
	filteredAre(t, chained, "* !...b...", "", "")
	filteredAre(t, branched, "d... !b...", "", "c d")
	filteredAre(t, branched, "...a !...b", "", "a c")
	filteredAre(t, ringed, "* !...b", "", "a f")
	filteredAre(t, ringed, "e... !b...", "", "e")
	filteredAre(t, branched, "* ![since]", "b/x e/y", "a c d")
	filteredAre(t, branched, "* !...[since]", "b/x", "a c e")
	filteredAre(t, branched, "* ![since]", "", "a b c d e")
	filteredAre(t, branched, "* ![since]", "top", "")
	// Of `!!F` it is all but those of F.
	filteredAre(t, chained, "* !!b", "", "b")
	filteredAre(t, chained, "[bc] !!b", "", "b")
	filteredAre(t, chained, "[ac] !!b", "", "")
	filteredAre(t, chained, "* !!!b", "", "a c d")
}

// TestFilteredFirstOfOthers: the first one is told as it is alone, as there is nothing that could be less.
func TestFilteredFirstOfOthers(t *testing.T) {
	filteredAre(t, chained, "!b", "", "a c d")
	filteredAre(t, chained, "!b b", "", "a b c d")
	filteredAre(t, chained, "!b !c", "", "a d")
	filteredAre(t, chained, "!b !b", "", "a c d")
	filteredAre(t, chained, "!b !!b", "", "")
	filteredAre(t, chained, "!!b !b", "", "")
	filteredAre(t, chained, "![ab] a", "", "a c d")
	filteredAre(t, chained, "!* a", "", "a")
	filteredAre(t, chained, "!...b b", "", "a b")
	filteredAre(t, chained, "!b !c b", "", "a b d")
	filteredAre(t, branched, "![since] b", "b/x c/x", "a b d e")
}

func TestFilteredMore(t *testing.T) {
	filteredAre(t, chained, "a b", "", "a b")
	filteredAre(t, chained, "d a", "", "a d")
	filteredAre(t, chained, "d c b a", "", "a b c d")
	filteredAre(t, chained, "a a", "", "a")
	filteredAre(t, chained, "a a a a", "", "a")
	filteredAre(t, chained, "* a", "", "a b c d")
	filteredAre(t, chained, "[ab] [bc]", "", "a b c")
	filteredAre(t, chained, "a c...", "", "a b c")
	filteredAre(t, branched, "c ...b", "", "b c d")
	filteredAre(t, branched, "e b...", "", "a b e")
	filteredAre(t, ringed, "f c", "", "c f")
	filteredAre(t, ringed, "a ...e", "", "a e")
	filteredAre(t, ringed, "f c...", "", "a b c d f")
	filteredAre(t, branched, "a [since]", "b/x", "a b")
	filteredAre(t, branched, "[since] e", "b/x", "b e")
	filteredAre(t, branched, "[since] e", "", "e")
	filteredAre(t, branched, "q e", "", "e")
	filteredAre(t, branched, "e q", "", "e")
	filteredAre(t, branched, "q q", "", "")
	// `...!F` begins not with `!`: it is more, as are others.
	filteredAre(t, chained, "a ...!c", "", "a b c d")
	filteredAre(t, "a b c", "a ...!c", "", "a b")
	filteredAre(t, "a b c", "c ...!c", "", "a b c")
	filteredAre(t, "a b c", "c !...c", "", "")
}

func TestFilteredInOrder(t *testing.T) {
	// In both orders.
	filteredAre(t, chained, "b !b", "", "")
	filteredAre(t, chained, "!b b", "", "a b c d")
	filteredAre(t, chained, "[ab] !b c", "", "a c")
	filteredAre(t, chained, "[ab] c !b", "", "a c")
	filteredAre(t, chained, "a !b b", "", "a b")
	filteredAre(t, chained, "a b !b", "", "a")
	// Taken away, and put back.
	filteredAre(t, chained, "* !b b", "", "a b c d")
	filteredAre(t, chained, "* !* c", "", "c")
	filteredAre(t, chained, "* !...b c", "", "a c")
	filteredAre(t, chained, "* !b b !b", "", "a c d")
	filteredAre(t, chained, "b !b b !b", "", "")
	filteredAre(t, chained, "!b b !b b", "", "a b c d")
	filteredAre(t, chained, "b... !a d", "", "b d")
	filteredAre(t, chained, "b... d !a", "", "b d")
	filteredAre(t, chained, "b... !a [ad]", "", "a b d")
	// Taken away, where it was not there.
	filteredAre(t, chained, "a !b", "", "a")
	filteredAre(t, chained, "a !q", "", "a")
	filteredAre(t, chained, "a !b b", "", "a b")
	filteredAre(t, chained, "a ![bcd]", "", "a")
	filteredAre(t, chained, "q !a", "", "")
	filteredAre(t, chained, "q !a a", "", "a")
	// What comes behind looks not at what is ahead of it.
	filteredAre(t, chained, "* !d d...", "", "a b c d")
	filteredAre(t, chained, "a d !...b", "", "a")
	filteredAre(t, branched, "b !a ...a", "", "a b c d")
}

// partsToAsk are the parts that TestFilteredOfEachParts lays behind each other.
func partsToAsk() []string {
	return []string{"a", "!a", "*", "!*", "...a", "!...b", "c...", "!b...", "[since]", "![since]", "q", "!q", "!!c"}
}

// TestFilteredOfEachParts holds one, two, three and four of few against the others, over packs of each kind.
func TestFilteredOfEachParts(t *testing.T) {
	for _, packs := range []string{chained, branched, ringed} {
		parts := partsToAsk()
		for n := 1; n <= 3; n++ {
			for i := range pow(len(parts), n) {
				var l []string
				for range n {
					l, i = append(l, parts[i%len(parts)]), i/len(parts)
				}
				filteredAsOthers(t, packsOf(packs), strings.Join(l, " "), []string{"c/x"})
			}
		}
		if t.Failed() {
			t.FailNow()
		}
	}
}

func pow(n, k int) int {
	out := 1
	for range k {
		out *= n
	}
	return out
}

// minus and plus are what is less, and what is more, of lists.
func minus(a, b []string) []string {
	return slices.DeleteFunc(slices.Clone(a), func(name string) bool { return slices.Contains(b, name) })
}

func plus(a, b []string) []string {
	out := append(slices.Clone(a), b...)
	slices.Sort(out)
	return slices.Compact(out)
}

// TestFilteredOfManyParts: whatever stands ahead, what comes behind is less or more of it, and no text has to be read anew for that.
func TestFilteredOfManyParts(t *testing.T) {
	r := rand.New(rand.NewSource(1403))
	less, more, same := 0, 0, 0
	for range 20000 {
		l := anyWork(r)
		changed := anyChanged(r, l)
		var ahead []string
		for range 1 + r.Intn(3) {
			ahead = append(ahead, anyForm(r))
		}
		s, form := strings.Join(ahead, " "), anyForm(r)
		before, those := impl.Filtered(l, s, changed), impl.Filtered(l, form, changed)
		away, with := impl.Filtered(l, s+" !"+form, changed), impl.Filtered(l, s+" ..."+form, changed)
		if !slices.Equal(away, minus(before, those)) {
			t.Fatalf("of %v %q takes %q, and %q takes %q, but with !%s behind it takes %q", l, s, before, form, those, form, away)
		}
		if !slices.Equal(with, plus(before, impl.Filtered(l, "..."+form, changed))) {
			t.Fatalf("of %v %q takes %q, but with ...%s behind it takes %q", l, s, before, form, with)
		}
		others := minus(strings.Fields(namesTold(l)), those)
		if got := impl.Filtered(l, "!"+form, changed); !slices.Equal(got, others) {
			t.Fatalf("of %v %q takes %q, but !%s takes %q", l, form, those, form, got)
		}
		switch {
		case len(away) < len(before):
			less++
		case len(with) > len(before):
			more++
		default:
			same++
		}
	}
	if less < 3000 || more < 1000 || same < 1000 {
		t.Errorf("it was less %d times, more %d times, the same %d times", less, more, same)
	}
}

func namesTold(l []impl.Pack) string {
	var out []string
	for _, p := range l {
		out = append(out, p.Name)
	}
	return strings.Join(out, " ")
}

// TestFilteredReaches: `...F` and `F...` are told by chapter 11 alone.
func TestFilteredReaches(t *testing.T) {
	r := rand.New(rand.NewSource(1404))
	grown := map[string]int{}
	for range 20000 {
		l := anyWork(r)
		changed, form := anyChanged(r, l), anyForm(r)
		those := impl.Filtered(l, form, changed)
		users, uses := those, those
		for _, name := range those {
			users, uses = plus(users, impl.DeepUsedBy(l, name)), plus(uses, impl.DeepUses(l, name))
		}
		if got := impl.Filtered(l, "..."+form, changed); !slices.Equal(got, users) {
			t.Fatalf("of %v ...%s takes %q, not %q", l, form, got, users)
		}
		// Behind a form that begins with `!` or `...` it is that form's F which ends so.
		if got := impl.Filtered(l, form+"...", changed); form[0] != '!' && !strings.HasPrefix(form, "...") && !slices.Equal(got, uses) {
			t.Fatalf("of %v %s... takes %q, not %q", l, form, got, uses)
		}
		grown[fmt.Sprint(min(len(those), 2), len(users) > len(those))]++
	}
	for _, kind := range []string{"0 false", "1 true", "1 false", "2 true", "2 false"} {
		if grown[kind] < 500 {
			t.Errorf("what F takes, and whether more was reached: %v", grown)
		}
	}
}
