package tests

import (
	"math/rand"
	"slices"
	"strings"
	"testing"

	"loop.example/g00464/impl"
)

func TestSince(t *testing.T) {
	for _, packs := range []string{chained, branched, ringed} {
		all := packsAll(packs)
		// No changed Path: none.
		filteredAre(t, packs, "[since]", "", "")
		// Of one pack, and of it more than once.
		filteredAre(t, packs, "[since]", "a/x", "a")
		filteredAre(t, packs, "[since]", "d/x/y/z", "d")
		filteredAre(t, packs, "[since]", "b/x b/y b/x b/z/y", "b")
		// Of two packs, and of all.
		filteredAre(t, packs, "[since]", "b/y d/q/r", "b d")
		filteredAre(t, packs, "[since]", "d/q/r b/y", "b d")
		filteredAre(t, packs, "[since]", "d/a b/a d/b b/c", "b d")
		filteredAre(t, packs, "[since]", strings.ReplaceAll(all+" ", " ", "/x "), all)
		// Another one: all, whether it comes first, last, or alone.
		filteredAre(t, packs, "[since]", "top", all)
		filteredAre(t, packs, "[since]", "b/y top", all)
		filteredAre(t, packs, "[since]", "top b/y", all)
		filteredAre(t, packs, "[since]", "b/y top d/x", all)
		filteredAre(t, packs, "[since]", "x/y", all)
		filteredAre(t, packs, "[since]", "x/a/b", all)
	}
}

// TestSinceOfNamesInOtherPlaces: it is by `P/` ahead, not by P alone, nor by P elsewhere.
func TestSinceOfNamesInOtherPlaces(t *testing.T) {
	filteredAre(t, chained, "[since]", "a", "a b c d")
	filteredAre(t, chained, "[since]", "b/x a", "a b c d")
	filteredAre(t, chained, "[since]", "ax/y", "a b c d")
	filteredAre(t, chained, "[since]", "ax", "a b c d")
	filteredAre(t, chained, "[since]", "a-/y", "a b c d")
	filteredAre(t, chained, "[since]", "a.go", "a b c d")
	filteredAre(t, chained, "[since]", "a.d/y", "a b c d")
	filteredAre(t, chained, "[since]", "x/a/y", "a b c d")
	filteredAre(t, chained, "[since]", "xa/y", "a b c d")
	filteredAre(t, chained, "[since]", "a/b/c", "a")
	filteredAre(t, chained, "[since]", "a/a", "a")
	filteredAre(t, chained, "[since]", "a/b/x b/a/x", "a b")
	// Names of which one begins the other.
	const near = "a a- a0 ab abc"
	filteredAre(t, near, "[since]", "a/x", "a")
	filteredAre(t, near, "[since]", "ab/x", "ab")
	filteredAre(t, near, "[since]", "abc/x a-/x", "a- abc")
	filteredAre(t, near, "[since]", "a0/x", "a0")
	filteredAre(t, near, "[since]", "a1/x", "a a- a0 ab abc")
	filteredAre(t, near, "[since]", "abcd/x", "a a- a0 ab abc")
	filteredAre(t, near, "[since]", "ab", "a a- a0 ab abc")
	filteredAre(t, "ab abc", "[since]", "a/x", "ab abc")
	filteredAre(t, "abcdefghij", "[since]", "abcdefghij/x", "abcdefghij")
	filteredAre(t, "abcdefghij b", "[since]", "abcdefghi/x", "abcdefghij b")
	filteredAre(t, "abcdefghij b", "[since]", "abcdefghijk/x", "abcdefghij b")
}

// TestSinceOfTextsThatAreNoPaths: by what stands ahead alone.
func TestSinceOfTextsThatAreNoPaths(t *testing.T) {
	for _, text := range []string{"", "/", "/a", "/a/x", "//", " a/x", "A/x", "./a/x", "../a/x", "a", "a ", "a /x", "a\\x", "\x00", "a\x00/x", "é/x", "A", "a\n", strings.Repeat("x", 100), strings.Repeat("x/", 100)} {
		if got := filteredAsOthers(t, packsOf(branched), "[since]", []string{text}); !slices.Equal(got, []string{"a", "b", "c", "d", "e"}) {
			t.Errorf("where %q is changed it takes %q", text, got)
		}
		if got := filteredAsOthers(t, packsOf(branched), "[since]", []string{"b/x", text, "c/x"}); !slices.Equal(got, []string{"a", "b", "c", "d", "e"}) {
			t.Errorf("where %q is changed, too, it takes %q", text, got)
		}
	}
	for _, text := range []string{"b/", "b//", "b/A", "b/ ", "b/x/", "b//x", "b/../c/x", "b/./x", "b/x\n", "b/\x00", "b/é", "b/" + strings.Repeat("x", 100), "b/" + strings.Repeat("x/", 100), "b/c/d/e/f/g"} {
		if got := filteredAsOthers(t, packsOf(branched), "[since]", []string{text}); !slices.Equal(got, []string{"b"}) {
			t.Errorf("where %q is changed it takes %q", text, got)
		}
		if got := filteredAsOthers(t, packsOf(branched), "[since]", []string{"c/x", text}); !slices.Equal(got, []string{"b", "c"}) {
			t.Errorf("where %q is changed, too, it takes %q", text, got)
		}
	}
}

func TestSinceWithinForms(t *testing.T) {
	filteredAre(t, branched, "![since]", "b/x", "a c d e")
	filteredAre(t, branched, "![since]", "", "a b c d e")
	filteredAre(t, branched, "![since]", "top", "")
	filteredAre(t, branched, "!![since]", "b/x", "b")
	filteredAre(t, branched, "...[since]", "b/x", "b d")
	filteredAre(t, branched, "...[since]", "a/x", "a b c d")
	filteredAre(t, branched, "...[since]", "b/x c/x", "b c d")
	filteredAre(t, branched, "...[since]", "", "")
	filteredAre(t, branched, "...[since]", "b/x e", "a b c d e")
	filteredAre(t, branched, "[since]...", "b/x", "a b")
	filteredAre(t, branched, "[since]...", "d/x", "a b c d")
	filteredAre(t, branched, "[since]...", "e/x b/x", "a b e")
	filteredAre(t, branched, "...[since]...", "b/x", "a b c d")
	filteredAre(t, branched, "!...[since]", "b/x", "a c e")
	filteredAre(t, branched, "![since]...", "b/x", "c d e")
	filteredAre(t, ringed, "...[since]", "c/x", "b c d e")
	filteredAre(t, ringed, "[since]...", "c/x", "a b c d")
	filteredAre(t, ringed, "!...[since]", "c/x", "a f")
	// Each time it is asked it is the same.
	filteredAre(t, branched, "[since] ![since]", "b/x", "")
	filteredAre(t, branched, "[since] !a [since]", "b/x", "b")
	filteredAre(t, branched, "![since] [since]", "b/x", "a b c d e")
	filteredAre(t, branched, "[since] [since] [since] [since]", "e/x a/x", "a e")
}

// TestChangedCountsForSinceAlone: by any other filter what is changed is not looked at.
func TestChangedCountsForSinceAlone(t *testing.T) {
	for _, s := range []string{"*", "b", "!b", "...b", "b...", "* !...b c", "[since]*", "*[since]", "[!since]", "[sinc]"} {
		want := filteredAsOthers(t, packsOf(branched), s, nil)
		for _, changed := range [][]string{{}, {"b/x"}, {"top"}, {"", "a", "b/x"}, {"e/x", "e/x"}} {
			if got := filteredAsOthers(t, packsOf(branched), s, changed); !slices.Equal(got, want) {
				t.Errorf("by %q there are %q, or %q where %q is changed", s, want, got, changed)
			}
		}
	}
}

// TestSinceInEachOrder: the order of what is changed does not count, nor how often it is told.
func TestSinceInEachOrder(t *testing.T) {
	for _, told := range []string{"a/x b/y d/z", "a/x a/y top", "b/x b ab/x", "e/x e/y e/z"} {
		want := filteredAsOthers(t, packsOf(branched), "[since]", strings.Fields(told))
		eachOrder(strings.Fields(told), func(changed []string) {
			for _, l := range [][]string{changed, append(slices.Clone(changed), changed...), append(slices.Clone(changed), changed[0])} {
				if got := impl.Filtered(packsOf(branched), "[since]", l); !slices.Equal(got, want) {
					t.Errorf("where %q are changed it takes %q, not %q", l, got, want)
				}
			}
		})
	}
}

func TestManySince(t *testing.T) {
	r := rand.New(rand.NewSource(1405))
	long := map[int]int{}
	for range 20000 {
		l := anyWork(r)
		var changed []string
		for range r.Intn(4) {
			text := oneByte('a'+r.Intn(mostPacks)) + []string{"/", "/x", "/b/x", "//", "/x", "/y"}[r.Intn(6)]
			if r.Intn(10) == 0 {
				text = []string{"a", "", "/a", "ab/x", "b-/x", "A/x", "g/x", "a.b/x"}[r.Intn(8)]
			}
			changed = append(changed, text)
		}
		long[len(filteredAsOthers(t, l, "[since]", changed))]++
		if t.Failed() {
			t.FailNow()
		}
	}
	for n := range mostPacks + 1 {
		if long[n] < 500 {
			t.Errorf("how many were taken: %v", long)
		}
	}
}
