package tests

import (
	"maps"
	"math/rand"
	"slices"
	"strings"
	"testing"

	"loop.example/g00464/impl"
)

// A nameSet has the Names that a filter takes.
type nameSet map[string]bool

// reachedFrom adds what next tells of each of them.
func (m nameSet) reachedFrom(next func(name string) []string) nameSet {
	out := maps.Clone(m)
	for name := range m {
		for _, other := range next(name) {
			out[other] = true
		}
	}
	return out
}

func namesThat(l []impl.Pack, take func(name string) bool) nameSet {
	out := nameSet{}
	for _, p := range l {
		if take(p.Name) {
			out[p.Name] = true
		}
	}
	return out
}

// othersSince asks of each changed Path whether it is of any pack, then of each pack whether a Path is of it.
func othersSince(l []impl.Pack, changed []string) nameSet {
	under := func(path string) bool {
		return slices.ContainsFunc(l, func(p impl.Pack) bool { return strings.HasPrefix(path, p.Name+"/") })
	}
	another := slices.ContainsFunc(changed, func(path string) bool { return !under(path) })
	return namesThat(l, func(name string) bool {
		return another || slices.ContainsFunc(changed, func(path string) bool { return strings.HasPrefix(path, name+"/") })
	})
}

// othersTaken is what one form takes of packs that are right.
func othersTaken(l []impl.Pack, m leaning, s string, changed []string) nameSet {
	switch {
	case strings.HasPrefix(s, "!"):
		f := othersTaken(l, m, s[1:], changed)
		return namesThat(l, func(name string) bool { return !f[name] })
	case strings.HasPrefix(s, "..."):
		return othersTaken(l, m, s[3:], changed).reachedFrom(m.deepUsedBy)
	case strings.HasSuffix(s, "..."):
		return othersTaken(l, m, s[:len(s)-3], changed).reachedFrom(m.deepUses)
	case s == "[since]":
		return othersSince(l, changed)
	}
	return namesThat(l, othersMatch(s))
}

func othersFiltered(l []impl.Pack, s string, changed []string) []string {
	if !othersFilterOk(s) || !othersPacksOk(l) {
		return nil
	}
	m, out := leaningOf(l), nameSet{}
	for i, text := range strings.Split(s, " ") {
		if i > 0 && text[0] == '!' {
			maps.DeleteFunc(out, func(name string, _ bool) bool { return othersTaken(l, m, text[1:], changed)[name] })
			continue
		}
		maps.Copy(out, othersTaken(l, m, text, changed))
	}
	return slices.Sorted(maps.Keys(out))
}

// filteredPromised wants Names of packs that are there, ascending, each once.
func filteredPromised(t *testing.T, l []impl.Pack, s string, got []string) {
	t.Helper()
	if !strictly(got) {
		t.Errorf("what %q takes does not ascend: %q", s, got)
	}
	for _, name := range got {
		if impl.FindPack(l, name) < 0 {
			t.Errorf("%q takes %q, which is not there", s, name)
		}
	}
}

func filteredAsOthers(t *testing.T, l []impl.Pack, s string, changed []string) []string {
	t.Helper()
	got := impl.Filtered(l, s, changed)
	filteredPromised(t, l, s, got)
	if want := othersFiltered(l, s, changed); !slices.Equal(got, want) {
		t.Errorf("of %v %.100q takes %q, not %q (changed: %.100q)", l, s, got, want, changed)
	}
	return got
}

// filteredAre tells packs, what is changed and what is wanted with blanks between.
func filteredAre(t *testing.T, packs, s, changed, want string) {
	t.Helper()
	if got := filteredAsOthers(t, packsOf(packs), s, strings.Fields(changed)); !slices.Equal(got, strings.Fields(want)) {
		t.Errorf("of %s %q takes %q, not %s", packs, s, got, want)
	}
}

const (
	chained  = "a b=a c=b d=c"
	branched = "a b=a c=a d=b,c e"
	ringed   = "a b=a,c c=d d=b e=d f"
)

func TestFilteredByPatterns(t *testing.T) {
	for _, packs := range []string{chained, branched, ringed} {
		filteredAre(t, packs, "a", "", "a")
		filteredAre(t, packs, "b", "", "b")
		filteredAre(t, packs, "[bd]", "", "b d")
		filteredAre(t, packs, "?", "", packsAll(packs))
		filteredAre(t, packs, "*", "", packsAll(packs))
		filteredAre(t, packs, "**", "", packsAll(packs))
	}
	filteredAre(t, "app app-test base lib lib-test", "*-test", "", "app-test lib-test")
	filteredAre(t, "app app-test base lib lib-test", "lib*", "", "lib lib-test")
	filteredAre(t, "app app-test base lib lib-test", "???", "", "app lib")
	filteredAre(t, "app app-test base lib lib-test", "[!l]*", "", "app app-test base")
	filteredAre(t, "app app-test base lib lib-test", "*a*", "", "app app-test base")
	filteredAre(t, "abcdefghij", "abcdefghij", "", "abcdefghij")
	filteredAre(t, "abcdefghij", "??????????", "", "abcdefghij")
	filteredAre(t, "since s i n", "since", "", "")
	filteredAre(t, "i n s since", "since", "", "since")
	// The sets of a pattern are taken where it is not `[since]` alone.
	filteredAre(t, "a c e i n s", "[since]*", "", "c e i n s")
	filteredAre(t, "a c e i n s", "[ecnis]", "", "c e i n s")
	filteredAre(t, "a c e i n s", "[!since]", "", "a")
	filteredAre(t, "a c e i n s", "[since]", "", "")
}

// packsAll are all Names of packs that are told, as they are told.
func packsAll(packs string) string {
	var out []string
	for _, p := range packsOf(packs) {
		out = append(out, p.Name)
	}
	return strings.Join(out, " ")
}

func TestFilteredByPatternsThatTakeNone(t *testing.T) {
	for _, packs := range []string{chained, branched, ringed} {
		for _, glob := range []string{"q", "ab", "??", "[xyz]", "[!abcde]?", ".", "a.", "_", "0"} {
			filteredAre(t, packs, glob, "", "")
			filteredAre(t, packs, "..."+glob, "", "")
			filteredAre(t, packs, glob+"...", "", "")
			filteredAre(t, packs, "..."+glob+"...", "", "")
			filteredAre(t, packs, "!"+glob, "", packsAll(packs))
			filteredAre(t, packs, "!..."+glob, "", packsAll(packs))
			filteredAre(t, packs, "!!"+glob, "", "")
			filteredAre(t, packs, "a "+glob, "", "a")
			filteredAre(t, packs, glob+" a", "", "a")
			filteredAre(t, packs, "a !"+glob, "", "a")
		}
	}
}

func TestFilteredByOthers(t *testing.T) {
	filteredAre(t, chained, "!a", "", "b c d")
	filteredAre(t, chained, "!d", "", "a b c")
	filteredAre(t, branched, "![bd]", "", "a c e")
	filteredAre(t, branched, "!*", "", "")
	filteredAre(t, ringed, "!q", "", "a b c d e f")
	filteredAre(t, ringed, "!c", "", "a b d e f")
	// Those of those.
	filteredAre(t, chained, "!!a", "", "a")
	filteredAre(t, chained, "!!!a", "", "b c d")
	filteredAre(t, chained, "!!*", "", "a b c d")
	filteredAre(t, branched, "!!!!c", "", "c")
}

func TestFilteredByUsers(t *testing.T) {
	filteredAre(t, chained, "...a", "", "a b c d")
	filteredAre(t, chained, "...b", "", "b c d")
	filteredAre(t, chained, "...d", "", "d")
	filteredAre(t, chained, "...[bd]", "", "b c d")
	filteredAre(t, branched, "...a", "", "a b c d")
	filteredAre(t, branched, "...b", "", "b d")
	filteredAre(t, branched, "...c", "", "c d")
	filteredAre(t, branched, "...[ce]", "", "c d e")
	filteredAre(t, branched, "...e", "", "e")
	// In a ring all use each other, and what leads to it uses them; what they use uses none.
	filteredAre(t, ringed, "...b", "", "b c d e")
	filteredAre(t, ringed, "...c", "", "b c d e")
	filteredAre(t, ringed, "...d", "", "b c d e")
	filteredAre(t, ringed, "...a", "", "a b c d e")
	filteredAre(t, ringed, "...e", "", "e")
	filteredAre(t, ringed, "...f", "", "f")
}

func TestFilteredByUses(t *testing.T) {
	filteredAre(t, chained, "d...", "", "a b c d")
	filteredAre(t, chained, "c...", "", "a b c")
	filteredAre(t, chained, "a...", "", "a")
	filteredAre(t, chained, "[ac]...", "", "a b c")
	filteredAre(t, branched, "d...", "", "a b c d")
	filteredAre(t, branched, "b...", "", "a b")
	filteredAre(t, branched, "c...", "", "a c")
	filteredAre(t, branched, "[be]...", "", "a b e")
	filteredAre(t, branched, "e...", "", "e")
	filteredAre(t, ringed, "b...", "", "a b c d")
	filteredAre(t, ringed, "c...", "", "a b c d")
	filteredAre(t, ringed, "d...", "", "a b c d")
	filteredAre(t, ringed, "e...", "", "a b c d e")
	filteredAre(t, ringed, "a...", "", "a")
	filteredAre(t, ringed, "f...", "", "f")
	filteredAre(t, ringed, "[af]...", "", "a f")
}

func TestFilteredByFormsWithinForms(t *testing.T) {
	// The form outermost is done last, and `...` ahead lies around that behind.
	filteredAre(t, chained, "...b...", "", "a b c d")
	filteredAre(t, branched, "...b...", "", "a b c d")
	filteredAre(t, branched, "...c...", "", "a b c d")
	filteredAre(t, "a b c=a,b d=b", "...c...", "", "a b c d")
	filteredAre(t, "a b c=a,b d=b", "...d...", "", "b c d")
	filteredAre(t, "a=c b=c c d", "a...", "", "a c")
	filteredAre(t, "a=c b=c c d", "...a...", "", "a b c")
	// Twice the same is as once.
	filteredAre(t, chained, "......b", "", "b c d")
	filteredAre(t, chained, "b......", "", "a b")
	// `!` around the others, and within them.
	filteredAre(t, chained, "!...b", "", "a")
	filteredAre(t, chained, "!b...", "", "c d")
	filteredAre(t, chained, "!...b...", "", "")
	filteredAre(t, branched, "!...b", "", "a c e")
	filteredAre(t, branched, "!b...", "", "c d e")
	filteredAre(t, branched, "...!b", "", "a b c d e")
	filteredAre(t, branched, "...![ab]", "", "c d e")
	filteredAre(t, branched, "...!*", "", "")
	filteredAre(t, branched, "!...![ab]", "", "a b")
	filteredAre(t, branched, "!...!b...", "", "a b")
	filteredAre(t, ringed, "!...e", "", "a b c d f")
	filteredAre(t, ringed, "!b...", "", "e f")
	filteredAre(t, ringed, "!...b", "", "a f")
	filteredAre(t, ringed, "...!...b", "", "a b c d e f")
	filteredAre(t, ringed, "!!...b", "", "b c d e")
}

func TestFilteredByDotsOfPatterns(t *testing.T) {
	// No Name has a dot: what is left over of dots takes none.
	for _, s := range []string{".", "..", "....", ".....", "a.", ".a", "a....", "....a", ".......", "...a..", "..a..."} {
		filteredAre(t, chained, s, "", "")
		filteredAre(t, chained, "!"+s, "", "a b c d")
	}
	filteredAre(t, chained, "*.", "", "")
	filteredAre(t, chained, "*...", "", "a b c d")
}

func TestFilteredOfNoPacks(t *testing.T) {
	for _, s := range []string{"a", "*", "!a", "!*", "...a", "a...", "[since]", "![since]", "* !a b", "!!*"} {
		for _, changed := range []string{"", "a/x", "x"} {
			filteredAre(t, "", s, changed, "")
		}
	}
}

func TestFilteredByNoFilter(t *testing.T) {
	for _, packs := range []string{"", "a", chained, branched, ringed} {
		for _, s := range []string{"", " ", "!", "...", "......", "!...", "!!", "A", "a/b", "**/a", "a  b", " a", "a ", "a b c d e", "* * * * *", "* !", "* ...", "a A", "A a", "!A", "*\n", "[since", "[since] ", "[]", "[abc][abc][abc][abc]*", "* a/b", "a\x00"} {
			for _, changed := range []string{"", "a/x", "x"} {
				filteredAre(t, packs, s, changed, "")
			}
		}
	}
}

// TestFilteredOfWrongPacks: one that is wrong spoils all.
func TestFilteredOfWrongPacks(t *testing.T) {
	wrong := [][]impl.Pack{
		packsOf("b a"), packsOf("a a"), packsOf("a b c d e f g"), packsOf("a=q"), packsOf("a=b"), packsOf("a=a"), packsOf("a b=c,a c"), packsOf("a b=a,a"), packsOf("A"), packsOf("a b=a thirteen-byt"),
		{{}}, {{Name: "a"}, {}}, {withNeeds(need("x", "no"))}, {withCmds(impl.Cmd{Task: "t"})}, {withCmds(cmd("u", "x"), cmd("t", "x"))}, {withNeeds(need("b", "1"), need("a", "1"))},
		append(packsOf("a b c"), withCmds(cmd("T", "x"))),
	}
	for _, l := range wrong {
		packsOrNot(t, l, false)
		for _, s := range []string{"*", "a", "!q", "...a", "*...", "[since]", "![since]", "* !b", "main", "?", ""} {
			for _, changed := range [][]string{nil, {"a/x"}, {"x"}} {
				if got := filteredAsOthers(t, l, s, changed); len(got) != 0 {
					t.Errorf("of %q %q takes %q", l, s, got)
				}
			}
		}
	}
}

// TestFilteredOfMostPacks: all six places are gone to.
func TestFilteredOfMostPacks(t *testing.T) {
	const six = "a b=a c=b d=c e=d f=e"
	for i, c := range "abcdef" {
		name, ahead, behind := string(c), strings.Join(strings.Split("abcdef"[:i+1], ""), " "), strings.Join(strings.Split("abcdef"[i:], ""), " ")
		filteredAre(t, six, name, "", name)
		filteredAre(t, six, name+"...", "", ahead)
		filteredAre(t, six, "..."+name, "", behind)
		filteredAre(t, six, "!"+name, "", strings.Join(strings.Split(strings.Replace("abcdef", name, "", 1), ""), " "))
		filteredAre(t, six, "[since]", name+"/x", name)
	}
	filteredAre(t, six, "*", "", "a b c d e f")
	filteredAre(t, six, "[since]", "x", "a b c d e f")
	filteredAre(t, six, "* !*", "", "")
}

// TestFilteredHangsOnNamesAndUsesAlone: not on Needs and Cmds.
func TestFilteredHangsOnNamesAndUsesAlone(t *testing.T) {
	l := packsOf(branched)
	for i := range l {
		l[i].Needs = []impl.Need{need("a", "1"), need("e", "*")}
		l[i].Cmds = []impl.Cmd{cmd("b", "use a#b c > d"), cmd("e", "fail")}
	}
	for _, s := range []string{"*", "...a", "d...", "!...b", "[since]", "e", "* !...b c"} {
		if got, want := filteredAsOthers(t, l, s, []string{"b/x"}), impl.Filtered(packsOf(branched), s, []string{"b/x"}); !slices.Equal(got, want) {
			t.Errorf("by %q of packs with tasks there are %q, not %q", s, got, want)
		}
	}
}

// formsToAsk are all forms of few signs around these.
func formsToAsk() []string {
	var out []string
	for _, glob := range []string{"a", "b", "[bc]", "*", "q", "[since]"} {
		for _, head := range []string{"", "!", "...", "!!", "!...", "...!", "!...!", "...!..."} {
			for _, tail := range []string{"", "..."} {
				out = append(out, head+glob+tail)
			}
		}
	}
	return out
}

func TestFormsOfAllLeaningsOfThree(t *testing.T) {
	forms, asked := formsToAsk(), 0
	eachLeaning([]string{"a", "b", "c"}, []string{"a", "b", "c"}, func(l []impl.Pack) {
		if !othersPacksOk(l) {
			return
		}
		for _, s := range forms {
			for _, changed := range [][]string{nil, {"b/x"}} {
				filteredAsOthers(t, l, s, changed)
				asked++
			}
		}
	})
	if asked != 64*len(forms)*2 {
		t.Errorf("%d were asked", asked)
	}
}

// anyChanged are Paths of packs, and, not often, others.
func anyChanged(r *rand.Rand, l []impl.Pack) []string {
	var out []string
	for range r.Intn(4) {
		path := anyPath(r)
		if len(l) > 0 && r.Intn(8) > 0 {
			path = l[r.Intn(len(l))].Name + "/" + path
		}
		out = append(out, path)
	}
	return out
}

func TestManyFiltered(t *testing.T) {
	r := rand.New(rand.NewSource(1402))
	long := map[int]int{}
	all := 0
	for range 20000 {
		l := anyWork(r)
		got := filteredAsOthers(t, l, anyFilter(r), anyChanged(r, l))
		if t.Failed() {
			t.FailNow()
		}
		long[len(got)]++
		if len(got) == len(l) {
			all++
		}
	}
	for n := range mostPacks + 1 {
		if long[n] < 500 {
			t.Errorf("filters by how many they take: %v", long)
		}
	}
	if all < 2000 || all > 15000 {
		t.Errorf("%d took all", all)
	}
}
