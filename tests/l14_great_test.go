package tests

import (
	"slices"
	"strings"
	"testing"

	"loop.example/g00464/impl"
)

// TestGreatFiltersOfForms: very many forms within each other.
func TestGreatFiltersOfForms(t *testing.T) {
	const n = 1000000
	for _, z := range []struct{ head, f, tail, want string }{
		{strings.Repeat("!", n), "b", "", "b"},
		{strings.Repeat("!", n+1), "b", "", "a c d e"},
		{strings.Repeat("...", n), "b", "", "b d"},
		{"", "b", strings.Repeat("...", n), "a b"},
		{strings.Repeat("...", n), "b", strings.Repeat("...", n), "a b c d"},
		{strings.Repeat("!...", n), "b", "", ""},
		{strings.Repeat("!", n), "[since]", strings.Repeat("...", n), "a b"},
		{strings.Repeat("!!...", n), "[since]", strings.Repeat("...", n), "a b c d"},
	} {
		s := z.head + z.f + z.tail
		if !impl.FilterOk(s) {
			t.Fatalf("%.20q with %d bytes is no filter", s, len(s))
		}
		if got := impl.Filtered(packsOf(branched), s, []string{"b/x"}); !slices.Equal(got, strings.Fields(z.want)) {
			t.Errorf("%.20q with %d bytes takes %q, not %s", s, len(s), got, z.want)
		}
		for _, wrong := range []string{z.head + z.tail, z.head + "A" + z.tail, z.head + " " + z.f, z.head + z.f + z.tail + " ", z.head + z.f + z.tail + "!"} {
			if impl.FilterOk(wrong) || len(impl.Filtered(packsOf(branched), wrong, nil)) != 0 {
				t.Errorf("%.20q with %d bytes is a filter", wrong, len(wrong))
			}
		}
	}
}

// TestGreatFiltersTakenAway: four of very many forms each.
func TestGreatFiltersTakenAway(t *testing.T) {
	const n = 300000
	away := strings.Repeat("!", 2*n+1)
	for s, want := range map[string]string{
		"* " + away + "b " + away + "c":                       "a d e",
		"* " + away + "b b... " + away + "a":                  "b c d e",
		"a " + strings.Repeat("...", n) + "b " + away + "d":   "a b",
		away + "b b " + away + strings.Repeat("...", n) + "b": "a c e",
	} {
		if got := impl.Filtered(packsOf(branched), s, nil); !slices.Equal(got, strings.Fields(want)) {
			t.Errorf("%.20q with %d bytes takes %q, not %s", s, len(s), got, want)
		}
	}
}

// TestGreatTextsThatAreNoFilters: long ones of one sign, and very many with blanks between.
func TestGreatTextsThatAreNoFilters(t *testing.T) {
	const n = 1000000
	for _, s := range []string{" ", "!", "...", "a", "*", "**", "?", "[a]", "[", "]", "[since]", "/", "**/", "a ", " a", "! ", "... ", "[since] ", "!...", "a...b", "\x00", "\xff", "A"} {
		long := strings.Repeat(s, n)
		if impl.FilterOk(long) || len(impl.Filtered(packsOf(branched), long, []string{"a/x"})) != 0 {
			t.Errorf("%q very often is a filter", s)
		}
	}
}

// TestGreatChanged: very many Paths of few packs, and one of none among them.
func TestGreatChanged(t *testing.T) {
	const n = 500000
	changed := make([]string, n)
	for i := range changed {
		changed[i] = []string{"b/x", "d/y/z", "b/" + strings.Repeat("q/", i%9)}[i%3]
	}
	l := packsOf(branched)
	if got := impl.Filtered(l, "[since]", changed); !slices.Equal(got, []string{"b", "d"}) {
		t.Errorf("of many that are changed are taken %q", got)
	}
	if got := impl.Filtered(l, "b !...[since] [since]... !b", changed); !slices.Equal(got, []string{"a", "c", "d"}) {
		t.Errorf("of many that are changed are taken %q", got)
	}
	for _, at := range []int{0, n / 2, n - 1} {
		kept := changed[at]
		changed[at] = "b"
		if got := impl.Filtered(l, "[since]", changed); !slices.Equal(got, []string{"a", "b", "c", "d", "e"}) {
			t.Errorf("of many and one of none are taken %q", got)
		}
		changed[at] = kept
	}
	long := strings.Repeat("x", 5000000)
	if got := impl.Filtered(l, "[since]", []string{"b/" + long}); !slices.Equal(got, []string{"b"}) {
		t.Errorf("of a long one of a pack are taken %q", got)
	}
	if got := impl.Filtered(l, "[since]", []string{"b/x", long}); len(got) != 5 {
		t.Errorf("of a long one of none are taken %q", got)
	}
}

// TestGreatPacksToFilter: so many are not PacksOk, and nothing is taken.
func TestGreatPacksToFilter(t *testing.T) {
	l := manyPacks(manyNames(100000), func(int) []string { return nil })
	for _, s := range []string{"*", "!q", "[since]", "...*", "*...", "p000001"} {
		if got := impl.Filtered(l, s, []string{"x"}); len(got) != 0 {
			t.Errorf("of very many packs %q takes %d", s, len(got))
		}
	}
	if got := impl.Filtered(slices.Repeat(packsOf("a"), 100000), "*", nil); len(got) != 0 {
		t.Errorf("of very many of one Name are taken %d", len(got))
	}
}

// TestGreatWants: very many packs, and very many names, in any order and more than once.
func TestGreatWants(t *testing.T) {
	const n = 200000
	names := manyNames(n)
	l := manyPacks(names, func(int) []string { return nil })
	var want []string
	for i := range l {
		l[i].Cmds = []impl.Cmd{cmd([]string{"build", "test"}[i%2], "x")}
		if i%2 == 0 {
			want = append(want, names[i]+"#build")
		}
	}
	asked := append(slices.Clone(names), names...)
	slices.Reverse(asked)
	if got := impl.WantOf(l, asked, "build"); !slices.Equal(got, want) {
		t.Errorf("of very many are wanted %d, not %d", len(got), len(want))
	}
	if got := impl.WantOf(l, asked, "lint"); len(got) != 0 {
		t.Errorf("of a task that none has are wanted %d", len(got))
	}
	if got := impl.WantOf(l, slices.Repeat([]string{names[0]}, n), "build"); !slices.Equal(got, want[:1]) {
		t.Errorf("of one name very often are wanted %d", len(got))
	}
	if got := impl.WantOf(workOf("a:build b"), slices.Repeat([]string{"b", "q", ""}, n), "build"); len(got) != 0 {
		t.Errorf("of names that have it not are wanted %d", len(got))
	}
	many := make([]impl.Cmd, n)
	for i := range many {
		many[i] = cmd(names[i], "x")
	}
	if got := impl.WantOf([]impl.Pack{{Name: "a", Cmds: many}}, []string{"a", "b"}, names[n-1]); !slices.Equal(got, []string{"a#" + names[n-1]}) {
		t.Errorf("of a pack with very many tasks are wanted %d", len(got))
	}
	long := strings.Repeat("x", 2000000)
	if got := impl.WantOf([]impl.Pack{{Name: long, Cmds: []impl.Cmd{cmd(long, "x")}}}, []string{long, long + "x"}, long); !slices.Equal(got, []string{long + "#" + long}) {
		t.Errorf("of a long name are wanted %d", len(got))
	}
}
