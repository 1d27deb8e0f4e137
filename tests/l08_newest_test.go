package tests

import (
	"fmt"
	"math"
	"math/rand"
	"slices"
	"strings"
	"testing"

	"loop.example/g00464/impl"
)

// othersNewest takes out again and again the first that no other is newer than; newer tells by places in an order of the tests' own.
func othersNewest(r []impl.Entry, name string, newer func(a, b impl.Ver) bool) []impl.Entry {
	var left, out []impl.Entry
	for _, e := range r {
		if e.Name == name {
			left = append(left, e)
		}
	}
	for len(left) > 0 {
		best := 0
		for i := range left {
			if newer(left[i].V, left[best].V) {
				best = i
			}
		}
		out = append(out, left[best])
		left = slices.Delete(left, best, best+1)
	}
	return out
}

func othersNewer(a, b impl.Ver) bool { return othersLess(a, b) > 0 }

func newestAre(t *testing.T, r []impl.Entry, name string, want []impl.Entry) {
	t.Helper()
	if got := impl.NewestFirst(r, name); !regsAlike(got, want) {
		t.Errorf("of %v the newest of %q are %v", r, name, got)
	}
}

func TestNewestFirst(t *testing.T) {
	const reg = "a@1.0.0 lib@0.9.0 lib@1.0.0-9 lib@1.0.0-10:a=1 lib@1.0.0-rc lib@1.0.0-rc.1 lib@1.0.0:a=1,b=2 lib@1.1.0-0 lib@2.0.0 lib-a@3.0.0 z@1.0.0-a z@1.0.0"
	for name, want := range map[string]string{
		"a":     "a@1.0.0",
		"lib":   "lib@2.0.0 lib@1.1.0-0 lib@1.0.0:a=1,b=2 lib@1.0.0-rc.1 lib@1.0.0-rc lib@1.0.0-10:a=1 lib@1.0.0-9 lib@0.9.0",
		"lib-a": "lib-a@3.0.0",
		"z":     "z@1.0.0 z@1.0.0-a",
		"b":     "", "li": "", "lib-": "", "liba": "", "LIB": "", "": "", "lib ": "", "lib@2.0.0": "", "0": "",
	} {
		newestAre(t, regOf(t, reg), name, regOf(t, want))
	}
	for _, name := range []string{"", "a", "A", strings.Repeat("a", 100000)} {
		newestAre(t, nil, name, nil)
		newestAre(t, []impl.Entry{}, name, nil)
	}
}

// TestWholeEntriesComeFirst: what comes is all of the Entry, with no Needs and with 4.
func TestWholeEntriesComeFirst(t *testing.T) {
	r := fullReg(t)
	want := slices.Clone(r[2:9])
	slices.Reverse(want)
	newestAre(t, r, "lib", want)
	if got := impl.NewestFirst(r, "lib"); len(got) != 7 || len(got[0].Needs) != 4 || len(got[1].Needs) != 0 || got[0].Needs[3] != need("z", "~2") || !slices.Equal(got[3].V.Pre, []string{"a", "1"}) {
		t.Errorf("they are not whole: %v", got)
	}
	newestAre(t, r, "log", r[11:])
	newestAre(t, r, "a", []impl.Entry{r[1], r[0]})
}

// TestNewestOfRegistriesNotInOrder: whatever the order, what comes is the same.
func TestNewestOfRegistriesNotInOrder(t *testing.T) {
	want := regOf(t, "a@2.0.0-0:x=5 a@1.0.0:x=4 a@1.0.0-b:x=3 a@1.0.0-10:x=2 a@1.0.0-9:x=1")
	others := regOf(t, "b@9.0.0 b@1.0.0")
	eachOrder(append(slices.Clone(want), others...), func(r []impl.Entry) {
		if !regsAlike(impl.NewestFirst(r, "a"), want) || !regsAlike(impl.NewestFirst(r, "b"), others) {
			t.Errorf("of %v the newest are %v", r, impl.NewestFirst(r, "a"))
		}
	})
}

// TestNewestOfAllVersions: each is newer than the next, whatever the order they come in.
func TestNewestOfAllVersions(t *testing.T) {
	l := ascendingVers()
	var r, want []impl.Entry
	for i, v := range l {
		r = append(r, entry("lib", v, need("at", fmt.Sprint(i))), entry("log", l[len(l)-1-i]))
		want = append(want, entry("lib", v, need("at", fmt.Sprint(i))))
	}
	slices.Reverse(want)
	rnd := rand.New(rand.NewSource(80))
	for range 200 {
		newestAre(t, r, "lib", want)
		got := impl.NewestFirst(r, "lib")
		for i := range got[:len(got)-1] {
			if !impl.LessVer(got[i+1].V, got[i].V) {
				t.Fatalf("%v is not newer than %v", got[i].V, got[i+1].V)
			}
		}
		rnd.Shuffle(len(r), func(i, k int) { r[i], r[k] = r[k], r[i] })
	}
}

// TestTwoOfOneVersion: both come, the first of the list ahead.
func TestTwoOfOneVersion(t *testing.T) {
	r := regOf(t, "a@1.0.0:x=1 a@2.0.0:x=2 a@1.0.0:x=3 b@1.0.0:x=4 a@1.0.0-a:x=5 a@2.0.0:x=6 a@1.0.0:x=7 a@1.0.0-a:x=8 b@1.0.0:x=9")
	newestAre(t, r, "a", regOf(t, "a@2.0.0:x=2 a@2.0.0:x=6 a@1.0.0:x=1 a@1.0.0:x=3 a@1.0.0:x=7 a@1.0.0-a:x=5 a@1.0.0-a:x=8"))
	newestAre(t, r, "b", regOf(t, "b@1.0.0:x=4 b@1.0.0:x=9"))
	slices.Reverse(r)
	newestAre(t, r, "b", regOf(t, "b@1.0.0:x=9 b@1.0.0:x=4"))
	// So many that an order that is not kept would be seen.
	var many, want []impl.Entry
	for i := range 3000 {
		many = append(many, entry("a", ver(1, 0, i%3), need("x", fmt.Sprint(i))))
	}
	for c := 2; c >= 0; c-- {
		for i := c; i < len(many); i += 3 {
			want = append(want, many[i])
		}
	}
	if !regsAlike(impl.NewestFirst(many, "a"), want) {
		t.Error("of many of one version the order is not kept")
	}
}

// TestNewestOfWrongVersions: the chapter names no other answer for what is not VerOk, so the order of versions holds for that, too.
func TestNewestOfWrongVersions(t *testing.T) {
	newestDown := []impl.Ver{
		ver(math.MaxInt, 0, 0), ver(10000, 0, 0), ver(10000, 0, 0, "0"), ver(1, 2, 3), preVer("é"), preVer("b"), preVer("a.b"), preVer("a", "b", "c", "d"), preVer("a", "b", "c"), preVer("a"), preVer("_"), preVer("007"), preVer("00"), preVer("9"), preVer("", "0"), preVer("", ""), preVer(""),
		ver(0, 0, math.MaxInt), ver(0, 0, 0), ver(0, 0, -1), ver(0, -1, 0), ver(-1, 0, 0), ver(math.MinInt, 0, 0),
	}
	var r, want []impl.Entry
	for i, v := range newestDown {
		want = append(want, entry("No name", v, need("", fmt.Sprint(i)), need("", "none")))
	}
	r = append(slices.Clone(want), entry("", impl.Ver{}), entry("no name", ver(1, 0, 0)))
	rnd := rand.New(rand.NewSource(81))
	for range 200 {
		newestAre(t, r, "No name", want)
		newestAre(t, r, "", []impl.Entry{{}})
		newestAre(t, r, "no", nil)
		rnd.Shuffle(len(r), func(i, k int) { r[i], r[k] = r[k], r[i] })
	}
}

func TestNewestOfManyRegistries(t *testing.T) {
	rnd := rand.New(rand.NewSource(82))
	for range 20000 {
		r := anyReg(rnd)
		for i := range r {
			if !othersVerOk(r[i].V) {
				r[i].V = ver(1, 0, 0)
			}
		}
		for _, name := range []string{"a", "b", "lib", "lib-a", "", "A"} {
			newestAre(t, r, name, othersNewest(r, name, othersNewer))
		}
		if t.Failed() {
			t.FailNow()
		}
	}
}

func entryIs(t *testing.T, r []impl.Entry, name string, v impl.Ver, want impl.Entry) {
	t.Helper()
	if e, ok := impl.EntryOf(r, name, v); !ok || !entriesAlike(e, want) {
		t.Errorf("in %v %q of %v is %v, %v", r, name, v, e, ok)
	}
}

func noEntry(t *testing.T, r []impl.Entry, name string, v impl.Ver) {
	t.Helper()
	if e, ok := impl.EntryOf(r, name, v); ok || !entriesAlike(e, impl.Entry{}) {
		t.Errorf("in %v there is %q of %v: %v, %v", r, name, v, e, ok)
	}
}

func TestEntryOf(t *testing.T) {
	r := fullReg(t)
	for _, e := range r {
		entryIs(t, r, e.Name, e.V, e)
	}
	for _, told := range []string{
		"a@0.0.1", "a@0.0.0-1", "a@0.0.0-0.0", "a@1.0.0", "lib@1.0.0-11", "lib@1.0.0-b", "lib@1.0.0-a.1.0", "lib@1.0.0-A", "lib@1.0.0-1", "lib@1.0.1", "lib@10.0.0-0", "lib@0.0.0", "lib@0.0.0-0", "lib@9999.9999.9999", "lib@1.0.10", "lib@0.10.0",
		"log@10.0.0", "log@1.0.0-9", "z@1.0.0", "li@1.0.0", "liba@1.0.0", "lib-@1.0.0", "lib-a@0.9999.9999", "lib-a@9999.9999.9999-0", "LIB@1.0.0", "@1.0.0", "A@0.0.0",
	} {
		e := regOf(t, told)[0]
		noEntry(t, r, e.Name, e.V)
		noEntry(t, nil, e.Name, e.V)
	}
	noEntry(t, nil, "", impl.Ver{})
	noEntry(t, []impl.Entry{}, "a", ver(1, 0, 0))
}

// TestTheFirstOfThisVersion: of two that are alike the first one counts, in whatever order the registry is.
func TestTheFirstOfThisVersion(t *testing.T) {
	r := regOf(t, "b@1.0.0:x=1 a@1.0.0:x=2 a@2.0.0:x=3 a@1.0.0:x=4 b@1.0.0:x=5 a@1.0.0-a:x=6 a@1.0.0-a a@2.0.0:x=7")
	for told, at := range map[string]int{"b@1.0.0": 0, "a@1.0.0": 1, "a@2.0.0": 2, "a@1.0.0-a": 5} {
		e := regOf(t, told)[0]
		entryIs(t, r, e.Name, e.V, r[at])
	}
	noEntry(t, r, "b", ver(2, 0, 0))
	slices.Reverse(r)
	for told, at := range map[string]int{"b@1.0.0": 3, "a@1.0.0": 4, "a@2.0.0": 0, "a@1.0.0-a": 1} {
		e := regOf(t, told)[0]
		entryIs(t, r, e.Name, e.V, r[at])
	}
}

func TestNoPreOfAnyForm(t *testing.T) {
	none, empty := impl.Ver{A: 1}, impl.Ver{A: 1, Pre: []string{}}
	for _, there := range []impl.Ver{none, empty} {
		for _, asked := range []impl.Ver{none, empty} {
			entryIs(t, []impl.Entry{entry("a", there)}, "a", asked, entry("a", none))
		}
		noEntry(t, []impl.Entry{entry("a", there)}, "a", ver(1, 0, 0, ""))
		noEntry(t, []impl.Entry{entry("a", ver(1, 0, 0, ""))}, "a", there)
	}
}

// lookalikes are names and versions, right ones and wrong ones, that would be alike if their texts were put together carelessly.
func lookalikes() []impl.Entry {
	var out []impl.Entry
	long := strings.Repeat("a", 300)
	for _, pre := range [][]string{
		nil, {""}, {"", ""}, {"", "", ""}, {"", "", "", ""}, {"a"}, {"a", ""}, {"", "a"}, {"a", "b"}, {"a.b"}, {"ab"}, {"ab", ""}, {"", "ab"}, {"a", "b", "c"}, {"a", "bc"}, {"ab", "c"}, {"abc"}, {"a.b.c"}, {"a", "b.c"}, {"a.b", "c"}, {"a", "b", "c", "d"}, {"a", "b", "c", "e"}, {"a", "b", "c", ""}, {"a", "b", "c", "d", "e"},
		{"0"}, {"00"}, {"0", "0"}, {"1"}, {"01"}, {"10"}, {"1", "0"}, {"1:a"}, {"1:a1:b"}, {"a1:b"}, {"a", "1:b"}, {"1:", "a"}, {"0:"}, {":"}, {"1", ":"}, {"11"}, {"1", "1"}, {"2", "abcdefghij"}, {"10abcdefghij"}, {"a\x00b"}, {"a\x00", "b"}, {"a", "\x00b"}, {"a-b"}, {"a", "-b"}, {"a,b"}, {"a/b"}, {"a b"}, {"A"}, {"\xff"}, {"\xef\xbf\xbd"},
		{long}, {long, ""}, {long + "a"}, {long[:299], "a"}, {long[:255]}, {long[:256]},
	} {
		out = append(out, entry("a", preVer(pre...)))
	}
	for _, v := range []impl.Ver{ver(1, 2, 4), ver(1, 3, 3), ver(2, 2, 3), ver(3, 2, 1), ver(12, 3, 0), ver(1, 23, 0), ver(123, 0, 0), ver(0, 0, 123), ver(-1, 2, 3), ver(1, -2, 3), ver(1, 2, -3), ver(1+1<<32, 2, 3), ver(1, 2+1<<16, 3), ver(1, 2, 3+256), ver(math.MinInt, 0, 0), ver(math.MaxInt, 0, 0), ver(0, 0, 0)} {
		out = append(out, entry("a", v))
	}
	for _, name := range []string{"", "a1", "a ", "a@", "a@1.2.3", "A", "aa", "b", "\xff", "1:a", "a1:a", "a-a", long} {
		out = append(out, entry(name, preVer()), entry(name, preVer("a")))
	}
	return out
}

// TestEntriesThatLookAlike: each is found as itself, and not where it is not.
func TestEntriesThatLookAlike(t *testing.T) {
	kept := lookalikes()
	for i := range kept {
		kept[i].Needs = []impl.Need{need("at", fmt.Sprint(i))}
	}
	for i, e := range kept {
		entryIs(t, kept, e.Name, e.V, e)
		noEntry(t, slices.Delete(slices.Clone(kept), i, i+1), e.Name, e.V)
		for k, other := range kept {
			if _, ok := impl.EntryOf(kept[k:k+1], e.Name, e.V); ok != (i == k) {
				t.Errorf("%v is taken for %v", other, e)
			}
		}
	}
}

// TestVersionsThatAreNone: the chapter names no other answer for what is not VerOk: it is found if it is there.
func TestVersionsThatAreNone(t *testing.T) {
	for _, v := range wrongVers() {
		noEntry(t, fullReg(t), "lib", v)
		noEntry(t, []impl.Entry{entry("a", ver(1, 2, 3)), entry("a", ver(0, 0, 0))}, "a", v)
		e := entry("a", v, need("b", "1"))
		entryIs(t, append(fullReg(t), e), "a", v, e)
		noEntry(t, append(fullReg(t), e), "lib", v)
	}
}

func TestEntryOfManyRegistries(t *testing.T) {
	rnd := rand.New(rand.NewSource(83))
	found := 0
	for range 20000 {
		r := anyReg(rnd)
		for range 4 {
			asked := anyEntry(rnd)
			if len(r) > 0 && rnd.Intn(2) == 0 {
				asked = r[rnd.Intn(len(r))]
			}
			at := slices.IndexFunc(r, func(e impl.Entry) bool { return e.Name == asked.Name && verAlike(e.V, asked.V) })
			if at < 0 {
				noEntry(t, r, asked.Name, asked.V)
			} else {
				found++
				entryIs(t, r, asked.Name, asked.V, r[at])
			}
		}
		if t.Failed() {
			t.FailNow()
		}
	}
	if found < 30000 || found > 70000 {
		t.Errorf("%d were found", found)
	}
}

// TestGreatRegistries: what is far too great is answered, too.
func TestGreatRegistries(t *testing.T) {
	const n = 200000
	var r []impl.Entry
	for i := range n {
		r = append(r, entry("a", ver(i%7, i, 0), need("b", "1")))
	}
	got := impl.NewestFirst(r, "a")
	if len(got) != n || got[0].V.A != 6 || got[n-1].V.A != 0 || got[n-1].V.B != 0 || len(impl.NewestFirst(r, "b")) != 0 {
		t.Error("the newest of many")
	}
	if e, ok := impl.EntryOf(r, "a", ver((n-1)%7, n-1, 0)); !ok || e.V.B != n-1 {
		t.Error("the last of many")
	}
	if _, ok := impl.EntryOf(r, "a", ver(0, n, 0)); ok {
		t.Error("none of many")
	}
	long, many := strings.Repeat("a", n), slices.Repeat([]string{"a"}, n)
	great := entry(long, preVer(append(slices.Clone(many), long)...), slices.Repeat([]impl.Need{need(long, long)}, 100)...)
	less := great
	less.V.Pre = many
	for _, e := range []impl.Entry{great, less} {
		if got, ok := impl.EntryOf([]impl.Entry{great, less}, long, e.V); !ok || !entriesAlike(got, e) {
			t.Error("a great Entry is not found")
		}
	}
	if got := impl.NewestFirst([]impl.Entry{less, great}, long); !regsAlike(got, []impl.Entry{great, less}) {
		t.Error("the newest of great Entries")
	}
}
