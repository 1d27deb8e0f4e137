package tests

import (
	"math/rand"
	"slices"
	"strings"
	"testing"

	"loop.example/g00464/impl"
)

// picksJust wants globs (with blanks between) to pick these files.
func picksJust(t *testing.T, l []impl.File, globs string, want []impl.File) {
	t.Helper()
	if got := impl.Picked(l, strings.Fields(globs)); !filesAlike(got, want) {
		t.Errorf("of %q %q pick %q", l, globs, got)
	}
}

func TestPicked(t *testing.T) {
	const all = "a=1 a/x=2 a/y= b/x=4 b/x/y=5 top=6"
	for _, z := range []struct{ l, globs, want string }{
		{"", "", ""},
		{"", "**", ""},
		{"", "** a b/c", ""},
		{all, "", ""},
		{all, "**", all},
		{all, "** **", all},
		{all, "** a */x", all},
		{all, "*/** top", all},
		{all, "none", ""},
		{all, "none x y/* **/z", ""},
		{all, "a", "a=1"},
		{all, "a/y", "a/y="},
		{all, "top", "top=6"},
		{all, "*", "a=1 top=6"},
		{all, "*/x", "a/x=2 b/x=4"},
		{all, "*/x top a/x", "a/x=2 b/x=4 top=6"},
		{all, "top a/x */x", "a/x=2 b/x=4 top=6"},
		{all, "top a", "a=1 top=6"},
		{all, "a a a", "a=1"},
		{all, "a **/a a/** ?", "a=1 a/x=2 a/y="},
		{all, "**/y", "a/y= b/x/y=5"},
		{all, "b/**", "b/x=4 b/x/y=5"},
		{all, "none a/y none", "a/y="},
		{all, "[ab]/[!x]", "a/y="},
		{all, "??? a", "a=1 top=6"},
	} {
		picksJust(t, filesOf(z.l), z.globs, filesOf(z.want))
	}
	for _, globs := range [][]string{nil, {}} {
		if got := impl.Picked(filesOf(all), globs); len(got) != 0 {
			t.Errorf("no patterns pick %q", got)
		}
	}
	for _, l := range [][]impl.File{nil, {}} {
		if got := impl.Picked(l, []string{"**"}); len(got) != 0 {
			t.Errorf("of no files %q are picked", got)
		}
	}
}

func TestWrongPatternsPickNothing(t *testing.T) {
	l := filesOf("a=1 a/b=2 b=3")
	for _, glob := range []string{"", "/", "a/", "/a", "a//b", "A", "[", "[]", "[a", "a]", "[abcdef]", "*************", "a/b/c/d/e", "**/**/**/**/**", " ", "a b", "** ", "é"} {
		for _, z := range []struct {
			globs []string
			want  string
		}{
			{[]string{glob}, ""},
			{[]string{glob, glob}, ""},
			{[]string{glob, "a"}, "a=1"},
			{[]string{"a", glob}, "a=1"},
			{[]string{"a", glob, "*/b"}, "a=1 a/b=2"},
			{[]string{glob, "**"}, "a=1 a/b=2 b=3"},
		} {
			if got := impl.Picked(l, z.globs); !filesAlike(got, filesOf(z.want)) {
				t.Errorf("%q pick %q", z.globs, got)
			}
		}
	}
}

// TestPickedOfWrongLists: a list need not be FilesOk; of what is in it each file of a Path that is taken comes, in its place.
func TestPickedOfWrongLists(t *testing.T) {
	for _, l := range wrongLists() {
		for _, globs := range []string{"**", "*", "a", "b c", "dir/*", "dir/f00? **/a", "none"} {
			var want []impl.File
			for _, f := range l {
				if slices.ContainsFunc(strings.Fields(globs), func(glob string) bool { return othersMatch(glob)(f.Path) }) {
					want = append(want, f)
				}
			}
			picksJust(t, l, globs, want)
		}
	}
	for _, z := range []struct{ l, globs, want string }{
		{"b=1 a=2", "a b", "b=1 a=2"},
		{"c=1 b=2 a=3", "a c", "c=1 a=3"},
		{"a=1 a=2", "a", "a=1 a=2"},
		{"a=1 b=2 a=3", "a", "a=1 a=3"},
		{"A=1 a=2 B=3", "**", "a=2"},
		{"=1 a=2 a/=3 /a=4 a//b=5 .=6 ..=7", "** * a/* a/**", "a=2"},
		{"a/b/c/d=1 a/b/c/d/e=2", "**", "a/b/c/d=1"},
		{"thirteen-byte=1 twelve-bytes=2", "* t*", "twelve-bytes=2"},
	} {
		picksJust(t, filesOf(z.l), z.globs, filesOf(z.want))
	}
	long := []impl.File{{Path: "a", Text: strings.Repeat("x", mostFileText+1)}, {Path: "b", Text: "\x00\xff\n"}}
	picksJust(t, long, "**", long)
}

func TestManyPicked(t *testing.T) {
	r := rand.New(rand.NewSource(6))
	for range 2000 {
		var globs []string
		for range r.Intn(4) {
			globs = append(globs, anyGlob(r))
		}
		var l, want []impl.File
		for range r.Intn(8) {
			f := impl.File{Path: anyPath(r), Text: strings.Repeat("x", r.Intn(3))}
			if len(globs) > 0 && r.Intn(2) == 0 {
				f.Path = likely(r, globs[r.Intn(len(globs))])
			}
			l = append(l, f)
			if slices.ContainsFunc(globs, func(glob string) bool { return othersMatch(glob)(f.Path) }) {
				want = append(want, f)
			}
		}
		picksJust(t, l, strings.Join(globs, " "), want)
	}
}

// TestPickedPart holds that what is picked of all is a part of it that is right, too, and that picking anew changes nothing.
func TestPickedPart(t *testing.T) {
	l := numbered(mostFiles)
	picksJust(t, l, "**", l)
	picksJust(t, l, "dir/f00?", l[:5])
	for _, globs := range []string{"dir/*0", "dir/f0[135]? dir/f010", "**/f*4", "dir/*[!0]"} {
		got := impl.Picked(l, strings.Fields(globs))
		if !impl.FilesOk(got) || len(got) == 0 || len(got) == len(l) {
			t.Errorf("%q pick %q", globs, got)
		}
		picksJust(t, got, globs, got)
		picksJust(t, got, "**", got)
	}
}

func globListsToShare() [][]string {
	return [][]string{nil, {"**"}, {"b"}, {"a/**", "*"}, {"*", "*"}, {"none"}, {"spare"}, {"A", "[", "b"}, {"", "a/b", "dir/f0??"}, {"scribble"}}
}

// looseGlobs has spare room behind it, with patterns that would take all.
func looseGlobs(l []string) ([]string, func()) {
	texts, turn := looseList(l)
	all := slices.Repeat([]string{"**"}, len(l)+10)
	copy(all, texts)
	return all[:len(l)], func() {
		turn()
		scribbleTexts(all)
	}
}

func TestPatternsAndFilesAreLeftAlone(t *testing.T) {
	for _, in := range listsToShare() {
		for _, told := range globListsToShare() {
			l, _ := looseFiles(in)
			globs, _ := looseGlobs(told)
			wholeL, wholeGlobs := slices.Clone(l[:cap(l)]), slices.Clone(globs[:cap(globs)])
			got := impl.Picked(l, globs)
			if !filesAlike(got, impl.Picked(in, told)) {
				t.Errorf("of %q what %q pick hangs on the room behind: %q", in, told, got)
			}
			scribbleFiles(got)
			if !slices.Equal(l[:cap(l)], wholeL) || !slices.Equal(globs[:cap(globs)], wholeGlobs) || !filesAlike(l, in) || !slices.Equal(globs, told) {
				t.Errorf("%q or %q, or what is behind them, is written into", in, told)
			}
		}
	}
}

func TestWhatIsPickedSharesNothing(t *testing.T) {
	for _, in := range listsToShare() {
		for _, told := range globListsToShare() {
			l, turnL := looseFiles(in)
			globs, turnGlobs := looseGlobs(told)
			got, again := impl.Picked(l, globs), impl.Picked(l, globs)
			turnL()
			turnGlobs()
			if !filesAlike(got, impl.Picked(in, told)) {
				t.Errorf("what %q pick of %q shares its memory: %q", told, in, got)
			}
			scribbleFiles(got)
			if !filesAlike(again, impl.Picked(in, told)) {
				t.Errorf("two answers of %q and %q lie over each other", told, in)
			}
		}
	}
}

func TestTextsOfPatternsAreLeftAlone(t *testing.T) {
	for _, glob := range append(kindsOfSigns(), "**", "a/**", "**/b", "*b*", "", "[", "A", "a//b", strings.Repeat("*", mostSigns+1)) {
		for _, path := range nearPaths() {
			looseG, turnG := looseText(glob)
			looseP, turnP := looseText(path)
			ok, taken := impl.GlobOk(looseG), impl.Matches(looseG, looseP)
			if looseG != glob || looseP != path {
				t.Errorf("%q or %q is written into", glob, path)
			}
			turnG()
			turnP()
			if ok != impl.GlobOk(glob) || taken != impl.Matches(glob, path) || taken != othersMatch(glob)(path) {
				t.Errorf("%q and %q are answered another time in another way", glob, path)
			}
		}
	}
}
