package tests

import (
	"slices"
	"strings"
	"testing"

	"loop.example/g00464/impl"
)

// wrongLists are no FilesOk: they do not ascend, have one Path twice, or one that is wrong by itself.
func wrongLists() [][]impl.File {
	out := [][]impl.File{{{}}, {{Path: "b", Text: strings.Repeat("x", mostFileText+1)}}, {{Path: "a"}, {Path: "b", Text: strings.Repeat("x", 1000)}, {Path: "c"}}}
	for _, told := range []string{
		"b=1 a=2", "c=1 b=2 a=3", "a=1 c=2 b=3", "b=1 a=2 c=3", "b= a= c=",
		"a=1 a=2", "a= a=", "a=1 a=", "a= a=1", "a=1 b=2 b=3 c=4", "a=1 b=2 a=3", "b=1 a=2 b=3 a=4", "a=1 a=2 a=3",
		"A=1", "a=1 B=2", "=1", "/=1", "a=1 b/=2", "..=1 a=2",
	} {
		out = append(out, filesOf(told))
	}
	return append(out, numbered(mostFiles+1), numbered(mostFiles+2), numbered(500), slices.Repeat(filesOf("a=1"), 500))
}

func firstOf(l []impl.File, path string) (string, bool) {
	for _, f := range l {
		if f.Path == path {
			return f.Text, true
		}
	}
	return "", false
}

func pathsToAsk(l []impl.File) []string {
	paths := []string{"", "a", "b", "c", "d", "A", "/", "dir/f001"}
	for _, f := range l {
		paths = append(paths, f.Path)
	}
	return paths
}

func TestTheFirstOfOnePathIsGot(t *testing.T) {
	for _, l := range wrongLists() {
		if impl.FilesOk(l) {
			t.Errorf("%q are right", l)
		}
		for _, path := range pathsToAsk(l) {
			if s, ok := firstOf(l, path); ok {
				gotAs(t, l, path, s)
			} else {
				notGot(t, l, path)
			}
		}
	}
}

// TestNothingIsPutIntoWrongLists but where the file that is wrong is the one in whose place another comes.
func TestNothingIsPutIntoWrongLists(t *testing.T) {
	for _, l := range wrongLists() {
		for _, path := range append(pathsToAsk(l), "0", "z", "a/b") {
			at := slices.IndexFunc(l, func(f impl.File) bool { return f.Path == path })
			for _, text := range []string{"", "x", strings.Repeat("x", mostFileText)} {
				f := impl.File{Path: path, Text: text}
				want := slices.Clone(l)
				if at >= 0 {
					want[at] = f
				}
				if at >= 0 && impl.FilesOk(want) {
					putAs(t, l, f, want)
				} else {
					notPut(t, l, f)
				}
			}
		}
	}
	tooLong := strings.Repeat("x", mostFileText+1)
	putAs(t, []impl.File{{Path: "a", Text: tooLong}}, impl.File{Path: "a"}, filesOf("a="))
	notPut(t, []impl.File{{Path: "a", Text: tooLong}}, impl.File{Path: "b"})
	notPut(t, []impl.File{{Path: "a", Text: tooLong}, {Path: "b", Text: tooLong}}, impl.File{Path: "b"})
	notPut(t, filesOf("a=1 a=2"), impl.File{Path: "a", Text: "3"})
	notPut(t, filesOf("b=1 a=2"), impl.File{Path: "a", Text: "3"})
	notPut(t, filesOf("b=1 a=2"), impl.File{Path: "c", Text: "3"})
	notPut(t, filesOf("c=1 a=2"), impl.File{Path: "b", Text: "3"})
}

func TestDroppedFromWrongLists(t *testing.T) {
	for _, l := range wrongLists() {
		for _, path := range pathsToAsk(l) {
			want := slices.DeleteFunc(slices.Clone(l), func(f impl.File) bool { return f.Path == path })
			if len(want) < len(l) && impl.FilesOk(want) {
				droppedAs(t, l, path, want)
			} else {
				notDropped(t, l, path)
			}
		}
	}
	for _, z := range []struct{ l, path, want string }{
		{"b=1 a=2", "a", "b=1"},
		{"b=1 a=2", "b", "a=2"},
		{"a=1 c=2 b=3", "c", "a=1 b=3"},
		{"a=1 c=2 b=3", "b", "a=1 c=2"},
		{"a=1 B=2", "B", "a=1"},
		{"=1 a=2", "", "a=2"},
		{"a=1 a=2", "a", ""},
		{"a=1 b=2 a=3", "a", "b=2"},
	} {
		droppedAs(t, filesOf(z.l), z.path, filesOf(z.want))
	}
	for _, z := range []struct{ l, path string }{{"a=1 c=2 b=3", "a"}, {"c=1 b=2 a=3", "b"}, {"a=1 a=2 b=3", "b"}, {"a=1 B=2", "a"}, {"A=1 B=2", "A"}, {"b=1 a=2", "c"}, {"a=1 a=2", "b"}} {
		notDropped(t, filesOf(z.l), z.path)
	}
}

func TestWhatDiffersOfWrongLists(t *testing.T) {
	lists := append(wrongLists(), nil, filesOf("a=1"), filesOf("a=2 b=2"))
	for _, a := range lists {
		for _, b := range lists {
			differs(t, a, b, othersDiff(a, b)...)
		}
	}
	differs(t, filesOf("b=1 a=2"), filesOf("a=2 b=1"))
	differs(t, filesOf("b=1 a=2"), filesOf("a=1 b=2"), "a", "b")
	differs(t, filesOf("a=1 a=2"), filesOf("a=1"))
	differs(t, filesOf("a=1 a=2"), filesOf("a=2"), "a")
	differs(t, filesOf("a=1 a=1"), nil, "a")
	differs(t, filesOf("B=1 A=1 =1"), nil, "", "A", "B")
}
