package tests

import (
	"math/rand"
	"slices"
	"strings"
	"testing"

	"loop.example/g00464/impl"
)

// differs asks both ways round, and each list against itself.
func differs(t *testing.T, a, b []impl.File, want ...string) {
	t.Helper()
	for _, z := range []struct {
		a, b []impl.File
		want []string
	}{{a, b, want}, {b, a, want}, {a, a, nil}, {b, b, nil}} {
		if got := impl.DiffFiles(z.a, z.b); !slices.Equal(got, z.want) {
			t.Errorf("of %q and %q %q differ", z.a, z.b, got)
		}
	}
}

// othersDiff asks for the first of each Path in both lists.
func othersDiff(a, b []impl.File) []string {
	var out []string
	for _, f := range slices.Concat(a, b) {
		s, inA := firstOf(a, f.Path)
		x, inB := firstOf(b, f.Path)
		if inA != inB || s != x {
			out = append(out, f.Path)
		}
	}
	slices.Sort(out)
	return slices.Compact(out)
}

func TestWhatDiffers(t *testing.T) {
	for _, z := range []struct{ a, b, want string }{
		{"", "", ""},
		{"a=1", "a=1", ""},
		{"a=", "a=", ""},
		{"a=1", "", "a"},
		{"a=", "", "a"},
		{"a=1", "a=2", "a"},
		{"a=1", "a=", "a"},
		{"a=1", "b=1", "a b"},
		{"a=", "b=", "a b"},
		{"a= b= c=", "b=", "a c"},
		{"a= b= c=", "a= c=", "b"},
		{"a=1 b=2 c=3", "a=1 b=2 c=3", ""},
		{"a=1 b=2 c=3", "a=1 c=3", "b"},
		{"a=1 b=2 c=3", "b=2 c=3", "a"},
		{"a=1 b=2 c=3", "a=1 b=2", "c"},
		{"a=1 b=2 c=3", "a=1 b= c=3", "b"},
		{"a=1 b=2 c=3", "a=2 b=3 c=1", "a b c"},
		{"a=1 b=2 c=3", "a=1 b=2 c=3 d=4", "d"},
		{"a=1 b=2 c=3", "0=0 a=1 b=2 c=3", "0"},
		{"a=1 c=3", "b=2 d=4", "a b c d"},
		{"b=2 d=4", "a=1 c=3", "a b c d"},
		{"a=1 c=3 e=5", "a=0 b=2 e=5 f=", "a b c f"},
		{"a=x", "a=X", "a"},
		{"a=x", "a=xx", "a"},
		{"a=1", "a/a=1", "a a/a"},
		{"a.b=1 a=1", "a/b=1", "a a.b a/b"},
		{"a=\x00", "a=", "a"},
		{"a=\xff", "a=\xfe", "a"},
	} {
		differs(t, filesOf(z.a), filesOf(z.b), strings.Fields(z.want)...)
	}
}

// TestWhatWasPutDroppedAndTurnedDiffers goes from one list to another by PutFile and DropFile.
func TestWhatWasPutDroppedAndTurnedDiffers(t *testing.T) {
	old := numbered(mostFiles)
	for i := range old {
		path := old[i].Path
		dropped, _ := impl.DropFile(old, path)
		differs(t, old, dropped, path)
		for _, text := range []string{"", "new"} {
			turned, _ := impl.PutFile(old, impl.File{Path: path, Text: text})
			differs(t, old, turned, path)
			differs(t, dropped, turned, path)
			other, _ := impl.PutFile(dropped, impl.File{Path: "z", Text: text})
			differs(t, old, other, path, "z")
			differs(t, turned, other, path, "z")
			back, _ := impl.PutFile(turned, old[i])
			differs(t, old, back)
		}
		again, _ := impl.PutFile(old, old[i])
		differs(t, old, again)
	}
	differs(t, old, nil, pathsOf(old)...)
	differs(t, old, []impl.File{}, pathsOf(old)...)
}

func pathsOf(l []impl.File) []string {
	var out []string
	for _, f := range l {
		out = append(out, f.Path)
	}
	return out
}

func TestPathsThatDifferAscend(t *testing.T) {
	var l []impl.File
	for _, path := range inByteOrder() {
		l = append(l, impl.File{Path: path})
	}
	for range 20 {
		differs(t, l, nil, inByteOrder()...)
	}
	var even, odd []impl.File
	for i, f := range l {
		if i%2 == 0 {
			even = append(even, f)
		} else {
			odd = append(odd, f)
		}
	}
	differs(t, even, odd, inByteOrder()...)
	differs(t, even, l, pathsOf(odd)...)
}

func anyFiles(r *rand.Rand, paths []string) []impl.File {
	var out []impl.File
	for _, path := range paths {
		if r.Intn(3) > 0 {
			out = append(out, impl.File{Path: path, Text: []string{"", "x", "y"}[r.Intn(3)]})
		}
	}
	return out
}

func TestManyThatDiffer(t *testing.T) {
	r := rand.New(rand.NewSource(5))
	for range 3000 {
		paths := inByteOrder()[:r.Intn(len(inByteOrder()))]
		a, b := anyFiles(r, paths), anyFiles(r, paths)
		if !impl.FilesOk(a) || !impl.FilesOk(b) {
			t.Fatalf("%q or %q is not right", a, b)
		}
		differs(t, a, b, othersDiff(a, b)...)
	}
}
