package tests

import (
	"fmt"
	"maps"
	"math/rand"
	"slices"
	"strings"
	"testing"

	"loop.example/g00464/impl"
)

const (
	mostFiles    = 30
	mostFileText = 60
)

// filesOf tells files in the tests, in this order: `a=1 b= a/x=2`.
func filesOf(told string) []impl.File {
	var out []impl.File
	for _, word := range strings.Fields(told) {
		path, text, _ := strings.Cut(word, "=")
		out = append(out, impl.File{Path: path, Text: text})
	}
	return out
}

func filesAlike(a, b []impl.File) bool { return slices.Equal(a, b) }

// numbered has n files that ascend, each of a Text of its own.
func numbered(n int) []impl.File {
	var out []impl.File
	for i := range n {
		out = append(out, impl.File{Path: fmt.Sprintf("dir/f%03d", 2*i), Text: fmt.Sprint("text ", i)})
	}
	return out
}

// inByteOrder ascend byte by byte: `-` and `.` stand ahead of `/`, and a beginning ahead of all.
func inByteOrder() []string {
	return []string{"-", "...", ".a", "0", "9", "_", "a", "a-", "a-b", "a.b", "a/-", "a/b", "a/b-", "a/b.c", "a/b/c", "a/b/c/d", "a/b0", "a/bb", "a0", longName, longName + "/z", "a_b", "aa", "b", "z"}
}

func gotAs(t *testing.T, l []impl.File, path, text string) {
	t.Helper()
	if s, ok := impl.GetFile(l, path); s != text || !ok {
		t.Errorf("of %q %q is got as %q, %v", l, path, s, ok)
	}
}

func notGot(t *testing.T, l []impl.File, path string) {
	t.Helper()
	if s, ok := impl.GetFile(l, path); s != "" || ok {
		t.Errorf("of %q %q is got as %q, %v", l, path, s, ok)
	}
}

// putAs wants f to be put, then got, and all others got as they were.
func putAs(t *testing.T, l []impl.File, f impl.File, want []impl.File) {
	t.Helper()
	got, ok := impl.PutFile(l, f)
	if !ok || !filesAlike(got, want) || !impl.FilesOk(got) {
		t.Errorf("with %q put %q is %q, %v", f, l, got, ok)
	}
	gotAs(t, got, f.Path, f.Text)
	for _, x := range l {
		if x.Path != f.Path {
			gotAs(t, got, x.Path, x.Text)
		}
	}
}

// notPut wants l and false.
func notPut(t *testing.T, l []impl.File, f impl.File) {
	t.Helper()
	if got, ok := impl.PutFile(l, f); ok || !filesAlike(got, l) {
		t.Errorf("with %q put %q is %q, %v", f, l, got, ok)
	}
}

// droppedAs wants path to be gone, and all others got as they were.
func droppedAs(t *testing.T, l []impl.File, path string, want []impl.File) {
	t.Helper()
	got, ok := impl.DropFile(l, path)
	if !ok || !filesAlike(got, want) || !impl.FilesOk(got) {
		t.Errorf("with %q dropped %q is %q, %v", path, l, got, ok)
	}
	notGot(t, got, path)
	for _, x := range l {
		if x.Path != path {
			gotAs(t, got, x.Path, x.Text)
		}
	}
}

// notDropped wants l and false.
func notDropped(t *testing.T, l []impl.File, path string) {
	t.Helper()
	if got, ok := impl.DropFile(l, path); ok || !filesAlike(got, l) {
		t.Errorf("with %q dropped %q is %q, %v", path, l, got, ok)
	}
}

func TestPutAtEachPlace(t *testing.T) {
	for _, z := range []struct{ l, put, want string }{
		{"", "a=1", "a=1"},
		{"", "a=", "a="},
		{"b=1 d=2 f=3", "a=x", "a=x b=1 d=2 f=3"},
		{"b=1 d=2 f=3", "c=x", "b=1 c=x d=2 f=3"},
		{"b=1 d=2 f=3", "e=x", "b=1 d=2 e=x f=3"},
		{"b=1 d=2 f=3", "g=x", "b=1 d=2 f=3 g=x"},
		{"b=1 d=2 f=3", "b=x", "b=x d=2 f=3"},
		{"b=1 d=2 f=3", "d=x", "b=1 d=x f=3"},
		{"b=1 d=2 f=3", "f=x", "b=1 d=2 f=x"},
		{"b=1 d=2 f=3", "a=", "a= b=1 d=2 f=3"},
		{"b=1 d=2 f=3", "e=", "b=1 d=2 e= f=3"},
		{"b=1 d=2 f=3", "g=", "b=1 d=2 f=3 g="},
		{"b=1 d=2 f=3", "b=", "b= d=2 f=3"},
		{"b=1 d=2 f=3", "d=", "b=1 d= f=3"},
		{"b=1 d=2 f=3", "f=", "b=1 d=2 f="},
		{"b= d= f=", "d=x", "b= d=x f="},
		{"b= d= f=", "d=", "b= d= f="},
		{"b= d= f=", "c=", "b= c= d= f="},
		{"b=1", "b=1", "b=1"},
		{"b=1", "b=2", "b=2"},
		{"b=1", "b=", "b="},
		{"a=1 a/b/c=2", "a/b=3", "a=1 a/b=3 a/b/c=2"},
		{"a/b=2", "a=1", "a=1 a/b=2"},
		{"a/b=2", "a.b=1", "a.b=1 a/b=2"},
	} {
		putAs(t, filesOf(z.l), filesOf(z.put)[0], filesOf(z.want))
	}
}

func TestDropAtEachPlace(t *testing.T) {
	for _, z := range []struct{ l, path, want string }{
		{"a=1", "a", ""},
		{"a=", "a", ""},
		{"b=1 d=2 f=3", "b", "d=2 f=3"},
		{"b=1 d=2 f=3", "d", "b=1 f=3"},
		{"b=1 d=2 f=3", "f", "b=1 d=2"},
		{"b= d= f=", "b", "d= f="},
		{"b= d= f=", "d", "b= f="},
		{"b= d= f=", "f", "b= d="},
		{"b=1 d= f=3", "d", "b=1 f=3"},
		{"b=1 d= f=3", "f", "b=1 d="},
		{"a=1 a/b=2 a/b/c=3", "a/b", "a=1 a/b/c=3"},
		{"a=1 a/b=2 a/b/c=3", "a", "a/b=2 a/b/c=3"},
	} {
		droppedAs(t, filesOf(z.l), z.path, filesOf(z.want))
	}
}

func TestFilesThatAreNotThere(t *testing.T) {
	for _, told := range []string{"", "b=1", "b=", "b=1 d=2 f=3", "b= d= f=", "b/b=1 b/b/b=2"} {
		for _, path := range []string{"", "a", "c", "e", "g", "bb", "b/", "/b", "b/c", "b/b/b/b", "B", "1", "b=1", ".", "..", "no path", strings.Repeat("b", 1000)} {
			l := filesOf(told)
			notGot(t, l, path)
			notDropped(t, l, path)
		}
	}
}

func TestPathsInOrderOfTheirBytes(t *testing.T) {
	paths := inByteOrder()
	var all []impl.File
	for i, path := range paths {
		all = append(all, impl.File{Path: path, Text: fmt.Sprint(i)})
	}
	if !impl.FilesOk(all) {
		t.Errorf("%q do not ascend", paths)
	}
	for i := range all {
		putAs(t, slices.Delete(slices.Clone(all), i, i+1), all[i], all)
		for k := range all {
			if impl.FilesOk([]impl.File{all[i], all[k]}) != (i < k) {
				t.Errorf("%q, then %q, is %v", paths[i], paths[k], i >= k)
			}
		}
	}
	r := rand.New(rand.NewSource(5))
	for range 50 {
		var l []impl.File
		for _, i := range r.Perm(len(all)) {
			got, ok := impl.PutFile(l, all[i])
			if !ok {
				t.Fatalf("%q is not put", all[i])
			}
			l = got
		}
		if !filesAlike(l, all) {
			t.Fatalf("put in some order they are %q", l)
		}
	}
}

func TestLengthOfTexts(t *testing.T) {
	for n := range 2*mostFileText + 5 {
		for _, sign := range []string{"x", " ", "\x00", "\n", "\xff"} {
			f := impl.File{Path: "d", Text: strings.Repeat(sign, n)}
			if impl.FilesOk([]impl.File{f}) != (n <= mostFileText) {
				t.Errorf("a Text of %d is %v", n, n > mostFileText)
			}
			for _, told := range []string{"", "b=1 f=3", "b=1 d=2 f=3"} {
				l := filesOf(told)
				if n > mostFileText {
					notPut(t, l, f)
					continue
				}
				want := []impl.File{f}
				if len(l) > 0 {
					want = []impl.File{l[0], f, l[len(l)-1]}
				}
				putAs(t, l, f, want)
			}
		}
	}
	notPut(t, filesOf("b=1"), impl.File{Path: "b", Text: strings.Repeat("é", mostFileText/2) + "x"})
	notPut(t, filesOf("b=1"), impl.File{Path: "b", Text: strings.Repeat("x", 1000000)})
	putAs(t, filesOf("b=1"), impl.File{Path: "b", Text: strings.Repeat("é", mostFileText/2)}, []impl.File{{Path: "b", Text: strings.Repeat("é", mostFileText/2)}})
}

func TestTextsOfEachByte(t *testing.T) {
	for c := range 256 {
		for _, s := range []string{oneByte(c), "a" + oneByte(c), oneByte(c) + "a", strings.Repeat(oneByte(c), mostFileText)} {
			f := impl.File{Path: "a", Text: s}
			putAs(t, nil, f, []impl.File{f})
			putAs(t, filesOf("a=1 b=2"), f, []impl.File{f, {Path: "b", Text: "2"}})
			droppedAs(t, []impl.File{f, {Path: "b"}}, "b", []impl.File{f})
		}
	}
}

func TestHowManyFiles(t *testing.T) {
	for n := range mostFiles + 4 {
		l := numbered(n)
		if impl.FilesOk(l) != (n <= mostFiles) {
			t.Errorf("%d files are %v", n, n > mostFiles)
		}
		for _, path := range []string{"a", "dir/f", "dir/f031", "z"} {
			f := impl.File{Path: path, Text: "new"}
			if n >= mostFiles {
				notPut(t, l, f)
				continue
			}
			want := append(slices.Clone(l), f)
			slices.SortFunc(want, func(a, b impl.File) int { return strings.Compare(a.Path, b.Path) })
			putAs(t, l, f, want)
		}
		for i := range l {
			f, turned := impl.File{Path: l[i].Path, Text: "new"}, slices.Clone(l)
			turned[i] = f
			if n <= mostFiles {
				putAs(t, l, f, turned)
			} else {
				notPut(t, l, f)
			}
			// Of one too many the rest is right.
			if n <= mostFiles+1 {
				droppedAs(t, l, l[i].Path, slices.Delete(slices.Clone(l), i, i+1))
			} else {
				notDropped(t, l, l[i].Path)
			}
			gotAs(t, l, l[i].Path, l[i].Text)
		}
	}
}

func TestLongPathsAndTextsOfThirty(t *testing.T) {
	var l []impl.File
	for i := range mostFiles {
		path := strings.Repeat(longName+"/", 3) + fmt.Sprintf("%012d", i)
		f := impl.File{Path: path, Text: strings.Repeat(oneByte(i), mostFileText)}
		want := append(slices.Clone(l), f)
		putAs(t, l, f, want)
		l = want
	}
	notPut(t, l, impl.File{Path: "a"})
	for len(l) > 0 {
		i := len(l) / 2
		want := slices.Delete(slices.Clone(l), i, i+1)
		droppedAs(t, l, l[i].Path, want)
		l = want
	}
}

func TestWrongFilesArePutNowhere(t *testing.T) {
	tooLong := strings.Repeat("x", mostFileText+1)
	for _, told := range []string{"", "b=1", "b=", "b=1 d=2 f=3"} {
		for _, f := range []impl.File{{}, {Text: "x"}, {Path: "A"}, {Path: "/"}, {Path: "b/"}, {Path: "/b"}, {Path: "b//b"}, {Path: "."}, {Path: "b/.."}, {Path: "b/b/b/b/b"}, {Path: "thirteen-byte"}, {Path: "b\x7f"}, {Path: "b\xff"}, {Path: "b "}, {Path: "b", Text: tooLong}, {Path: "c", Text: tooLong}, {Path: "A", Text: tooLong}} {
			notPut(t, filesOf(told), f)
		}
	}
}

func TestFilesOk(t *testing.T) {
	for told, want := range map[string]bool{
		"": true, "a=": true, "a=1": true, "a= b=": true, "a=2 b=1": true, "a=1 b=1": true, "a=1 b=1 c=1": true, "a=1 a/a=1": true,
		"b= a=": false, "b=1 a=2": false, "a= a=": false, "a=1 a=2": false, "a=2 a=1": false, "a= b= b=": false, "a= c= b=": false, "b= a= c=": false, "a= b= a=": false, "c= b= a=": false, "a/a= a=": false,
		"A= a=": false, "a= B=": false, "a= b= /=": false, "a= b/=": false, "a= b= thirteen-byte=": false, "=x": false, "=": false, "a= b= =": false,
	} {
		if l := filesOf(told); impl.FilesOk(l) != want {
			t.Errorf("%q are %v", l, !want)
		}
	}
	if !impl.FilesOk([]impl.File{}) {
		t.Error("an empty list is wrong")
	}
}

// modelFiles makes the list of what ought to be there.
func modelFiles(m map[string]string) []impl.File {
	var out []impl.File
	for _, path := range slices.Sorted(maps.Keys(m)) {
		out = append(out, impl.File{Path: path, Text: m[path]})
	}
	return out
}

func TestManyPutsAndDrops(t *testing.T) {
	r := rand.New(rand.NewSource(5))
	full := 0
	for range 30 {
		paths := inByteOrder()
		for range 20 {
			paths = append(paths, anyPath(r))
		}
		m, l := map[string]string{}, []impl.File(nil)
		for range 200 {
			f := impl.File{Path: paths[r.Intn(len(paths))], Text: strings.Repeat("x", r.Intn(3)*r.Intn(30))}
			_, there := m[f.Path]
			switch {
			case r.Intn(4) == 0 && there:
				delete(m, f.Path)
				droppedAs(t, l, f.Path, modelFiles(m))
			case !there && len(m) == mostFiles:
				full++
				notPut(t, l, f)
			default:
				m[f.Path] = f.Text
				putAs(t, l, f, modelFiles(m))
			}
			l = modelFiles(m)
		}
	}
	if full < 100 {
		t.Error("only", full, "were one too many")
	}
}
