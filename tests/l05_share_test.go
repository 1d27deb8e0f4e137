package tests

import (
	"slices"
	"strings"
	"testing"

	"loop.example/g00464/impl"
)

func looseFile(f impl.File) (impl.File, func()) {
	path, turnPath := looseText(f.Path)
	text, turnText := looseText(f.Text)
	return impl.File{Path: path, Text: text}, func() {
		turnPath()
		turnText()
	}
}

// looseFiles has l over memory that can be turned, and spare room behind it with files that would be found there.
func looseFiles(l []impl.File) ([]impl.File, func()) {
	out := slices.Repeat([]impl.File{{Path: "spare", Text: "room"}}, len(l)+4)
	var turns []func()
	for i := range l {
		f, turn := looseFile(l[i])
		out[i], turns = f, append(turns, turn)
	}
	out = out[:len(l)]
	return out, func() {
		for _, turn := range turns {
			turn()
		}
		scribbleFiles(out)
	}
}

// scribbleFiles writes into all of l, and into the room behind it.
func scribbleFiles(l []impl.File) {
	l = l[:cap(l)]
	for i := range l {
		l[i] = impl.File{Path: "scribble", Text: "scribble"}
	}
}

// listsToShare are right ones and wrong ones.
func listsToShare() [][]impl.File {
	out := append(wrongLists(), nil, numbered(mostFiles))
	for _, told := range []string{"b=1", "b=", "b=1 d=2 f=3", "b= d= f=", "a/b=text a/b/c/d=text", "spare=1", "a=1 spare="} {
		out = append(out, filesOf(told))
	}
	return out
}

func filesToPut() []impl.File {
	out := filesOf("a=new b=new b= c= d=new f= g=new spare=new A=new dir/f000=new")
	return append(out, impl.File{}, impl.File{Path: "b", Text: strings.Repeat("x", mostFileText)}, impl.File{Path: "b", Text: strings.Repeat("x", mostFileText+1)})
}

// A fileAnswer is what all functions answer of two lists and a file.
type fileAnswer struct {
	pathOk, filesOk, got, put, dropped bool
	text                               string
	putTo, droppedFrom                 []impl.File
	differ, differBack                 []string
}

func answerOf(l, other []impl.File, f impl.File) fileAnswer {
	var x fileAnswer
	x.pathOk, x.filesOk = impl.PathOk(f.Path), impl.FilesOk(l)
	x.text, x.got = impl.GetFile(l, f.Path)
	x.putTo, x.put = impl.PutFile(l, f)
	x.droppedFrom, x.dropped = impl.DropFile(l, f.Path)
	x.differ, x.differBack = impl.DiffFiles(l, other), impl.DiffFiles(other, l)
	return x
}

func sameAnswer(a, b fileAnswer) bool {
	return a.pathOk == b.pathOk && a.filesOk == b.filesOk && a.got == b.got && a.put == b.put && a.dropped == b.dropped && a.text == b.text &&
		filesAlike(a.putTo, b.putTo) && filesAlike(a.droppedFrom, b.droppedFrom) && slices.Equal(a.differ, b.differ) && slices.Equal(a.differBack, b.differBack)
}

func TestFilesAreLeftAlone(t *testing.T) {
	for _, in := range listsToShare() {
		for _, put := range filesToPut() {
			l, _ := looseFiles(in)
			other, _ := looseFiles(filesOf("b=1 d=other"))
			f, _ := looseFile(put)
			wholeL, wholeOther := slices.Clone(l[:cap(l)]), slices.Clone(other[:cap(other)])
			x := answerOf(l, other, f)
			if !sameAnswer(x, answerOf(in, filesOf("b=1 d=other"), put)) {
				t.Errorf("answers of %q and %q hang on the room behind: %v", in, put, x)
			}
			scribbleFiles(x.putTo)
			scribbleFiles(x.droppedFrom)
			scribbleTexts(x.differ)
			scribbleTexts(x.differBack)
			if !slices.Equal(l[:cap(l)], wholeL) || !slices.Equal(other[:cap(other)], wholeOther) || f != put {
				t.Errorf("%q or what is behind it, or %q, is written into", in, put)
			}
		}
	}
}

func TestAnswersOfFilesShareNothing(t *testing.T) {
	for _, in := range listsToShare() {
		for _, put := range filesToPut() {
			l, turnL := looseFiles(in)
			other, turnOther := looseFiles(filesOf("b=1 d=other z="))
			f, turnF := looseFile(put)
			x := answerOf(l, other, f)
			turnL()
			turnOther()
			turnF()
			if !sameAnswer(x, answerOf(in, filesOf("b=1 d=other z="), put)) {
				t.Errorf("answers of %q and %q share their memory: %v", in, put, x)
			}
		}
	}
}

func TestAnswersOfFilesShareNothingWithEachOther(t *testing.T) {
	for _, in := range listsToShare() {
		for _, put := range filesToPut() {
			other := filesOf("b=1 d=other z=")
			want, x := answerOf(in, other, put), answerOf(in, other, put)
			scribbleFiles(x.putTo)
			scribbleTexts(x.differ)
			x.putTo, x.differ = want.putTo, want.differ
			if !sameAnswer(x, want) || !sameAnswer(answerOf(in, other, put), want) {
				t.Errorf("answers of %q and %q lie over each other: %v", in, put, x)
			}
		}
	}
}
