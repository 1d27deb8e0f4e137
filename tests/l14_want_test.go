package tests

import (
	"math/rand"
	"slices"
	"strings"
	"testing"

	"loop.example/g00464/impl"
)

// othersWant asks of each pack whether it is named, and has the task.
func othersWant(l []impl.Pack, names []string, task string) []string {
	var out []string
	for i, p := range l {
		of := func(other impl.Pack) bool { return other.Name == p.Name }
		if slices.IndexFunc(l, of) != i || !slices.Contains(names, p.Name) {
			continue
		}
		if slices.ContainsFunc(p.Cmds, func(c impl.Cmd) bool { return c.Task == task }) {
			out = append(out, p.Name+"#"+task)
		}
	}
	slices.Sort(out)
	return slices.Compact(out)
}

// wantedPromised wants tasks that are there, of packs that are named, ascending.
func wantedPromised(t *testing.T, l []impl.Pack, names []string, task string, got []string) {
	t.Helper()
	if !strictly(got) {
		t.Errorf("what is wanted of %q does not ascend: %q", names, got)
	}
	for _, s := range got {
		name, ok := strings.CutSuffix(s, "#"+task)
		if !ok || !slices.Contains(names, name) || !isThere(l, s) {
			t.Errorf("of %q %q is wanted, and %q is answered", names, task, s)
		}
	}
}

func wantedAsOthers(t *testing.T, l []impl.Pack, names []string, task string) []string {
	t.Helper()
	got := impl.WantOf(l, names, task)
	wantedPromised(t, l, names, task, got)
	if want := othersWant(l, names, task); !slices.Equal(got, want) {
		t.Errorf("of %v, %.100q and %.100q are wanted %.100q, not %.100q", l, names, task, got, want)
	}
	return got
}

// wantIs tells a work, names and what is wanted with blanks between.
func wantIs(t *testing.T, told, names, task, want string) {
	t.Helper()
	if got := wantedAsOthers(t, workOf(told), strings.Fields(names), task); !slices.Equal(got, strings.Fields(want)) {
		t.Errorf("of %s, %s and %s are wanted %q, not %s", told, names, task, got, want)
	}
}

const wantedWork = "a:build,test b=a:build c=a,b:test d e:build,lint,test"

func TestWantOf(t *testing.T) {
	wantIs(t, wantedWork, "a", "build", "a#build")
	wantIs(t, wantedWork, "a", "test", "a#test")
	wantIs(t, wantedWork, "a b c d e", "build", "a#build b#build e#build")
	wantIs(t, wantedWork, "a b c d e", "test", "a#test c#test e#test")
	wantIs(t, wantedWork, "a b c d e", "lint", "e#lint")
	wantIs(t, wantedWork, "b c", "build", "b#build")
	// What a pack uses is not wanted with it.
	wantIs(t, wantedWork, "c", "test", "c#test")
	wantIs(t, wantedWork, "b", "build", "b#build")
	// Those that have it not.
	wantIs(t, wantedWork, "a", "lint", "")
	wantIs(t, wantedWork, "b", "test", "")
	wantIs(t, wantedWork, "d", "build", "")
	wantIs(t, wantedWork, "b d", "test", "")
	wantIs(t, wantedWork, "c d", "build", "")
	// Those that are none of the packs.
	wantIs(t, wantedWork, "q", "build", "")
	wantIs(t, wantedWork, "q a r", "build", "a#build")
	wantIs(t, wantedWork, "aa a- ab", "build", "")
	wantIs(t, wantedWork, "build test", "build", "")
	wantIs(t, wantedWork, "a#build", "build", "")
	wantIs(t, wantedWork, "a#", "build", "")
	wantIs(t, wantedWork, "f", "build", "")
	// None is wanted.
	wantIs(t, wantedWork, "", "build", "")
	wantIs(t, "", "a b", "build", "")
	wantIs(t, "", "", "build", "")
	wantIs(t, "", "", "", "")
}

func TestWantOfNamesMoreThanOnce(t *testing.T) {
	wantIs(t, wantedWork, "a a", "build", "a#build")
	wantIs(t, wantedWork, "a b a", "build", "a#build b#build")
	wantIs(t, wantedWork, "e b a b e a", "build", "a#build b#build e#build")
	wantIs(t, wantedWork, "a a a a a a a a", "test", "a#test")
	wantIs(t, wantedWork, "d d", "build", "")
	wantIs(t, wantedWork, "q a q a", "build", "a#build")
}

func TestWantOfNamesInAnyOrder(t *testing.T) {
	for _, z := range []struct{ names, task, want string }{
		{"a b c e", "build", "a#build b#build e#build"},
		{"a c d e", "test", "a#test c#test e#test"},
		{"a a b q e", "build", "a#build b#build e#build"},
		{"d q e", "lint", "e#lint"},
	} {
		eachOrder(strings.Fields(z.names), func(names []string) { wantIs(t, wantedWork, strings.Join(names, " "), z.task, z.want) })
	}
}

// TestWantOfTasksInOrder: it is the task's whole text that ascends, which is to be seen where a Name is none.
func TestWantOfTasksInOrder(t *testing.T) {
	wantIs(t, "a:x a-:x a--b:x a0:x a0-:x ab:x", "ab a0- a0 a--b a- a", "x", "a#x a-#x a--b#x a0#x a0-#x ab#x")
	wantIs(t, "a:x a!:x a$:x", "a a! a$", "x", "a!#x a#x a$#x")
	wantIs(t, "abcdefghij:klmnopqrst", "abcdefghij", "klmnopqrst", "abcdefghij#klmnopqrst")
	wantIs(t, "abcdefghij:klmnopqrst", "abcdefghi", "klmnopqrst", "")
	wantIs(t, "abcdefghij:klmnopqrst", "abcdefghij", "klmnopqrs", "")
}

// TestWantOfTasksThatAreNone: what no pack that is right can have.
func TestWantOfTasksThatAreNone(t *testing.T) {
	for _, task := range append(noNames(), "#", "a#build", "#build", "build#", "build,test", "builds", "buil", "Build", "build ", " build", "q", strings.Repeat("x", 1000)) {
		if got := wantedAsOthers(t, workOf(wantedWork), []string{"a", "b", "c", "d", "e", ""}, task); len(got) != 0 {
			t.Errorf("of %q there is %q", task, got)
		}
	}
	for _, name := range append(noNames(), "*", "[ab]", "!b", "...a", "a...", "[since]", "a b") {
		if got := wantedAsOthers(t, workOf(wantedWork), []string{name}, "build"); len(got) != 0 {
			t.Errorf("by the name %q there is %q", name, got)
		}
		if got := wantedAsOthers(t, workOf(wantedWork), []string{name, "e", name}, "build"); !slices.Equal(got, []string{"e#build"}) {
			t.Errorf("by the name %q and another one there is %q", name, got)
		}
	}
}

func TestWantOfRightNames(t *testing.T) {
	for _, name := range rightNames() {
		for _, task := range rightNames() {
			l := []impl.Pack{{Name: name, Cmds: []impl.Cmd{cmd(task, "x")}}}
			got := wantedAsOthers(t, l, []string{name}, task)
			if !slices.Equal(got, []string{impl.TaskName(name, task)}) {
				t.Fatalf("of %q and %q is wanted %q", name, task, got)
			}
			pack, back, ok := impl.ParseTask(got[0])
			if !ok || pack != name || back != task {
				t.Errorf("%q is read as %q and %q, %v", got, pack, back, ok)
			}
		}
	}
}

// TestWantOfWrongPacks: the chapter names no other answer for them, so what is there is answered.
func TestWantOfWrongPacks(t *testing.T) {
	wantIs(t, "b:build a:build", "a b", "build", "a#build b#build")
	wantIs(t, "a=q:build", "a", "build", "a#build")
	wantIs(t, "a=a:build", "a", "build", "a#build")
	wantIs(t, "a:test,build", "a", "build", "a#build")
	wantIs(t, "a:build,build", "a", "build", "a#build")
	wantIs(t, "a:t,u,v,w,x", "a", "x", "a#x")
	wantIs(t, "a:x b:x c:x d:x e:x f:x g:x h:x", "h g a", "x", "a#x g#x h#x")
	wantIs(t, "A:Build", "A", "Build", "A#Build")
	wantIs(t, "a:build main", "main a", "build", "a#build")
	// Of two of one Name it is the first one that is asked.
	wantIs(t, "a:build a:test", "a", "build", "a#build")
	wantIs(t, "a:build a:test", "a", "test", "")
	wantIs(t, "a a:build", "a", "build", "")
	wantIs(t, "b:x a:x b a b:x", "a b", "x", "a#x b#x")
	if got := wantedAsOthers(t, []impl.Pack{{Cmds: []impl.Cmd{{}}}}, []string{""}, ""); !slices.Equal(got, []string{"#"}) {
		t.Errorf("of a pack without a Name is wanted %q", got)
	}
	if got := wantedAsOthers(t, []impl.Pack{{}}, []string{"", "a"}, ""); len(got) != 0 {
		t.Errorf("of an empty pack is wanted %q", got)
	}
	if got := wantedAsOthers(t, []impl.Pack{{Name: "a b", Cmds: []impl.Cmd{cmd("c\x00", "x")}}}, []string{"a b"}, "c\x00"); !slices.Equal(got, []string{"a b#c\x00"}) {
		t.Errorf("of names that are none is wanted %q", got)
	}
}

// TestWantOfCmdsWithoutActs: that it has the task is all that is asked.
func TestWantOfCmdsWithoutActs(t *testing.T) {
	l := []impl.Pack{{Name: "a", Uses: []string{"a"}, Cmds: []impl.Cmd{{Task: "build"}}}}
	if got := wantedAsOthers(t, l, []string{"a"}, "build"); !slices.Equal(got, []string{"a#build"}) {
		t.Errorf("of a task of no Acts is wanted %q", got)
	}
	l = []impl.Pack{{Name: "a", Needs: []impl.Need{need("build", "1")}, Cmds: []impl.Cmd{cmd("test", "build")}}}
	if got := wantedAsOthers(t, l, []string{"a"}, "build"); len(got) != 0 {
		t.Errorf("where the task is named elsewhere is wanted %q", got)
	}
}

// TestWantOfFiltered: the Names that a filter takes are wanted, and planned as they are.
func TestWantOfFiltered(t *testing.T) {
	for _, z := range []struct{ s, changed, task, want string }{
		{"*", "", "build", "a#build b#build e#build"},
		{"...a", "", "test", "a#test c#test"},
		{"c...", "", "build", "a#build b#build"},
		{"!...b", "", "test", "a#test e#test"},
		{"[since]", "b/x d/y", "build", "b#build"},
		{"[since]", "top", "test", "a#test c#test e#test"},
		{"...[since]", "b/x", "test", "c#test"},
		{"* !e", "", "lint", ""},
		{"* !* e", "", "lint", "e#lint"},
		{"q", "", "build", ""},
		{"", "", "build", ""},
	} {
		l := workOf(wantedWork)
		names := impl.Filtered(l, z.s, strings.Fields(z.changed))
		if got := wantedAsOthers(t, l, names, z.task); !slices.Equal(got, strings.Fields(z.want)) {
			t.Errorf("by %q (changed: %s) of %s is wanted %q, not %s", z.s, z.changed, z.task, got, z.want)
		}
	}
}

func TestManyWants(t *testing.T) {
	r := rand.New(rand.NewSource(1406))
	long := map[int]int{}
	for range 30000 {
		l := anyWork(r)
		if len(l) > 1 && r.Intn(5) == 0 {
			l[0], l[1] = l[1], l[0]
		}
		if len(l) > 1 && r.Intn(5) == 0 {
			l[1].Name = l[0].Name
		}
		var names []string
		for range r.Intn(12) {
			names = append(names, oneByte('a'+r.Intn(mostPacks+1)))
		}
		if r.Intn(3) == 0 {
			names = impl.Filtered(l, anyFilter(r), anyChanged(r, l))
		}
		got := wantedAsOthers(t, l, names, []string{"t", "u", "v", "w", "x", ""}[r.Intn(6)])
		if t.Failed() {
			t.FailNow()
		}
		long[len(got)]++
	}
	for n := range mostPacks {
		if long[n] < 500 {
			t.Errorf("wants by how many there are: %v", long)
		}
	}
}
