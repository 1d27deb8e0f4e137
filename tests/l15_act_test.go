package tests

import (
	"math/rand"
	"slices"
	"strings"
	"testing"

	"loop.example/g00464/impl"
)

const (
	mostOuts = 6
	mostLog  = 200
)

// madeTold tells what was made of b#build in the tests: `o=a b;p=`.
func madeTold(outs, log string) impl.Made {
	m := impl.Made{Task: "b#build", Log: log}
	for _, told := range strings.Split(outs, ";") {
		if path, text, ok := strings.Cut(told, "="); ok {
			m.Outs = append(m.Outs, impl.File{Path: path, Text: text})
		}
	}
	return m
}

// jobToDo has sources, and what was made, of texts that are all told apart.
func jobToDo() impl.Job {
	return impl.Job{
		Name: "b#build",
		Acts: []string{"put none > none", "fail"},
		Ins:  filesOf("a/x=one a/y=two b/z= c=three"),
		Envs: []impl.Env{{Name: "mode", Val: "fast and small"}, {Name: "way", Val: ""}},
		Deps: []impl.Made{
			{Task: "a#build", Outs: filesOf("o=made p="), Log: "did\n"},
			{Task: "a#test", Log: "tested\n"},
			{Task: "c#build", Outs: filesOf("o=other r=more")},
		},
	}
}

func madesAlike(a, b impl.Made) bool {
	return a.Task == b.Task && filesAlike(a.Outs, b.Outs) && a.Log == b.Log
}

// othersPut lays f into l as it is, in its place or ahead of the first that is behind it, and asks of all of them whether they are right.
func othersPut(l []impl.File, f impl.File) ([]impl.File, bool) {
	out := slices.Clone(l)
	at := slices.IndexFunc(out, func(x impl.File) bool { return x.Path == f.Path })
	if at >= 0 {
		out[at] = f
	} else {
		at = slices.IndexFunc(append(slices.Clone(out), impl.File{Path: "~"}), func(x impl.File) bool { return x.Path > f.Path })
		out = slices.Insert(out, at, f)
	}
	wrong := slices.ContainsFunc(out, func(x impl.File) bool { return !isPath(x.Path) || len(x.Text) > mostFileText })
	return out, !wrong && strictly(pathsOf(out)) && len(out) <= mostOuts
}

// othersOutText is what an act that is right lays into an out.
func othersOutText(j impl.Job, kind, words string) (string, bool) {
	switch kind {
	case "put":
		return words, true
	case "cat":
		out := ""
		for _, path := range strings.Split(words, " ") {
			text, ok := firstOf(j.Ins, path)
			if !ok {
				return "", false
			}
			out += text
		}
		return out, true
	case "env":
		for _, e := range j.Envs {
			if e.Name == words {
				return e.Val, true
			}
		}
		return "", false
	}
	task, path, _ := strings.Cut(words, " ")
	for _, m := range j.Deps {
		if m.Task == task {
			return firstOf(m.Outs, path)
		}
	}
	return "", false
}

// othersAct does an act by where its sign stands in the text.
func othersAct(j impl.Job, m impl.Made, s string) (impl.Made, bool) {
	if !othersActOk(s) || s == "fail" {
		return m, false
	}
	if words, ok := strings.CutPrefix(s, "log "); ok {
		done := m
		done.Log = m.Log + words + "\n"
		if len(done.Log) > mostLog {
			return m, false
		}
		return done, true
	}
	sign := strings.LastIndex(s, " > ")
	text, ok := othersOutText(j, s[:3], s[4:sign])
	outs, put := othersPut(m.Outs, impl.File{Path: s[sign+3:], Text: text})
	if !ok || !put {
		return m, false
	}
	return impl.Made{Task: m.Task, Outs: outs, Log: m.Log}, true
}

// madePromised asks of what was made in the right way whether it still is right.
func madePromised(t *testing.T, m impl.Made) {
	t.Helper()
	if len(m.Outs) > mostOuts || len(m.Log) > mostLog || !strictly(pathsOf(m.Outs)) || !impl.FilesOk(m.Outs) {
		t.Errorf("what was made is too much, or does not ascend: %v", m)
	}
	for _, f := range m.Outs {
		if !isOut(f.Path) {
			t.Errorf("the Path of an out is no one name: %q", f.Path)
		}
	}
}

// actedAsOthers wants an act done as others do it; where it is refused m is as it was.
func actedAsOthers(t *testing.T, j impl.Job, m impl.Made, s string) (impl.Made, bool) {
	t.Helper()
	got, ok := impl.Act(j, m, s)
	want, can := othersAct(j, m, s)
	if ok != can || !madesAlike(got, want) {
		t.Errorf("%.100q done on %.300v makes %.300v, %v, not %.300v, %v", s, m, got, ok, want, can)
	}
	if !ok && !madesAlike(got, m) {
		t.Errorf("%.100q is refused, and makes %.300v of %.300v", s, got, m)
	}
	return got, ok
}

// makes wants an act of jobToDo done on outs and a Log.
func makes(t *testing.T, outs, log, s, wantOuts, wantLog string) {
	t.Helper()
	got, ok := actedAsOthers(t, jobToDo(), madeTold(outs, log), s)
	if !ok || !madesAlike(got, madeTold(wantOuts, wantLog)) {
		t.Errorf("%q done on %q and %q makes %q, %v", s, outs, log, got, ok)
	}
	madePromised(t, got)
}

// refused wants m and false.
func refused(t *testing.T, j impl.Job, m impl.Made, s string) {
	t.Helper()
	if got, ok := actedAsOthers(t, j, m, s); ok || !madesAlike(got, m) {
		t.Errorf("%.100q done on %.300v makes %.300v, %v", s, m, got, ok)
	}
}

// refusedOnAny wants an act of jobToDo refused, whatever was made ahead.
func refusedOnAny(t *testing.T, s string) {
	t.Helper()
	for _, outs := range []string{"", "o=1", "p=", "a=1;o=2;z=3", "a=;b=;c=;d=;e=;f="} {
		for _, log := range []string{"", "x\n", strings.Repeat("l", mostLog)} {
			refused(t, jobToDo(), madeTold(outs, log), s)
		}
	}
	refused(t, jobToDo(), impl.Made{}, s)
}

func TestPuts(t *testing.T) {
	makes(t, "", "", "put a > o", "o=a", "")
	makes(t, "", "", "put a b > o", "o=a b", "")
	makes(t, "", "", "put a b c d e > o", "o=a b c d e", "")
	makes(t, "", "", "put a > b > c", "c=a > b", "")
	makes(t, "", "", "put > > o", "o=>", "")
	makes(t, "", "", "put > a > o", "o=> a", "")
	makes(t, "", "", "put A#b/c,d! > o", "o=A#b/c,d!", "")
	// What stands elsewhere is not looked for: these are words.
	makes(t, "", "", "put a/x > o", "o=a/x", "")
	makes(t, "", "", "put mode > o", "o=mode", "")
	makes(t, "", "", "put a#build o > q", "q=a#build o", "")
	makes(t, "o=1", "x\n", "put o > p", "o=1;p=o", "x\n")
}

func TestCats(t *testing.T) {
	makes(t, "", "", "cat a/x > o", "o=one", "")
	makes(t, "", "", "cat a/x a/y > o", "o=onetwo", "")
	makes(t, "", "", "cat a/y a/x > o", "o=twoone", "")
	makes(t, "", "", "cat a/x a/y c > o", "o=onetwothree", "")
	makes(t, "", "", "cat c a/y a/x > o", "o=threetwoone", "")
	// One In more than once, and one of no Text.
	makes(t, "", "", "cat a/x a/x > o", "o=oneone", "")
	makes(t, "", "", "cat a/x a/y a/x > o", "o=onetwoone", "")
	makes(t, "", "", "cat a/x a/x a/x > o", "o=oneoneone", "")
	makes(t, "", "", "cat b/z > o", "o=", "")
	makes(t, "", "", "cat b/z b/z b/z > o", "o=", "")
	makes(t, "", "", "cat a/x b/z a/y > o", "o=onetwo", "")
	makes(t, "", "", "cat b/z c b/z > o", "o=three", "")
	// An out may have the name of an In.
	makes(t, "", "", "cat c > c", "c=three", "")
	makes(t, "c=1", "x\n", "cat c > o", "c=1;o=three", "x\n")
	makes(t, "c=1", "", "cat c c > c", "c=threethree", "")
	for _, s := range []string{"cat a > o", "cat x > o", "cat a/x a/z > o", "cat a/z a/x > o", "cat a/x a/y a/z > o", "cat a/x q a/y > o", "cat q a/x a/y > o", "cat q q q > o", "cat A/X > o", "cat /a/x > o", "cat a/x/ > o", "cat a/x, > o", "cat a/* > o", "cat ** > o", "cat c. > o", "cat three > o", "cat > > o", "cat a/x > a/y > o"} {
		refusedOnAny(t, s)
	}
	// It reads sources alone: no outs, nor what others made, nor pairs.
	for _, s := range []string{"cat o > q", "cat p > q", "cat r > q", "cat mode > q", "cat a#build > q", "cat c o > q"} {
		refusedOnAny(t, s)
		refused(t, jobToDo(), madeTold("o=1;p=2;r=3;mode=4", ""), s)
	}
}

func TestEnvs(t *testing.T) {
	makes(t, "", "", "env mode > o", "o=fast and small", "")
	makes(t, "", "", "env way > o", "o=", "")
	makes(t, "mode=1", "x\n", "env mode > mode", "mode=fast and small", "x\n")
	makes(t, "o=1", "", "env way > o", "o=", "")
	for _, s := range []string{"env none > o", "env mod > o", "env modes > o", "env Mode > o", "env fast > o", "env mode,way > o", "env * > o", "env a/x > o", "env c > o", "env o > o", "env > > o", "env a#build > o", "env mode\n > o"} {
		refusedOnAny(t, s)
	}
}

func TestUses(t *testing.T) {
	makes(t, "", "", "use a#build o > q", "q=made", "")
	makes(t, "", "", "use a#build p > q", "q=", "")
	makes(t, "", "", "use c#build o > q", "q=other", "")
	makes(t, "", "", "use c#build r > q", "q=more", "")
	makes(t, "o=1", "x\n", "use a#build o > o", "o=made", "x\n")
	makes(t, "o=1", "", "use a#build p > o", "o=", "")
	makes(t, "o=1", "", "use c#build r > r", "o=1;r=more", "")
	// A task that is not waited for, or made no such out.
	for _, s := range []string{"use a#build q > q", "use a#build r > q", "use a#test o > q", "use c#build p > q", "use q#build o > q", "use a#lint o > q", "use a o > q", "use build o > q", "use # o > q", "use a# o > q", "use a#buil o > q", "use a#builds o > q", "use A#build o > q", "use o a#build > q", "use a#build a/x > q", "use a#build O > q", "use a#build made > q", "use a#build * > q", "use > > > q", "use a#build > > q"} {
		refusedOnAny(t, s)
	}
	// What this task made itself is not to be had by it, nor by itself.
	for _, s := range []string{"use b#build o > q", "use b#build o > o", "use b#build a > q", "use b#build p > p"} {
		refusedOnAny(t, s)
		refused(t, jobToDo(), madeTold("o=1;p=2", ""), s)
	}
	// Unless it is handed in: then it is what was handed in that is used, not what is being made.
	j := jobToDo()
	j.Deps = slices.Insert(j.Deps, 2, impl.Made{Task: "b#build", Outs: filesOf("o=ahead")})
	if got, ok := actedAsOthers(t, j, madeTold("o=1", ""), "use b#build o > q"); !ok || !madesAlike(got, madeTold("o=1;q=ahead", "")) {
		t.Errorf("used is %v, %v", got, ok)
	}
}

func TestLogs(t *testing.T) {
	makes(t, "", "", "log x", "", "x\n")
	makes(t, "", "", "log built a", "", "built a\n")
	makes(t, "", "", "log a b c d", "", "a b c d\n")
	makes(t, "", "x\n", "log y", "", "x\ny\n")
	makes(t, "", "x\ny\n", "log x", "", "x\ny\nx\n")
	makes(t, "o=1;p=", "x\n", "log y", "o=1;p=", "x\ny\n")
	makes(t, "", "", "log >", "", ">\n")
	makes(t, "", "", "log a >", "", "a >\n")
	makes(t, "", "", "log > a b", "", "> a b\n")
	makes(t, "", "no end", "log y", "", "no endy\n")
	// What its words name elsewhere it does not read.
	makes(t, "", "", "log a/x mode a#build o", "", "a/x mode a#build o\n")
	makes(t, "", "", "log fail", "", "fail\n")
	makes(t, "", "", "log put a b o", "", "put a b o\n")
}

func TestFails(t *testing.T) {
	refusedOnAny(t, "fail")
	refused(t, impl.Job{}, impl.Made{}, "fail")
}

func TestWhatIsNoActIsRefused(t *testing.T) {
	for _, s := range []string{"", " ", "what", "put", "put a", "put > o", "put a >", "put  a > o", " put a > o", "put a > o ", "put a > O", "put a > o/p", "put a > ..", "cat > o", "cat a/x", "cat a/x a/y a/x a/y > o", "cat a/x  a/y > o", "env > o", "env mode", "env mode way > o", "use a#build > o", "use a#build o", "use a#build o p > o", "log", "log ", "log a > o", "log > o", "log  a", "fail x", "fail > o", "fail ", "put a > thirteen-byte", "put\ta > o", "PUT a > o", "log a > > b > c"} {
		refusedOnAny(t, s)
	}
}

// TestOutsAscend: an out is laid in its place, or is a new one in between; there is one of each Path.
func TestOutsAscend(t *testing.T) {
	for _, z := range []struct{ outs, out, put string }{
		{"", "b", "b=X"},
		{"b=1;d=2;f=3", "a", "a=X;b=1;d=2;f=3"},
		{"b=1;d=2;f=3", "b", "b=X;d=2;f=3"},
		{"b=1;d=2;f=3", "c", "b=1;c=X;d=2;f=3"},
		{"b=1;d=2;f=3", "d", "b=1;d=X;f=3"},
		{"b=1;d=2;f=3", "e", "b=1;d=2;e=X;f=3"},
		{"b=1;d=2;f=3", "f", "b=1;d=2;f=X"},
		{"b=1;d=2;f=3", "g", "b=1;d=2;f=3;g=X"},
		{"b=;d=;f=", "c", "b=;c=X;d=;f="},
		{"b=;d=;f=", "d", "b=;d=X;f="},
		{"b=1;b-=2;b0=3", "b.", "b=1;b-=2;b.=X;b0=3"},
		{"b=1;bb=2", "b", "b=X;bb=2"},
		{"b=1;bb=2", "ba", "b=1;ba=X;bb=2"},
		{"one=1", "one", "one=X"},
	} {
		for act, text := range map[string]string{"put new text": "new text", "cat a/x c": "onethree", "cat b/z": "", "env mode": "fast and small", "env way": "", "use a#build o": "made", "use a#build p": ""} {
			makes(t, z.outs, "x\n", act+" > "+z.out, strings.ReplaceAll(z.put, "X", text), "x\n")
		}
	}
}

// TestActsByTheirOutsInAnyOrder: in whatever order outs are made, they ascend.
func TestActsByTheirOutsInAnyOrder(t *testing.T) {
	eachOrder(strings.Fields("a b- b c0 d"), func(outs []string) {
		m := madeTold("", "")
		for _, out := range append(slices.Clone(outs), outs[0]) {
			got, ok := actedAsOthers(t, jobToDo(), m, "put of "+out+" > "+out)
			if !ok {
				t.Fatalf("%q is not put into %v", out, m)
			}
			madePromised(t, got)
			m = got
		}
		if !madesAlike(m, madeTold("a=of a;b=of b;b-=of b-;c0=of c0;d=of d", "")) {
			t.Errorf("put in the order %q there is %v", outs, m)
		}
	})
}

// TestActsLeaveTheTaskAsItIs: the Name of the Job does not count for an act.
func TestActsLeaveTheTaskAsItIs(t *testing.T) {
	for _, task := range []string{"", "b#build", "other#task", "no task", "\x00"} {
		for _, s := range []string{"put a > o", "cat c > o", "env mode > o", "use a#build o > q", "log a", "fail", "what", "cat none > o"} {
			m := impl.Made{Task: task, Outs: filesOf("p=1"), Log: "x\n"}
			if got, _ := actedAsOthers(t, jobToDo(), m, s); got.Task != task {
				t.Errorf("by %q %q is turned to %q", s, task, got.Task)
			}
		}
	}
}

// TestActsOfAnEmptyJob: those that read nothing are done all the same.
func TestActsOfAnEmptyJob(t *testing.T) {
	for _, s := range []string{"cat c > o", "cat a/x a/y > o", "env mode > o", "env way > o", "use a#build o > q", "use c#build r > q", "fail", "cat > > o", "env > > o"} {
		refused(t, impl.Job{}, impl.Made{}, s)
		refused(t, impl.Job{}, madeTold("c=1;o=2", "x\n"), s)
	}
	for s, want := range map[string]impl.Made{"put a b > o": {Outs: []impl.File{{Path: "o", Text: "a b"}}}, "log a b": {Log: "a b\n"}} {
		if got, ok := actedAsOthers(t, impl.Job{}, impl.Made{}, s); !ok || !madesAlike(got, want) {
			t.Errorf("%q of an empty job makes %v, %v", s, got, ok)
		}
	}
}

// anyJob has a few of what anyAct asks for, of texts that are short and long.
func anyJob(r *rand.Rand) impl.Job {
	text := func() string {
		return strings.Repeat(oneByte('a'+r.Intn(26)), []int{0, 1, 5, 20, 30, 40, 60}[r.Intn(7)])
	}
	files := func(paths string) []impl.File {
		var out []impl.File
		for _, path := range strings.Fields(paths) {
			if r.Intn(4) > 0 {
				out = append(out, impl.File{Path: path, Text: text()})
			}
		}
		return out
	}
	j := impl.Job{Name: "b#build", Ins: files("a/x a/y b/z c")}
	for _, name := range []string{"mode", "way"} {
		if r.Intn(4) > 0 {
			j.Envs = append(j.Envs, impl.Env{Name: name, Val: text() + strings.Repeat("e", r.Intn(2))})
		}
	}
	for _, task := range []string{"a#build", "a#test", "q#x"} {
		if r.Intn(4) > 0 {
			j.Deps = append(j.Deps, impl.Made{Task: task, Outs: files("o p"), Log: text()})
		}
	}
	for range r.Intn(12) {
		j.Acts = append(j.Acts, anyAct(r))
	}
	return j
}

// anyMade is right, and mostly near to its limits.
func anyMade(r *rand.Rand) impl.Made {
	m := impl.Made{Task: "b#build", Log: strings.Repeat("l", []int{0, 10, 100, 150, 190, 197, 198, 199, 200}[r.Intn(9)])}
	for _, path := range strings.Fields("n o p q r s t u v") {
		if len(m.Outs) < mostOuts && r.Intn(3) > 0 {
			m.Outs = append(m.Outs, impl.File{Path: path, Text: strings.Repeat("t", r.Intn(mostFileText+1))})
		}
	}
	return m
}

func TestManyActsDone(t *testing.T) {
	r := rand.New(rand.NewSource(1502))
	told := map[string]int{}
	for range 40000 {
		s := anyAct(r)
		got, ok := actedAsOthers(t, anyJob(r), anyMade(r), s)
		madePromised(t, got)
		if t.Failed() {
			t.FailNow()
		}
		told[strings.Fields(s)[0]+yesOrNo(ok)[0]]++
	}
	for _, kind := range []string{"put", "cat", "env", "use", "log", "fail"} {
		if told[kind+yesOrNo(true)[0]] < 600 && kind != "fail" || told[kind+yesOrNo(false)[0]] < 600 {
			t.Errorf("so many acts were done, and so many refused: %v", told)
		}
	}
}
