package tests

import (
	"math/rand"
	"slices"
	"strings"
	"testing"

	"loop.example/g00464/impl"
)

// jobActing is jobToDo with acts that are told with `;` between.
func jobActing(acts string) impl.Job {
	j := jobToDo()
	j.Acts = nil
	if acts != "" {
		j.Acts = strings.Split(acts, ";")
	}
	return j
}

// othersMake does one act behind the other, up to the first that is refused.
func othersMake(j impl.Job) (impl.Made, bool) {
	m := impl.Made{Task: j.Name}
	for _, s := range j.Acts {
		done, ok := othersAct(j, m, s)
		if !ok {
			return m, false
		}
		m = done
	}
	return m, true
}

// madeAsOthers wants a Job made as others make it, and in two parts as in one.
func madeAsOthers(t *testing.T, j impl.Job) (impl.Made, bool) {
	t.Helper()
	got, ok := impl.Make(j)
	if want, can := othersMake(j); ok != can || !madesAlike(got, want) {
		t.Errorf("of %.300q is made %.300v, %v, not %.300v, %v", j.Acts, got, ok, want, can)
	}
	madePromised(t, got)
	madeInParts(t, j, got, ok)
	return got, ok
}

// madeInParts wants the first acts to be made, and the others to be done behind them, as all of them are.
func madeInParts(t *testing.T, j impl.Job, want impl.Made, can bool) {
	t.Helper()
	for at := range len(j.Acts) + 1 {
		first := j
		first.Acts = j.Acts[:at]
		m, ok := impl.Make(first)
		for _, s := range j.Acts[at:] {
			if ok {
				m, ok = impl.Act(j, m, s)
			}
		}
		if ok != can || !madesAlike(m, want) {
			t.Errorf("%d of %.300q ahead of the others make %.300v, %v", at, j.Acts, m, ok)
		}
	}
}

// madeIs tells acts of jobToDo, and what comes of all of them.
func madeIs(t *testing.T, acts, outs, log string) {
	t.Helper()
	if got, ok := madeAsOthers(t, jobActing(acts)); !ok || !madesAlike(got, madeTold(outs, log)) {
		t.Errorf("of %s is made %v, %v", acts, got, ok)
	}
}

// failed tells acts, and what was made ahead of the first that was refused.
func failed(t *testing.T, acts, outs, log string) {
	t.Helper()
	if got, ok := madeAsOthers(t, jobActing(acts)); ok || !madesAlike(got, madeTold(outs, log)) {
		t.Errorf("of %s is made %v, %v", acts, got, ok)
	}
}

func TestMake(t *testing.T) {
	madeIs(t, "", "", "")
	madeIs(t, "put a > o", "o=a", "")
	madeIs(t, "log x", "", "x\n")
	madeIs(t, "cat a/x a/y > o", "o=onetwo", "")
	madeIs(t, "env mode > o", "o=fast and small", "")
	madeIs(t, "use a#build o > q", "q=made", "")
	madeIs(t, "put a > o;log hi;put b > o", "o=b", "hi\n")
	madeIs(t, "put b > p;put a > o", "o=a;p=b", "")
	madeIs(t, "log x;log y;log x", "", "x\ny\nx\n")
	madeIs(t, "put a > o;cat c > p;env way > q;use c#build r > r;log did all", "o=a;p=three;q=;r=more", "did all\n")
	madeIs(t, "log ahead;cat c > c;log between;use a#build p > p;log behind", "c=three;p=", "ahead\nbetween\nbehind\n")
	// What comes last counts, be it shorter, longer or nothing.
	madeIs(t, "put a long text > o;put b > o", "o=b", "")
	madeIs(t, "put b > o;put a long text > o", "o=a long text", "")
	madeIs(t, "put a > o;env way > o", "o=", "")
	madeIs(t, "env way > o;put a > o", "o=a", "")
	madeIs(t, "put a > o;put b > p;put c > o;put d > p", "o=c;p=d", "")
	madeIs(t, "put a > f;put a > e;put a > d;put a > c;put a > b;put a > a", "a=a;b=a;c=a;d=a;e=a;f=a", "")
	madeIs(t, "put a > a;put a > b;put a > c;put a > d;put a > e;put a > f;put b > c;log full", "a=a;b=a;c=b;d=a;e=a;f=a", "full\n")
	// Outs of sources' names leave the sources as they are.
	madeIs(t, "put new > c;cat c > o", "c=new;o=three", "")
	madeIs(t, "cat c > c;cat c c > c", "c=threethree", "")
	madeIs(t, "put new > o;use a#build o > p", "o=new;p=made", "")
	madeIs(t, "put new > mode;env mode > o", "mode=new;o=fast and small", "")
}

// TestMakeThatFails: ahead, in the middle and last; what was made ahead of it is answered, and nothing behind it is done.
func TestMakeThatFails(t *testing.T) {
	for _, wrong := range []string{"fail", "what", "put > o", "put  a > o", "log", "log a > o", "cat none > o", "cat a/x none > o", "env none > o", "use a#build q > o", "use a#lint o > o", "use b#build o > o", "put " + strings.Repeat("x", mostFileText+1) + " > o", "log " + strings.Repeat("l", mostLog), "fail x", "put a > o/p", " "} {
		failed(t, wrong, "", "")
		failed(t, wrong+";"+wrong, "", "")
		failed(t, wrong+";put a > o;log x", "", "")
		failed(t, "put a > o;"+wrong, "o=a", "")
		failed(t, "log x;"+wrong, "", "x\n")
		failed(t, "put a > o;log x;"+wrong+";put b > o;log y", "o=a", "x\n")
		failed(t, "put a > o;log x;put b > o;log y;"+wrong, "o=b", "x\ny\n")
		failed(t, "put a > o;"+wrong+";put b > p;"+wrong+";put c > q", "o=a", "")
		failed(t, "put a > o;put b > p;"+wrong+";log x", "o=a;p=b", "")
	}
	// An empty act is one that is refused.
	j := jobActing("put a > o;log x")
	j.Acts = append(j.Acts, "", "log y")
	if m, ok := madeAsOthers(t, j); ok || !madesAlike(m, madeTold("o=a", "x\n")) {
		t.Errorf("with an empty act is made %v, %v", m, ok)
	}
}

// TestMakeOutsOfItsOwn: what is made by an act is no source of the next one.
func TestMakeOutsOfItsOwn(t *testing.T) {
	failed(t, "put a > o;cat o > p", "o=a", "")
	failed(t, "put a > o;cat c o > p", "o=a", "")
	failed(t, "put a > o;use b#build o > p", "o=a", "")
	failed(t, "put a > o;env o > p", "o=a", "")
	failed(t, "env mode > o;cat o > o", "o=fast and small", "")
	failed(t, "log x;cat log > o", "", "x\n")
}

func TestMakeUpToItsLimits(t *testing.T) {
	put := func(outs string) string { return "put a > " + strings.Join(strings.Fields(outs), ";put a > ") }
	const six = "a=a;b=a;c=a;d=a;e=a;f=a"
	madeIs(t, put("a b c d e f"), six, "")
	failed(t, put("a b c d e f g"), six, "")
	failed(t, put("b c d e f g a"), strings.ReplaceAll(six, "a=a;", "")+";g=a", "")
	failed(t, put("a b c d e f")+";log x;cat c > g;log y", six, "x\n")
	madeIs(t, put("a b c d e f f e d c b a"), six, "")
	text := strings.Repeat("x", mostFileText)
	madeIs(t, "put "+text+" > o", "o="+text, "")
	failed(t, "put a > o;put "+text+"x > o;put b > o", "o=a", "")
	line := "log " + strings.Repeat("l", 49)
	lines := strings.Join([]string{line, line, line, line}, ";")
	logged := strings.Repeat(line[4:]+"\n", 4)
	madeIs(t, lines, "", logged)
	madeIs(t, lines+";put a > o", "o=a", logged)
	failed(t, lines+";log x;put a > o", "", logged)
	failed(t, lines+"l", "", logged[:150])
}

// TestMakeOfEachName: what is made has the Name of the Job, whatever it is.
func TestMakeOfEachName(t *testing.T) {
	for _, name := range []string{"", "a", "b#build", "no task", "#", "A#B", "\x00\xff", strings.Repeat("n", 1000)} {
		for _, acts := range []string{"", "put a > o;log x", "fail", "log x;fail"} {
			j := jobActing(acts)
			j.Name = name
			if m, _ := madeAsOthers(t, j); m.Task != name {
				t.Errorf("of the Name %q is made %v", name, m)
			}
		}
	}
	if m, ok := impl.Make(impl.Job{}); !ok || !madesAlike(m, impl.Made{}) {
		t.Errorf("of nothing is made %v, %v", m, ok)
	}
}

// TestMakeReadsNoMore: what its acts do not name may be anything, or not there; what they name counts.
func TestMakeReadsNoMore(t *testing.T) {
	j := jobActing("cat a/x c > o;env mode > p;use a#build o > q;log x")
	want := madeTold("o=onethree;p=fast and small;q=made", "x\n")
	for told, turn := range map[string]func(*impl.Job){
		"no other Ins":    func(j *impl.Job) { j.Ins = filesOf("a/x=one c=three") },
		"more Ins":        func(j *impl.Job) { j.Ins = filesOf("a=1 a/x=one b=2 c=three d=3 o=4 z=5") },
		"other Ins":       func(j *impl.Job) { j.Ins[1].Text, j.Ins[2].Path = "turned", "turned" },
		"Ins in disorder": func(j *impl.Job) { slices.Reverse(j.Ins) },
		"no other Env":    func(j *impl.Job) { j.Envs = j.Envs[:1] },
		"other Envs":      func(j *impl.Job) { j.Envs[1] = impl.Env{Name: "turned", Val: "turned"} },
		"Envs in reverse": func(j *impl.Job) { slices.Reverse(j.Envs) },
		"no other Deps":   func(j *impl.Job) { j.Deps = j.Deps[:1] },
		"other Deps":      func(j *impl.Job) { j.Deps[1], j.Deps[2].Outs = impl.Made{}, nil },
		"other Logs":      func(j *impl.Job) { j.Deps[0].Log, j.Deps[1].Log = "", "turned" },
		"no other outs":   func(j *impl.Job) { j.Deps[0].Outs = filesOf("o=made") },
		"other outs":      func(j *impl.Job) { j.Deps[0].Outs = filesOf("a=1 o=made p=turned z=2") },
		"Deps in reverse": func(j *impl.Job) { slices.Reverse(j.Deps) },
	} {
		x := cloneJob(j)
		turn(&x)
		if m, ok := madeAsOthers(t, x); !ok || !madesAlike(m, want) {
			t.Errorf("by %s is made %v, %v", told, m, ok)
		}
	}
	for told, turn := range map[string]func(*impl.Job){
		"another In": func(j *impl.Job) { j.Ins[0].Text = "turned" }, "no In": func(j *impl.Job) { j.Ins = j.Ins[1:] },
		"another Env": func(j *impl.Job) { j.Envs[0].Val = "turned" }, "no Env": func(j *impl.Job) { j.Envs = nil },
		"another out": func(j *impl.Job) { j.Deps[0].Outs[0].Text = "turned" }, "no out": func(j *impl.Job) { j.Deps[0].Outs = j.Deps[0].Outs[1:] },
		"no Dep": func(j *impl.Job) { j.Deps = j.Deps[1:] }, "another act": func(j *impl.Job) { j.Acts[3] = "log y" },
		"acts in reverse": func(j *impl.Job) { j.Acts[0], j.Acts[1] = "env mode > o", "cat a/x c > p" }, "another Name": func(j *impl.Job) { j.Name = "a#test" },
	} {
		x := cloneJob(j)
		turn(&x)
		if m, _ := madeAsOthers(t, x); madesAlike(m, want) {
			t.Errorf("by %s is made the same", told)
		}
	}
}

// TestMadeHangsOnItsJobAlone: made again, of a Job that is the same, and behind others, it is the same.
func TestMadeHangsOnItsJobAlone(t *testing.T) {
	r := rand.New(rand.NewSource(1503))
	var jobs []impl.Job
	var first []impl.Made
	var could []bool
	for range 3000 {
		j := anyJob(r)
		m, ok := impl.Make(j)
		jobs, first, could = append(jobs, j), append(first, m), append(could, ok)
	}
	for _, at := range r.Perm(len(jobs)) {
		for _, j := range []impl.Job{jobs[at], cloneJob(jobs[at])} {
			if m, ok := impl.Make(j); ok != could[at] || !madesAlike(m, first[at]) {
				t.Fatalf("made again of %v there is %v, %v, not %v, %v", j, m, ok, first[at], could[at])
			}
		}
	}
}

// TestManyMade: at random, of acts that are mostly done.
func TestManyMade(t *testing.T) {
	r := rand.New(rand.NewSource(1504))
	told, outs := map[string]int{}, map[int]int{}
	for range 20000 {
		j := anyJob(r)
		if r.Intn(2) == 0 {
			for range r.Intn(20) {
				j.Acts = append(j.Acts, anyAct(r))
			}
			j.Acts = slices.DeleteFunc(j.Acts, func(s string) bool { _, ok := othersAct(j, impl.Made{}, s); return !ok })
		}
		m, ok := madeAsOthers(t, j)
		if t.Failed() {
			t.FailNow()
		}
		told[yesOrNo(ok)[0]]++
		outs[len(m.Outs)]++
	}
	if told["yes"] < 8000 || told["no"] < 6000 {
		t.Errorf("so many were made, and so many failed: %v", told)
	}
	for n := range mostOuts + 1 {
		if outs[n] < 50 {
			t.Errorf("made by how many outs: %v", outs)
		}
	}
}

// TestMakeOfPacks: acts as they stand in a Cmd are those of a Job.
func TestMakeOfPacks(t *testing.T) {
	c := cmd("build", "cat a/x > o", "log built b", "use a#build o > q")
	packOrNot(t, withCmds(c), true)
	j := jobToDo()
	j.Acts = c.Acts
	if m, ok := madeAsOthers(t, j); !ok || !madesAlike(m, madeTold("o=one;q=made", "built b\n")) {
		t.Errorf("of a Cmd is made %v, %v", m, ok)
	}
}
