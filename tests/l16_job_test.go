package tests

import (
	"math/rand"
	"slices"
	"strings"
	"testing"

	"loop.example/g00464/impl"
)

// A jobAsk is what JobOf is asked of.
type jobAsk struct {
	l     []impl.Pack
	rules []impl.Rule
	files []impl.File
	envs  []impl.Env
	made  []impl.Made
	task  string
}

func jobOf(a jobAsk) impl.Job { return impl.JobOf(a.l, a.rules, a.files, a.envs, a.made, a.task) }

// envsOf makes pairs of texts as `mode=fast way=`.
func envsOf(told string) []impl.Env {
	var out []impl.Env
	for _, f := range filesOf(told) {
		out = append(out, impl.Env{Name: f.Path, Val: f.Text})
	}
	return out
}

// madesOf makes what was made of texts as `a#build c#test`: of each an out and a Log of its own.
func madesOf(told string) []impl.Made {
	var out []impl.Made
	for _, task := range strings.Fields(told) {
		out = append(out, impl.Made{Task: task, Outs: []impl.File{{Path: "o", Text: "of " + task}, {Path: "p"}}, Log: task + "\n"})
	}
	return out
}

// askOf is asked of few packs whose rules take some sources, some pairs, and wait for some tasks.
func askOf(task string) jobAsk {
	return jobAsk{
		l: []impl.Pack{
			{Name: "a", Cmds: []impl.Cmd{cmd("build", "cat a/x > o", "log built a"), cmd("lint", "put l > o"), cmd("test", "use a#build o > r")}},
			{Name: "b", Uses: []string{"a"}, Cmds: []impl.Cmd{cmd("build", "use a#build o > o", "env mode > m", "log z", "log b"), cmd("test", "fail")}},
			{Name: "c", Uses: []string{"a", "b"}, Cmds: []impl.Cmd{cmd("build", "put c > o"), cmd("lint", "put x > y"), cmd("test", "log c")}},
			{Name: "d", Uses: []string{"c"}},
		},
		rules: []impl.Rule{
			{Task: "build", On: []string{"^build", "a#lint"}, Ins: []string{"*/x", "top"}, Envs: []string{"way", "mode"}, Keep: true},
			{Task: "test", On: []string{"^test", "build"}, Envs: []string{"none", "mode"}},
		},
		files: filesOf("a/x=one a/y=two b/x= b/y/z=four top=five"),
		envs:  envsOf("mode=fast other=o way="),
		made:  madesOf("a#build a#lint a#test b#build b#test c#build c#lint c#test"),
		task:  task,
	}
}

// othersCmd is what there is of a task: nothing where the text is none, or there is no such pack, or it has it not.
func othersCmd(l []impl.Pack, task string) (impl.Cmd, bool) {
	parts := taskShape.FindStringSubmatch(task)
	if parts == nil {
		return impl.Cmd{}, false
	}
	for _, p := range l {
		if p.Name == parts[1] {
			at := slices.IndexFunc(p.Cmds, func(c impl.Cmd) bool { return c.Task == parts[2] })
			if at < 0 {
				return impl.Cmd{}, false
			}
			return p.Cmds[at], true
		}
	}
	return impl.Cmd{}, false
}

// othersJob asks of each file, each of the rule's names, and all that was made, whether it is of the job.
func othersJob(a jobAsk) impl.Job {
	c, ok := othersCmd(a.l, a.task)
	if !ok {
		return impl.Job{}
	}
	pack, name, _ := strings.Cut(a.task, "#")
	rule, _ := firstRule(a.rules, name)
	j := impl.Job{Name: a.task, Acts: slices.Clone(c.Acts)}
	var takes []func(path string) bool
	for _, glob := range rule.Ins {
		takes = append(takes, othersMatch(glob))
	}
	for _, f := range a.files {
		if slices.ContainsFunc(takes, func(take func(path string) bool) bool { return take(f.Path) }) {
			j.Ins = append(j.Ins, f)
		}
	}
	for _, name := range rule.Envs {
		if at := slices.IndexFunc(a.envs, func(e impl.Env) bool { return e.Name == name }); at >= 0 {
			j.Envs = append(j.Envs, a.envs[at])
		}
	}
	waited := othersWaits(a.l, a.rules, pack, name)
	seen := map[string]bool{}
	for _, m := range a.made {
		if slices.Contains(waited, m.Task) && !seen[m.Task] {
			j.Deps = append(j.Deps, cloneMade(m))
		}
		seen[m.Task] = true
	}
	slices.SortFunc(j.Deps, func(x, y impl.Made) int { return strings.Compare(x.Task, y.Task) })
	return j
}

// jobAsOthers wants the job that others tell; its key tells it, too.
func jobAsOthers(t *testing.T, a jobAsk) impl.Job {
	t.Helper()
	got, want := jobOf(a), othersJob(a)
	if !jobsAlike(got, want) {
		t.Errorf("the job of %q of %.600v is %.600v, not %.600v", a.task, a, got, want)
	}
	oneKey(t, got, want, jobsAlike(got, want))
	return got
}

// jobIs wants a job of these parts: Acts with `;` between, Ins, Envs, and the tasks of Deps with blanks between.
func jobIs(t *testing.T, a jobAsk, acts, ins, envs, deps string) {
	t.Helper()
	want := impl.Job{Name: a.task, Ins: filesOf(ins), Envs: envsOf(envs), Deps: madesOf(deps)}
	if acts != "" {
		want.Acts = strings.Split(acts, ";")
	}
	if got := jobAsOthers(t, a); !jobsAlike(got, want) {
		t.Errorf("the job of %q is %v, not %v", a.task, got, want)
	}
}

// noJob wants the zero one.
func noJob(t *testing.T, a jobAsk) {
	t.Helper()
	if got := jobAsOthers(t, a); !jobsAlike(got, impl.Job{}) {
		t.Errorf("the job of %q is %v", a.task, got)
	}
}

func TestJobOf(t *testing.T) {
	const ins, envs = "a/x=one b/x= top=five", "way= mode=fast"
	jobIs(t, askOf("a#build"), "cat a/x > o;log built a", ins, envs, "a#lint")
	jobIs(t, askOf("b#build"), "use a#build o > o;env mode > m;log z;log b", ins, envs, "a#build a#lint")
	jobIs(t, askOf("c#build"), "put c > o", ins, envs, "a#build a#lint b#build")
	jobIs(t, askOf("a#test"), "use a#build o > r", "", "mode=fast", "a#build")
	jobIs(t, askOf("b#test"), "fail", "", "mode=fast", "a#test b#build")
	jobIs(t, askOf("c#test"), "log c", "", "mode=fast", "a#test b#test c#build")
}

// TestJobWithoutARule: its Acts alone, whatever there is.
func TestJobWithoutARule(t *testing.T) {
	jobIs(t, askOf("a#lint"), "put l > o", "", "", "")
	jobIs(t, askOf("c#lint"), "put x > y", "", "", "")
	for _, rules := range [][]impl.Rule{nil, {}, {{}}, {{Task: "build"}}, rulesOf("buil builds test"), {{Task: "a", On: []string{"lint"}, Ins: []string{"**"}, Envs: []string{"mode"}}}, {{Task: "b#build", On: []string{"a#build"}, Ins: []string{"**"}, Envs: []string{"mode"}}}, {{On: []string{"a#build"}, Ins: []string{"**"}, Envs: []string{"mode"}}}} {
		a := askOf("b#build")
		a.rules = rules
		jobIs(t, a, "use a#build o > o;env mode > m;log z;log b", "", "", "")
	}
}

// TestJobOfNoTask: no such pack, no such Cmd, or no text of a task.
func TestJobOfNoTask(t *testing.T) {
	for _, task := range []string{"", "#", "a", "build", "a#", "#build", "q#build", "a#q", "b#lint", "d#build", "d#", "a#buil", "a#builds", "aa#build", "build#a", "A#build", "a#Build", " a#build", "a#build ", "a #build", "a# build", "a##build", "a#build#", "#a#build", "a#build#test", "a/build", "^build", "a#^build", "a#build\n", "a#build b#build", "*#build", "a#*", "\x00", "é#build", longName + "x#build", strings.Repeat("a#build", 1000)} {
		noJob(t, askOf(task))
		a := askOf(task)
		a.l = nil
		noJob(t, a)
	}
	for _, task := range []string{"a#build", "b#test", "c#lint"} {
		noJob(t, jobAsk{task: task})
		noJob(t, jobAsk{l: packsOf("a b c"), rules: askOf("").rules, files: askOf("").files, envs: askOf("").envs, made: askOf("").made, task: task})
	}
	noJob(t, jobAsk{})
}

// TestJobOfWhatHasNoName: what is there, but by no names, is no task.
func TestJobOfWhatHasNoName(t *testing.T) {
	for _, pack := range append(noNames(), "") {
		for _, task := range append(noNames(), "", "build") {
			a := jobAsk{l: []impl.Pack{{Name: pack, Cmds: []impl.Cmd{cmd(task, "log x")}}, {Cmds: []impl.Cmd{{Acts: []string{"log y"}}}}}}
			a.rules = []impl.Rule{{Task: task, On: []string{"b#b"}, Ins: []string{"**"}, Envs: []string{"mode"}}, {Ins: []string{"**"}}}
			a.files, a.envs, a.made = filesOf("x=1"), envsOf("mode=fast"), madesOf("b#b")
			a.task = pack + "#" + task
			noJob(t, a)
			a.task = ""
			noJob(t, a)
		}
	}
}

func TestJobOfRightNames(t *testing.T) {
	for _, pack := range rightNames() {
		for _, task := range rightNames() {
			a := jobAsk{l: []impl.Pack{{Name: pack, Cmds: []impl.Cmd{cmd(task, "log x")}}}, rules: []impl.Rule{{Task: task, Ins: []string{"x"}}}, files: filesOf("x=1 y=2"), task: pack + "#" + task}
			jobIs(t, a, "log x", "x=1", "", "")
		}
	}
}

// TestActsOfAJob: as the Cmd has them, in order, right or not, and as often as they stand there.
func TestActsOfAJob(t *testing.T) {
	for _, acts := range [][]string{nil, {}, {""}, {"log x"}, {"log z", "log a", "log m"}, {"log x", "log x"}, {"", "log x", ""}, {"what", "\x00\xff", "put  a"}, {"put a > o", "log x", "cat q > p", "fail", "log y"}, slices.Repeat([]string{"log x", "fail"}, 20), {strings.Repeat("x", 1000)}} {
		a := askOf("b#build")
		a.l[1].Cmds[0].Acts = acts
		if j := jobAsOthers(t, a); !slices.Equal(j.Acts, acts) {
			t.Errorf("the Acts %q are %q of the job", acts, j.Acts)
		}
	}
}

// TestActsOfOtherCmds: those of another task, or of another pack, do not count.
func TestActsOfOtherCmds(t *testing.T) {
	want := jobOf(askOf("b#build"))
	for _, at := range []int{0, 2} {
		a := askOf("b#build")
		for i := range a.l[at].Cmds {
			a.l[at].Cmds[i].Acts = []string{"log turned", "fail"}
		}
		a.l[1].Cmds[1].Acts = []string{"log turned"}
		if j := jobAsOthers(t, a); !jobsAlike(j, want) || !impl.SameJob(j, want) {
			t.Errorf("with other Acts elsewhere the job is %v", j)
		}
	}
}

// insAre wants these of the Ins, by patterns with blanks between, whatever else the rules say.
func insAre(t *testing.T, files, globs, want string) {
	t.Helper()
	a := askOf("c#build")
	a.rules[0].Ins, a.files = strings.Fields(globs), filesOf(files)
	if j := jobAsOthers(t, a); !filesAlike(j.Ins, filesOf(want)) {
		t.Errorf("of %q %q are taken by %q, not %q", files, j.Ins, globs, want)
	}
}

func TestInsOfAJob(t *testing.T) {
	const all = "a/x=one a/y=two b/x= b/y/z=four top=five"
	insAre(t, all, "", "")
	insAre(t, all, "**", all)
	insAre(t, all, "a/x", "a/x=one")
	insAre(t, all, "b/x", "b/x=")
	insAre(t, all, "a/*", "a/x=one a/y=two")
	insAre(t, all, "*", "top=five")
	insAre(t, all, "**/z top", "b/y/z=four top=five")
	insAre(t, all, "top **/z", "b/y/z=four top=five")
	insAre(t, all, "top top t?p **", all)
	insAre(t, all, "none */none a b/y c/**", "")
	insAre(t, all, "[ab]/x [!t]**", "a/x=one b/x=")
	insAre(t, "", "**", "")
	// Wrong patterns, and wrong files.
	insAre(t, all, "A [ a//x /top top/ a/x", "a/x=one")
	insAre(t, all, "a b c top none x", "top=five")
	insAre(t, "b=1 a=2 b=3 A=4 a=5", "a b", "b=1 a=2 b=3 a=5")
	insAre(t, "top=1 =2 /=3 a/b/c/d/e=4", "**", "top=1")
}

// TestInsOfOtherRules: the patterns of another task's rule take nothing.
func TestInsOfOtherRules(t *testing.T) {
	for _, task := range []string{"a#test", "b#test", "c#test", "a#lint", "c#lint"} {
		a := askOf(task)
		a.rules[0].Ins = []string{"**"}
		if j := jobAsOthers(t, a); len(j.Ins) > 0 {
			t.Errorf("%q has %q", task, j.Ins)
		}
	}
}

// turnedFiles tells each way in which one file is turned, dropped or put, by its Path.
func turnedFiles(files []impl.File, path string) [][]impl.File {
	var out [][]impl.File
	for _, text := range []string{"turned", "", "one", "more of it"} {
		if old, ok := firstOf(files, path); !ok || old != text {
			l, _ := impl.PutFile(files, impl.File{Path: path, Text: text})
			out = append(out, l)
		}
	}
	if l, ok := impl.DropFile(files, path); ok {
		out = append(out, l)
	}
	return out
}

// TestWhatMayNotBeRead: of a file that no pattern takes nothing of the job turns; of each other one it does.
func TestWhatMayNotBeRead(t *testing.T) {
	for path, read := range map[string]bool{"a/x": true, "b/x": true, "c/x": true, "top": true, "x/x": true, "a/y": false, "b/y/z": false, "a": false, "x": false, "a/x/x": false, "a/xx": false, "tops": false, "to": false, "b/top": false, "z": false, "d/e/f/x": false} {
		a := askOf("b#build")
		want := jobOf(a)
		key := impl.KeyOf(want)
		all := turnedFiles(a.files, path)
		if len(all) < 3 {
			t.Errorf("%q is turned in %d ways", path, len(all))
		}
		for _, files := range all {
			a.files = files
			j := jobAsOthers(t, a)
			same := jobsAlike(j, want) && impl.SameJob(j, want) && string(impl.KeyOf(j)) == string(key)
			other := !jobsAlike(j, want) && !impl.SameJob(j, want) && string(impl.KeyOf(j)) != string(key)
			if read && !other || !read && !same {
				t.Errorf("with %q the job is %v; is it the same: %v", files, j, same)
			}
			if m, ok := impl.Make(j); !read && (!ok || !madesAlike(m, madeIsOf(t, want))) {
				t.Errorf("with %q is made %v, %v", files, m, ok)
			}
		}
	}
}

// madeIsOf is what is made of a job that can be made.
func madeIsOf(t *testing.T, j impl.Job) impl.Made {
	t.Helper()
	m, ok := impl.Make(j)
	if !ok {
		t.Errorf("of %v only %v is made", j, m)
	}
	return m
}

// envsAre wants these of the Envs, by the rule's names with blanks between.
func envsAre(t *testing.T, envs, names, want string) {
	t.Helper()
	a := askOf("c#build")
	a.rules[0].Envs, a.envs = strings.Fields(names), envsOf(envs)
	if j := jobAsOthers(t, a); !slices.Equal(j.Envs, envsOf(want)) {
		t.Errorf("of %q %q are taken by %q, not %q", envs, j.Envs, names, want)
	}
}

func TestEnvsOfAJob(t *testing.T) {
	const all = "mode=fast other=o way="
	envsAre(t, all, "", "")
	envsAre(t, all, "mode", "mode=fast")
	envsAre(t, all, "way", "way=")
	envsAre(t, all, "none", "")
	envsAre(t, all, "none mode", "mode=fast")
	envsAre(t, all, "mode none", "mode=fast")
	envsAre(t, all, "mode none way", "mode=fast way=")
	envsAre(t, all, "m mod modes Mode", "")
	envsAre(t, "", "mode way other", "")
	// In the order of the rule's, whatever that of those that are there.
	eachOrder([]string{"mode=fast", "other=o", "way="}, func(envs []string) {
		eachOrder([]string{"mode", "other", "way"}, func(names []string) {
			var want []string
			for _, name := range names {
				at := slices.IndexFunc(envs, func(s string) bool { return strings.HasPrefix(s, name) })
				want = append(want, envs[at])
			}
			envsAre(t, strings.Join(envs, " "), strings.Join(names, " "), strings.Join(want, " "))
			envsAre(t, strings.Join(envs[:2], " "), strings.Join(names[:1], " ")+" none", strings.Join(slices.DeleteFunc(slices.Clone(want[:1]), func(s string) bool { return !slices.Contains(envs[:2], s) }), " "))
		})
	})
	// Of two of one name the first counts; a name that the rule tells twice is told twice.
	envsAre(t, "mode=first way=w mode=second", "way mode", "way=w mode=first")
	envsAre(t, "mode= mode=second", "mode", "mode=")
	envsAre(t, all, "mode mode", "mode=fast mode=fast")
	envsAre(t, all, "mode way mode", "mode=fast way= mode=fast")
	// More of them than there may be, and what is no name.
	envsAre(t, "a=1 b=2 c=3 d=4 e=5 f=6", "f e d c b a", "f=6 e=5 d=4 c=3 b=2 a=1")
	envsAre(t, "A=1 =2 a/b=3", "a/b A", "a/b=3 A=1")
}

// TestEnvsThatTheRuleDoesNotName: of these nothing of the job turns; of those that it names it does.
func TestEnvsThatTheRuleDoesNotName(t *testing.T) {
	for name, named := range map[string]bool{"mode": true, "way": true, "other": false, "new": false, "m": false, "modes": false, "a": false} {
		a := askOf("b#build")
		want := jobOf(a)
		for _, envs := range [][]impl.Env{append(envsOf(name+"=turned"), a.envs...), slices.DeleteFunc(append(envsOf("zero="), a.envs...), func(e impl.Env) bool { return e.Name == name })} {
			a.envs = envs
			j := jobAsOthers(t, a)
			if same := impl.SameJob(j, want); same == named || same != (string(impl.KeyOf(j)) == string(impl.KeyOf(want))) {
				t.Errorf("with %q the job is %v; is it the same: %v", envs, j, same)
			}
		}
	}
}

// TestValsOfEnvs: any of them, as it stands.
func TestValsOfEnvs(t *testing.T) {
	for _, val := range []string{"", " ", "a b", "=", "\x00\n\xff", strings.Repeat("v", 1000)} {
		a := askOf("b#build")
		a.envs[0].Val = val
		if j := jobAsOthers(t, a); len(j.Envs) != 2 || j.Envs[1] != (impl.Env{Name: "mode", Val: val}) {
			t.Errorf("with the Val %q there are %q", val, j.Envs)
		}
	}
}

// depsAreMade wants these of the Deps of a task, by what was made.
func depsAreMade(t *testing.T, task, made, want string) {
	t.Helper()
	a := askOf(task)
	a.made = madesOf(made)
	if j := jobAsOthers(t, a); !slices.EqualFunc(j.Deps, madesOf(want), madesAlike) {
		t.Errorf("of what was made, %q, %q has %v, not %q", made, task, j.Deps, want)
	}
}

func TestDepsOfAJob(t *testing.T) {
	depsAreMade(t, "c#build", "", "")
	depsAreMade(t, "c#build", "a#build", "a#build")
	depsAreMade(t, "c#build", "b#build", "b#build")
	depsAreMade(t, "c#build", "a#build b#build", "a#build b#build")
	// What was made and is not waited for: its own, that of others, that of no task.
	depsAreMade(t, "c#build", "c#build", "")
	depsAreMade(t, "c#build", "a#test b#test c#test c#lint d#build q#build", "")
	depsAreMade(t, "c#build", "a#test b#build c#build", "b#build")
	depsAreMade(t, "c#build", "a a#buil a#builds build #build A#build", "")
	depsAreMade(t, "a#lint", "a#build a#lint a#test", "")
	depsAreMade(t, "b#build", "c#build b#build", "")
	depsAreMade(t, "a#test", "a#build b#build c#build", "a#build")
	// What is waited for, by what it waits for alone, is not waited for.
	depsAreMade(t, "c#test", "a#build a#lint b#build", "")
	depsAreMade(t, "c#test", "b#build b#test", "b#test")
	// In whatever order it was made they ascend.
	eachOrder([]string{"a#build", "a#lint", "b#build", "c#test"}, func(made []string) {
		depsAreMade(t, "c#build", strings.Join(made, " "), "a#build a#lint b#build")
	})
	eachOrder([]string{"c#build", "b#test", "a#test"}, func(made []string) {
		depsAreMade(t, "c#test", strings.Join(made, " "), "a#test b#test c#build")
	})
}

// TestDepsAreAsTheyWereMade: with all that was made, right or not; of two of one task the first counts.
func TestDepsAreAsTheyWereMade(t *testing.T) {
	for _, m := range append(wrongMades(), impl.Made{}, madeTold("o=1", "x\n"), madeTold("b=1;a=2", "\x00")) {
		m.Task = "a#build"
		a := askOf("b#build")
		a.made = append([]impl.Made{{}, m}, a.made...)
		if j := jobAsOthers(t, a); len(j.Deps) != 2 || !madesAlike(j.Deps[0], m) {
			t.Errorf("of %v there is %v", m, j.Deps)
		}
		a.made = append(askOf("").made, m)
		if j := jobAsOthers(t, a); len(j.Deps) != 2 || !madesAlike(j.Deps[0], madesOf("a#build")[0]) {
			t.Errorf("of %v behind another there is %v", m, j.Deps)
		}
	}
}

// TestWhatIsNotWaitedFor: of what it made nothing of the job turns; of what is waited for it does.
func TestWhatIsNotWaitedFor(t *testing.T) {
	all := askOf("c#test").made
	for _, task := range []string{"a#build", "b#build", "c#build", "a#test", "b#test", "c#test", "a#lint"} {
		want := jobOf(askOf(task))
		for at, m := range all {
			waited := slices.ContainsFunc(want.Deps, func(d impl.Made) bool { return d.Task == m.Task })
			for _, turned := range []impl.Made{{Task: m.Task}, {Task: m.Task, Outs: m.Outs, Log: "turned"}, {Task: m.Task, Outs: filesOf("o=turned p="), Log: m.Log}, {Task: m.Task, Outs: m.Outs[:1], Log: m.Log}, {Task: "turned", Outs: m.Outs, Log: m.Log}} {
				a := askOf(task)
				a.made[at] = turned
				j := jobAsOthers(t, a)
				if same := impl.SameJob(j, want); same == waited || same != (string(impl.KeyOf(j)) == string(impl.KeyOf(want))) {
					t.Errorf("with %v the job of %q is %v; is it the same: %v", turned, task, j, same)
				}
			}
		}
	}
}

// TestJobsOfWhatIsMadeByThem: what is not of the job cannot be read, and what is can.
func TestJobsOfWhatIsMadeByThem(t *testing.T) {
	for act, ok := range map[string]bool{
		"cat a/x > o": true, "cat top b/x > o": true, "cat a/y > o": false, "cat b/y/z > o": false, "cat a/x a/y > o": false,
		"env mode > o": true, "env way > o": true, "env other > o": false, "env none > o": false,
		"use a#build o > o": true, "use a#lint p > o": true, "use a#test o > o": false, "use b#build o > o": false, "use c#build o > o": false,
	} {
		a := askOf("b#build")
		a.l[1].Cmds[0].Acts = []string{act}
		if m, made := impl.Make(jobAsOthers(t, a)); made != ok || m.Task != "b#build" {
			t.Errorf("by %q is made %v, %v", act, m, made)
		}
	}
}

// TestJobOfWrongLists: of two as good the first counts; nothing is asked of what the task does not name.
func TestJobOfWrongLists(t *testing.T) {
	a := askOf("b#build")
	a.l = append([]impl.Pack{{}, {Name: "B"}, {Name: "b", Uses: []string{"q", "c"}, Cmds: []impl.Cmd{cmd("z"), cmd("build", "first"), cmd("build", "second")}}}, a.l...)
	a.rules = append([]impl.Rule{{}, {Task: "x", On: []string{"wrong on"}}, {Task: "build", On: []string{"^build", "what is", "b#z"}, Ins: []string{"a/y", "["}, Envs: []string{"other", "No"}}}, a.rules...)
	jobIs(t, a, "first", "a/y=two", "other=o", "c#build")
	a.made = append(madesOf("b#z b#build"), a.made...)
	jobIs(t, a, "first", "a/y=two", "other=o", "b#z c#build")
	a.task = "b#test"
	noJob(t, a)
	a.task = "b#z"
	if j := jobAsOthers(t, a); !jobsAlike(j, impl.Job{Name: "b#z"}) {
		t.Errorf("of no Acts and no rule the job is %v", j)
	}
	a.task = "a#build"
	jobIs(t, a, "cat a/x > o;log built a", "a/y=two", "other=o", "b#z")
}

// anyAsk is mostly right, of few names, so that much of it is met.
func anyAsk(r *rand.Rand) jobAsk {
	a := jobAsk{l: anyWork(r), rules: anyRulesOn(r), files: anyFiles(r, strings.Fields("a/x a/y b/x b/y/z top")), task: oneByte('a'+r.Intn(6)) + "#" + []string{"t", "u", "v", "w", "x"}[r.Intn(5)]}
	for i := range a.rules {
		for range r.Intn(3) {
			a.rules[i].Ins = append(a.rules[i].Ins, []string{"**", "a/x", "a/*", "*/x", "b/**", "to?", "none", "[", "*"}[r.Intn(9)])
		}
		for range r.Intn(4) {
			a.rules[i].Envs = append(a.rules[i].Envs, oneByte('e'+r.Intn(4)))
		}
	}
	for _, at := range r.Perm(5)[:r.Intn(5)] {
		a.envs = append(a.envs, impl.Env{Name: oneByte('e' + at), Val: strings.Repeat("v", r.Intn(3))})
	}
	for _, p := range a.l {
		for _, c := range p.Cmds {
			if r.Intn(3) > 0 {
				a.made = append(a.made, impl.Made{Task: p.Name + "#" + c.Task, Outs: anyMade(r).Outs, Log: p.Name})
			}
		}
	}
	r.Shuffle(len(a.made), func(i, k int) { a.made[i], a.made[k] = a.made[k], a.made[i] })
	return a
}

func TestManyJobs(t *testing.T) {
	r := rand.New(rand.NewSource(1601))
	told := map[string]int{}
	for range 20000 {
		j := jobAsOthers(t, anyAsk(r))
		if t.Failed() {
			t.FailNow()
		}
		told["name"+yesOrNo(j.Name != "")[0]]++
		told["ins"+impl.NumText(min(2, len(j.Ins)))]++
		told["envs"+impl.NumText(min(2, len(j.Envs)))]++
		told["deps"+impl.NumText(min(3, len(j.Deps)))]++
	}
	for _, many := range []string{"nameyes", "nameno", "ins0", "ins1", "ins2", "envs0", "envs1", "envs2", "deps0", "deps1", "deps2", "deps3"} {
		if told[many] < 300 {
			t.Errorf("so many jobs were told: %v", told)
		}
	}
}

// TestGreatJobsOf: very many of each, each found soon.
func TestGreatJobsOf(t *testing.T) {
	const n = 100000
	names := manyNames(n)
	l := manyPacks(names, func(i int) []string {
		if i == 0 {
			return names[1:]
		}
		return nil
	})
	a := jobAsk{l: l, rules: []impl.Rule{{Task: "build", On: []string{"^build"}, Ins: []string{"**"}, Envs: names}}, task: names[0] + "#build"}
	want := impl.Job{Name: a.task, Acts: slices.Repeat([]string{"log x"}, n)}
	for i, name := range names {
		l[i].Cmds = []impl.Cmd{cmd("build", "log x")}
		a.envs = append(a.envs, impl.Env{Name: name, Val: name})
		a.files = append(a.files, impl.File{Path: name, Text: name})
		a.made = append(a.made, impl.Made{Task: name + "#build", Log: name})
	}
	l[0].Cmds[0].Acts = want.Acts
	want.Ins, want.Envs, want.Deps = a.files, slices.Clone(a.envs), slices.Clone(a.made[1:])
	slices.Reverse(a.made)
	slices.Reverse(a.envs)
	if j := jobOf(a); !jobsAlike(j, want) || !impl.SameJob(j, want) || string(impl.KeyOf(j)) != string(impl.KeyOf(want)) {
		t.Errorf("a great job has %d Acts, %d Ins, %d Envs, %d Deps", len(j.Acts), len(j.Ins), len(j.Envs), len(j.Deps))
	}
	a.task = names[0] + "#test"
	noJob(t, jobAsk{l: a.l, task: a.task})
	noJob(t, jobAsk{l: a.l, task: strings.Repeat("x", 1000000)})
}
