package tests

import (
	"bytes"
	"slices"
	"testing"

	"loop.example/g00464/impl"
)

// jobAsksToShare are right ones and wrong ones; those of `spare` would find what lies behind the lists.
func jobAsksToShare() []jobAsk {
	var out []jobAsk
	for _, task := range []string{"a#build", "b#build", "c#build", "a#test", "c#test", "a#lint", "d#build", "a#spare", "spare#build", "spare#x", "q#build", "", "what"} {
		a := askOf(task)
		out = append(out, a)
		a.rules = slices.Clone(a.rules)
		a.rules[0].On = []string{"spare", "^spare", "spare#x", "spare#build", "^build"}
		a.rules[0].Ins, a.rules[0].Envs = []string{"spare", "top"}, []string{"spare", "mode"}
		out = append(out, a)
		a.rules = ruledOn("build=a#lint,^build,^build lint=c#test,build test=^test")
		a.rules[1].Ins, a.rules[1].Envs = []string{"**", "a/x", "["}, []string{"mode", "way", "mode", "none"}
		a.made = append(madesOf("a#build a#build c#test a#lint"), wrongMades()...)
		out = append(out, a)
		a.files, a.envs, a.made = nil, nil, nil
		out = append(out, a)
		a = askOf(task)
		a.l, a.rules = append(workOf("c=a,b,spare:build,spare spare:x,build"), a.l...), nil
		out = append(out, a, jobAsk{task: task})
	}
	return out
}

func cloneJobAsk(a jobAsk) jobAsk {
	w := cloneWork(work{l: a.l, rules: a.rules})
	out := jobAsk{w.l, w.rules, slices.Clone(a.files), slices.Clone(a.envs), nil, a.task}
	for _, m := range a.made {
		out.made = append(out.made, cloneMade(m))
	}
	return out
}

// jobAskWithRoom has all of a, its spare room as if it were a part of it.
func jobAskWithRoom(a jobAsk) jobAsk {
	out := jobAsk{packsWithRoom(a.l), rulesWithRoom(a.rules), slices.Clone(a.files[:cap(a.files)]), slices.Clone(a.envs[:cap(a.envs)]), nil, a.task}
	for _, m := range a.made[:cap(a.made)] {
		out.made = append(out.made, madeWithRoom(m))
	}
	return out
}

// looseJobAsk has a over memory that can be turned, and spare room behind its lists, with what would be found there.
func looseJobAsk(a jobAsk) (jobAsk, func()) {
	w, turnWork := looseWork(work{l: a.l, rules: a.rules})
	files, turnFiles := looseFiles(a.files)
	envs, turnEnvs := looseEnvs(a.envs)
	made, turnMade := looseMades(a.made)
	task, turnTask := looseText(a.task)
	return jobAsk{w.l, w.rules, files, envs, made, task}, func() {
		turnWork()
		turnFiles()
		turnEnvs()
		turnMade()
		turnTask()
	}
}

func jobAsksAlike(a, b jobAsk) bool {
	return slices.EqualFunc(a.l, b.l, packsAlike) && slices.EqualFunc(a.rules, b.rules, rulesAlike) && filesAlike(a.files, b.files) && slices.Equal(a.envs, b.envs) && slices.EqualFunc(a.made, b.made, madesAlike) && a.task == b.task
}

// listsOfJob writes into one list of j each, and into the room behind it.
func listsOfJob(j impl.Job) []func() {
	out := []func(){
		func() { scribbleTexts(j.Acts) },
		func() { scribbleFiles(j.Ins) },
		func() {
			room := j.Envs[:cap(j.Envs)]
			for i := range room {
				room[i] = impl.Env{Name: "scribble", Val: "scribble"}
			}
		},
	}
	for _, m := range j.Deps {
		out = append(out, func() { scribbleFiles(m.Outs) })
	}
	return append(out, func() {
		room := j.Deps[:cap(j.Deps)]
		for i := range room {
			room[i] = impl.Made{Task: "scribble", Log: "scribble"}
		}
	})
}

func scribbleJob(j impl.Job) {
	for _, write := range listsOfJob(j) {
		write()
	}
}

func TestJobAsksAreLeftAlone(t *testing.T) {
	for _, in := range jobAsksToShare() {
		want := jobOf(cloneJobAsk(in))
		a, _ := looseJobAsk(in)
		before := jobAskWithRoom(a)
		got := jobOf(a)
		if !jobsAlike(got, want) {
			t.Errorf("the job of %v hangs on the room behind: %v, not %v", in, got, want)
		}
		scribbleJob(got)
		if !jobAsksAlike(jobAskWithRoom(a), before) || !jobAsksAlike(a, in) {
			t.Errorf("%v, or the room behind, is written into", in)
		}
	}
}

func TestJobsShareNothing(t *testing.T) {
	filled := 0
	for _, in := range jobAsksToShare() {
		want := othersJob(in)
		a, turn := looseJobAsk(in)
		got, again := jobOf(a), jobOf(a)
		turn()
		if !jobsAlike(got, want) {
			t.Errorf("the job of %v shares its memory: %v, not %v", in, got, want)
		}
		scribbleJob(got)
		if !jobsAlike(again, want) || !jobsAlike(jobOf(in), want) {
			t.Errorf("two jobs of %v lie over each other", in)
		}
		if len(want.Ins) > 0 && len(want.Envs) > 0 && len(want.Deps) > 0 {
			filled++
		}
	}
	if filled < 6 {
		t.Errorf("only %d jobs had all of their parts", filled)
	}
}

// TestListsOfOneJobShareNothing writes into one list at a time.
func TestListsOfOneJobShareNothing(t *testing.T) {
	for _, in := range jobAsksToShare() {
		want := jobOf(in)
		for at := range listsOfJob(want) {
			j := jobOf(in)
			listsOfJob(j)[at]()
			for i, d := range j.Deps {
				if own := at == 3+i; !own && at != 3+len(j.Deps) && !madesAlike(d, want.Deps[i]) {
					t.Errorf("of the job of %v list %d lies over the outs of Dep %d", in, at, i)
				}
			}
			if at != 0 && !slices.Equal(j.Acts, want.Acts) || at != 1 && !filesAlike(j.Ins, want.Ins) || at != 2 && !slices.Equal(j.Envs, want.Envs) {
				t.Errorf("of the job of %v list %d lies over another", in, at)
			}
		}
	}
}

// TestListsOfAskersThatLieOverEachOther: what was made may share its outs, and the sources theirs.
func TestListsOfAskersThatLieOverEachOther(t *testing.T) {
	all := filesOf("a/x=1 b/x=2 top=3 z=4")
	a := askOf("b#build")
	a.files, a.made = all[:3], []impl.Made{{Task: "a#build", Outs: all[1:3]}, {Task: "a#lint", Outs: all[:2]}, {Task: "a#build", Outs: all}}
	names := []string{"mode", "way", "other"}
	a.rules[0].Envs, a.rules[0].Ins = names[:2], []string{"**"}
	j := jobAsOthers(t, a)
	if !filesAlike(j.Ins, all[:3]) || len(j.Deps) != 2 || !filesAlike(j.Deps[0].Outs, all[1:3]) || !filesAlike(j.Deps[1].Outs, all[:2]) {
		t.Errorf("the job is %v", j)
	}
	scribbleFiles(j.Deps[0].Outs)
	if !filesAlike(j.Ins, all[:3]) || !filesAlike(j.Deps[1].Outs, all[:2]) || !filesAlike(all, filesOf("a/x=1 b/x=2 top=3 z=4")) {
		t.Errorf("the outs lie over others: %v", j)
	}
}

// jobsToShare have parts, or none, and those of `spare` what lies behind the lists.
func jobsToShare() []impl.Job {
	out := []impl.Job{{}, fullJob(), jobToDo(), {Name: "spare"}, {Acts: []string{"put spare > spare"}}, {Ins: filesOf("spare=room")}, {Envs: envsOf("spare=room")}, {Deps: []impl.Made{{Task: "spare#x", Outs: filesOf("o=spare")}}}}
	for _, a := range jobAsksToShare() {
		out = append(out, othersJob(a))
	}
	for _, turn := range turnedJobs() {
		j := fullJob()
		turn(&j)
		out = append(out, cloneJob(j))
	}
	return out
}

func TestJobsToTellAreLeftAlone(t *testing.T) {
	for _, in := range jobsToShare() {
		for _, other := range []impl.Job{in, fullJob(), {}} {
			a, _ := looseActAsk(actAsk{j: in})
			b, _ := looseActAsk(actAsk{j: other})
			beforeA, beforeB := actAskWithRoom(a), actAskWithRoom(b)
			key := impl.KeyOf(a.j)
			if string(key) != othersKey(in) || impl.SameJob(a.j, b.j) != jobsAlike(in, other) {
				t.Errorf("the key of %v hangs on the room behind, or whether it is %v", in, other)
			}
			scribbleBytes(key)
			if !asksOfActsAlike(actAskWithRoom(a), beforeA) || !asksOfActsAlike(actAskWithRoom(b), beforeB) || !jobsAlike(a.j, in) || !jobsAlike(b.j, other) {
				t.Errorf("%v or %v, or the room behind, is written into", in, other)
			}
		}
	}
}

// scribbleBytes writes into all of b, and into the room behind it.
func scribbleBytes(b []byte) {
	b = b[:cap(b)]
	for i := range b {
		b[i] ^= 0x55
	}
}

func TestKeysShareNothing(t *testing.T) {
	for _, in := range jobsToShare() {
		want := othersKey(in)
		a, turn := looseActAsk(actAsk{j: in})
		key, again := impl.KeyOf(a.j), impl.KeyOf(a.j)
		turn()
		if string(key) != want {
			t.Errorf("the key of %v shares its memory: %q, not %q", in, key, want)
		}
		scribbleBytes(key)
		if string(again) != want || string(impl.KeyOf(in)) != want {
			t.Errorf("two keys of %v lie over each other", in)
		}
	}
}

// TestWhatIsAppendedToAKey: two of them do not write over each other, nor is there room behind a key to be found.
func TestWhatIsAppendedToAKey(t *testing.T) {
	for _, in := range jobsToShare() {
		key := impl.KeyOf(in)
		kept := bytes.Clone(key)
		one, other := append(key, "one"...), append(key, "two"...)
		if string(one) != string(kept)+"one" || string(other) != string(kept)+"two" || !bytes.Equal(key, kept) {
			t.Errorf("what is appended to the key of %v lies over what was: %q, %q", in, one, other)
		}
	}
}

// TestJobsAndKeysAreKeptNowhere: what was asked ahead does not count, whatever it was.
func TestJobsAndKeysAreKeptNowhere(t *testing.T) {
	asks := jobAsksToShare()
	var first []impl.Job
	var keys [][]byte
	for _, a := range asks {
		j := jobOf(a)
		first, keys = append(first, j), append(keys, impl.KeyOf(j))
	}
	for i := len(asks) - 1; i >= 0; i-- {
		j := jobOf(asks[i])
		if !jobsAlike(j, first[i]) || !impl.SameJob(j, first[i]) || !bytes.Equal(impl.KeyOf(j), keys[i]) {
			t.Errorf("asked again of %v there is %v, not %v", asks[i], j, first[i])
		}
		if i > 0 && impl.SameJob(j, first[i-1]) != jobsAlike(j, first[i-1]) {
			t.Errorf("whether %v is %v hangs on what was asked ahead", j, first[i-1])
		}
	}
}
