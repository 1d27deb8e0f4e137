package tests

import (
	"math/rand"
	"slices"
	"testing"

	"loop.example/g00464/impl"
)

// turnedJobs tell each way in which one part of fullJob is another.
func turnedJobs() map[string]func(*impl.Job) {
	return map[string]func(*impl.Job){
		"another Name": func(j *impl.Job) { j.Name = "n#u" }, "no Name": func(j *impl.Job) { j.Name = "" }, "a longer Name": func(j *impl.Job) { j.Name += "t" }, "a big Name": func(j *impl.Job) { j.Name = "N#t" },
		"the first Act": func(j *impl.Job) { j.Acts[0] = "put a > p" }, "the last Act": func(j *impl.Job) { j.Acts[1] = "log c" }, "an empty Act": func(j *impl.Job) { j.Acts[0] = "" },
		"one Act more": func(j *impl.Job) { j.Acts = append(j.Acts, "log c") }, "an empty one more": func(j *impl.Job) { j.Acts = append(j.Acts, "") }, "one Act twice": func(j *impl.Job) { j.Acts = append(j.Acts, j.Acts[1]) },
		"one Act fewer": func(j *impl.Job) { j.Acts = j.Acts[:1] }, "the first Act is gone": func(j *impl.Job) { j.Acts = j.Acts[1:] }, "no Acts": func(j *impl.Job) { j.Acts = nil },
		"Acts in reverse": func(j *impl.Job) { slices.Reverse(j.Acts) }, "a blank goes over": func(j *impl.Job) { j.Acts = []string{"put a > ol", "og b"} }, "Acts as one": func(j *impl.Job) { j.Acts = []string{"put a > olog b"} },
		"an In's Path": func(j *impl.Job) { j.Ins[0].Path = "a/w" }, "the last In's Path": func(j *impl.Job) { j.Ins[1].Path = "b/z" }, "an In's Text": func(j *impl.Job) { j.Ins[0].Text = "none" }, "the last In's Text": func(j *impl.Job) { j.Ins[1].Text = "" },
		"one In more": func(j *impl.Job) { j.Ins = append(j.Ins, impl.File{Path: "c"}) }, "an empty In more": func(j *impl.Job) { j.Ins = append(j.Ins, impl.File{}) }, "one In fewer": func(j *impl.Job) { j.Ins = j.Ins[:1] }, "the first In is gone": func(j *impl.Job) { j.Ins = j.Ins[1:] }, "no Ins": func(j *impl.Job) { j.Ins = nil },
		"Ins in reverse": func(j *impl.Job) { slices.Reverse(j.Ins) }, "Path for Text": func(j *impl.Job) { j.Ins[0] = impl.File{Path: "one", Text: "a/x"} }, "Path into Text": func(j *impl.Job) { j.Ins[0] = impl.File{Path: "a/", Text: "xone"} }, "Text into Path": func(j *impl.Job) { j.Ins[0] = impl.File{Path: "a/xone"} }, "Texts of Ins": func(j *impl.Job) { j.Ins[0].Text, j.Ins[1].Text = j.Ins[1].Text, j.Ins[0].Text },
		"Text into the next Path": func(j *impl.Job) { j.Ins[0].Text, j.Ins[1].Path = "on", "eb/y" },
		"an Env's Name":           func(j *impl.Job) { j.Envs[0].Name = "modes" }, "the last Env's Name": func(j *impl.Job) { j.Envs[1].Name = "wax" }, "an Env's Val": func(j *impl.Job) { j.Envs[0].Val = "" }, "the last Env's Val": func(j *impl.Job) { j.Envs[1].Val = "short" },
		"one Env more": func(j *impl.Job) { j.Envs = append(j.Envs, impl.Env{Name: "z"}) }, "an empty Env more": func(j *impl.Job) { j.Envs = append(j.Envs, impl.Env{}) }, "one Env fewer": func(j *impl.Job) { j.Envs = j.Envs[:1] }, "the first Env is gone": func(j *impl.Job) { j.Envs = j.Envs[1:] }, "no Envs": func(j *impl.Job) { j.Envs = nil },
		"Envs in reverse": func(j *impl.Job) { slices.Reverse(j.Envs) }, "Name for Val": func(j *impl.Job) { j.Envs[1] = impl.Env{Name: "long", Val: "way"} }, "Name into Val": func(j *impl.Job) { j.Envs[1] = impl.Env{Name: "wa", Val: "ylong"} }, "Vals of Envs": func(j *impl.Job) { j.Envs[0].Val, j.Envs[1].Val = j.Envs[1].Val, j.Envs[0].Val },
		"an Env for an In": func(j *impl.Job) { j.Ins, j.Envs = append(j.Ins, impl.File{Path: "mode", Text: "fast"}), j.Envs[1:] },
		"Ins for Envs":     func(j *impl.Job) { j.Ins, j.Envs = filesOf("mode=fast way=long"), envsOf("a/x=one b/y=two") },
		"a Dep's Task":     func(j *impl.Job) { j.Deps[0].Task = "d#u" }, "the last Dep's Task": func(j *impl.Job) { j.Deps[1].Task = "" }, "a Dep's Log": func(j *impl.Job) { j.Deps[0].Log = "did" }, "the last Dep's Log": func(j *impl.Job) { j.Deps[1].Log = "" },
		"Task for Log": func(j *impl.Job) { j.Deps[1].Task, j.Deps[1].Log = "ed", "e#t" }, "Task into Log": func(j *impl.Job) { j.Deps[1].Task, j.Deps[1].Log = "e#", "ted" }, "Logs of Deps": func(j *impl.Job) { j.Deps[0].Log, j.Deps[1].Log = j.Deps[1].Log, j.Deps[0].Log },
		"one Dep more": func(j *impl.Job) { j.Deps = append(j.Deps, impl.Made{Task: "f#t"}) }, "an empty Dep more": func(j *impl.Job) { j.Deps = append(j.Deps, impl.Made{}) }, "one Dep fewer": func(j *impl.Job) { j.Deps = j.Deps[:1] }, "the first Dep is gone": func(j *impl.Job) { j.Deps = j.Deps[1:] }, "no Deps": func(j *impl.Job) { j.Deps = nil },
		"Deps in reverse": func(j *impl.Job) { slices.Reverse(j.Deps) },
		"an out's Path":   func(j *impl.Job) { j.Deps[0].Outs[0].Path = "oo" }, "the last out's Path": func(j *impl.Job) { j.Deps[1].Outs[0].Path = "" }, "an out's Text": func(j *impl.Job) { j.Deps[0].Outs[1].Text = "" }, "the last out's Text": func(j *impl.Job) { j.Deps[1].Outs[0].Text = "ww" },
		"one out more": func(j *impl.Job) { j.Deps[1].Outs = append(j.Deps[1].Outs, impl.File{Path: "r"}) }, "an empty out more": func(j *impl.Job) { j.Deps[0].Outs = append(j.Deps[0].Outs, impl.File{}) }, "one out fewer": func(j *impl.Job) { j.Deps[0].Outs = j.Deps[0].Outs[:1] }, "no outs": func(j *impl.Job) { j.Deps[1].Outs = nil },
		"outs in reverse": func(j *impl.Job) { slices.Reverse(j.Deps[0].Outs) }, "Path of an out for Text": func(j *impl.Job) { j.Deps[0].Outs[0] = impl.File{Path: "u", Text: "o"} }, "outs of Deps": func(j *impl.Job) { j.Deps[0].Outs, j.Deps[1].Outs = j.Deps[1].Outs, j.Deps[0].Outs },
		"an out of the other": func(j *impl.Job) { j.Deps[0].Outs, j.Deps[1].Outs = j.Deps[0].Outs[:1], filesOf("p=v q=w") },
		"nothing is left":     func(j *impl.Job) { *j = impl.Job{} }, "the Name alone": func(j *impl.Job) { *j = impl.Job{Name: j.Name} },
	}
}

// TestJobsThatDifferInOnePart: each from the full one, and from each other one, in its key, too.
func TestJobsThatDifferInOnePart(t *testing.T) {
	oneKey(t, fullJob(), fullJob(), true)
	oneKey(t, fullJob(), cloneJob(fullJob()), true)
	for told, turn := range turnedJobs() {
		j := fullJob()
		turn(&j)
		if jobsAlike(j, fullJob()) {
			t.Errorf("with %s nothing turns", told)
		}
		keyAsOthers(t, j)
		oneKey(t, j, fullJob(), false)
		oneKey(t, j, cloneJob(j), true)
		for other, turn := range turnedJobs() {
			x := fullJob()
			turn(&x)
			oneKey(t, j, x, told == other)
		}
	}
}

// turnedTwice is false where the next turn needs what the first one takes away.
func turnedTwice(first, next func(*impl.Job)) (j impl.Job, ok bool) {
	defer func() { ok = recover() == nil }()
	j = fullJob()
	first(&j)
	next(&j)
	return j, true
}

// TestJobsThatDifferInTwoParts: what one part has more the other one does not make good, unless nothing differs any more.
func TestJobsThatDifferInTwoParts(t *testing.T) {
	back, many := 0, 0
	for _, first := range turnedJobs() {
		for _, next := range turnedJobs() {
			if j, ok := turnedTwice(first, next); ok {
				same := jobsAlike(j, fullJob())
				oneKey(t, j, fullJob(), same)
				oneKey(t, j, cloneJob(j), true)
				many++
				if same {
					back++
				}
			}
		}
	}
	if many < 4000 || back < 5 {
		t.Errorf("of %d jobs turned twice %d are as they were", many, back)
	}
}

// TestTextsThatLookLikeParts: what a text says does not count for what stands behind it.
func TestTextsThatLookLikeParts(t *testing.T) {
	jobs := []impl.Job{
		{}, {Name: "0"}, {Name: "\x00\x010"}, {Name: "\x00\x010\x00\x010"}, {Name: "1", Acts: []string{"0"}}, {Acts: []string{"0"}}, {Acts: []string{"0", "0"}}, {Acts: []string{"1", "0"}}, {Acts: []string{""}}, {Acts: []string{"", ""}},
		{Acts: []string{"\x00\x010"}}, {Acts: []string{"x\x00\x010"}}, {Acts: []string{"x", "0"}}, {Acts: []string{"x", "1"}}, {Acts: []string{"x"}, Ins: filesOf("p=t")}, {Acts: []string{"x", "1", "p", "t"}}, {Acts: []string{"x\x00\x011\x00\x01p\x00\x01t"}},
		{Ins: filesOf("p=t")}, {Envs: envsOf("p=t")}, {Deps: []impl.Made{{Task: "p", Log: "t"}}}, {Deps: []impl.Made{{Outs: filesOf("p=t")}}}, {Acts: []string{"p", "t"}}, {Ins: []impl.File{{Path: "p"}, {Path: "t"}}}, {Ins: []impl.File{{Path: "pt"}}}, {Ins: []impl.File{{Text: "pt"}}},
		{Ins: filesOf("p=t p=t")}, {Ins: filesOf("p=t"), Envs: envsOf("p=t")}, {Envs: envsOf("p=t p=t")}, {Ins: filesOf("p=0 0=0")}, {Ins: filesOf("p=0"), Envs: envsOf("0=0")}, {Envs: envsOf("p=0 0=0")}, {Ins: filesOf("0=0")}, {Envs: envsOf("0=0")},
		{Deps: []impl.Made{{Task: "d", Log: "0"}}}, {Deps: []impl.Made{{Task: "d"}, {}}}, {Deps: []impl.Made{{Task: "d", Outs: []impl.File{{}}}}}, {Deps: []impl.Made{{Task: "d", Outs: filesOf("e= 0=")}}}, {Deps: []impl.Made{{Task: "d", Outs: []impl.File{{Path: "e"}}}, {}}}, {Deps: []impl.Made{{Task: "d"}, {Task: "e"}}}, {Deps: []impl.Made{{Task: "e"}, {Task: "d"}}},
		{Deps: []impl.Made{{Task: "d", Outs: filesOf("e=0")}}}, {Deps: []impl.Made{{Task: "d"}, {Task: "e", Log: "0"}}}, {Deps: []impl.Made{{Task: "d", Outs: filesOf("p=t")}, {Task: "e"}}}, {Deps: []impl.Made{{Task: "d"}, {Task: "e", Outs: filesOf("p=t")}}},
	}
	for i, a := range jobs {
		keyAsOthers(t, a)
		for k, b := range jobs {
			oneKey(t, a, b, i == k)
		}
	}
}

// TestTextsThatEndWhereOthersBegin: all ways to cut one text into the parts of a job.
func TestTextsThatEndWhereOthersBegin(t *testing.T) {
	const all = "001x"
	var jobs []impl.Job
	for i := range len(all) + 1 {
		for k := i; k <= len(all); k++ {
			a, b, c := all[:i], all[i:k], all[k:]
			jobs = append(jobs,
				impl.Job{Name: a, Acts: []string{b, c}}, impl.Job{Acts: []string{a, b, c}}, impl.Job{Name: a, Ins: []impl.File{{Path: b, Text: c}}}, impl.Job{Name: a, Envs: []impl.Env{{Name: b, Val: c}}},
				impl.Job{Acts: []string{a}, Ins: []impl.File{{Path: b, Text: c}}}, impl.Job{Acts: []string{a}, Envs: []impl.Env{{Name: b, Val: c}}},
				impl.Job{Name: a, Deps: []impl.Made{{Task: b, Log: c}}}, impl.Job{Deps: []impl.Made{{Task: a, Log: b}, {Task: c}}}, impl.Job{Deps: []impl.Made{{Task: a, Outs: []impl.File{{Path: b, Text: c}}}}}, impl.Job{Deps: []impl.Made{{Log: a, Outs: []impl.File{{Path: b, Text: c}}}}})
		}
	}
	for _, a := range jobs {
		keyAsOthers(t, a)
		for _, b := range jobs {
			oneKey(t, a, b, jobsAlike(a, b))
		}
	}
}

// fewJob has few texts, so that two of them are often alike.
func fewJob(r *rand.Rand) impl.Job {
	text := func() string { return []string{"", "0", "1", "x"}[r.Intn(4)] }
	files := func() []impl.File {
		var out []impl.File
		for range r.Intn(3) {
			out = append(out, impl.File{Path: text(), Text: text()})
		}
		return out
	}
	j := impl.Job{Name: text(), Ins: files()}
	for range r.Intn(3) {
		j.Acts = append(j.Acts, text())
	}
	for _, f := range files() {
		j.Envs = append(j.Envs, impl.Env{Name: f.Path, Val: f.Text})
	}
	for range r.Intn(3) {
		j.Deps = append(j.Deps, impl.Made{Task: text(), Outs: files(), Log: text()})
	}
	return j
}

// anyTurn turns, or leaves, one text or list of j.
func anyTurn(r *rand.Rand, j *impl.Job) {
	other := fewJob(r)
	switch r.Intn(6) {
	case 0:
		j.Name = other.Name
	case 1:
		j.Acts = other.Acts
	case 2:
		j.Ins = other.Ins
	case 3:
		j.Envs = other.Envs
	case 4:
		j.Deps = other.Deps
	}
}

// TestManyOfOneKey: of any two jobs, near to each other or not, one key if just they are the same.
func TestManyOfOneKey(t *testing.T) {
	r := rand.New(rand.NewSource(1603))
	told := map[string]int{}
	for range 60000 {
		a := fewJob(r)
		b := cloneJob(a)
		for range r.Intn(3) {
			anyTurn(r, &b)
		}
		if r.Intn(6) == 0 {
			b = fewJob(r)
		}
		same := jobsAlike(a, b)
		oneKey(t, a, b, same)
		if t.Failed() {
			t.FailNow()
		}
		told[yesOrNo(same)[0]]++
	}
	if told["yes"] < 10000 || told["no"] < 10000 {
		t.Errorf("so many were the same, and so many not: %v", told)
	}
}

// TestAllSmallJobs: all jobs of at most one of each, of two texts: as many keys as jobs.
func TestAllSmallJobs(t *testing.T) {
	texts := []string{"", "0"}
	lists := [][]impl.File{nil}
	acts := [][]string{nil, {"", ""}, {"0", "1"}}
	for _, a := range texts {
		acts = append(acts, []string{a})
		for _, b := range texts {
			lists = append(lists, []impl.File{{Path: a, Text: b}})
		}
	}
	mades := [][]impl.Made{nil}
	for _, task := range texts {
		for _, log := range texts {
			for _, outs := range lists {
				mades = append(mades, []impl.Made{{Task: task, Log: log, Outs: outs}})
			}
		}
	}
	keys := map[string]impl.Job{}
	many := 0
	for _, name := range texts {
		for _, act := range acts {
			for _, ins := range lists {
				for _, envs := range lists {
					for _, deps := range mades {
						j := impl.Job{Name: name, Acts: act, Ins: ins, Deps: deps}
						for _, e := range envs {
							j.Envs = append(j.Envs, impl.Env{Name: e.Path, Val: e.Text})
						}
						key := string(impl.KeyOf(j))
						if other, ok := keys[key]; ok || key != othersKey(j) || !impl.SameJob(j, cloneJob(j)) {
							t.Fatalf("the key of %v is %q, as of %v", j, key, other)
						}
						keys[key] = j
						many++
					}
				}
			}
		}
	}
	if len(keys) != many || many < 5000 {
		t.Errorf("of %d jobs there are %d keys", many, len(keys))
	}
}
