package tests

import (
	"slices"
	"testing"

	"loop.example/g00464/impl"
)

// A taskCall is a function of the layer, and what it answers of a work as lists of texts.
type taskCall struct {
	told string
	ask  func(w work) [][]string
}

// A work is what tasks are asked of; p is a plan that need not be of it.
type work struct {
	l          []impl.Pack
	rules      []impl.Rule
	want       []string
	p          impl.Plan
	pack, task string
}

func yesOrNo(ok bool) []string {
	if ok {
		return []string{"yes"}
	}
	return []string{"no"}
}

// listsOfPlan has Tasks, and each of Deps, but not the list that holds these.
func listsOfPlan(p impl.Plan) [][]string { return append([][]string{p.Tasks}, p.Deps...) }

func taskCalls() []taskCall {
	return []taskCall{
		{"TaskName", func(w work) [][]string { return [][]string{{impl.TaskName(w.pack, w.task)}} }},
		{"ParseTask", func(w work) [][]string {
			pack, task, ok := impl.ParseTask(w.pack)
			return [][]string{{pack, task}, yesOrNo(ok)}
		}},
		{"WaitsFor", func(w work) [][]string { return [][]string{impl.WaitsFor(w.l, w.rules, w.pack, w.task)} }},
		{"PlanOf", func(w work) [][]string {
			p, ok := impl.PlanOf(w.l, w.rules, w.want)
			return append(listsOfPlan(p), yesOrNo(ok))
		}},
		{"PlanOk", func(w work) [][]string { return [][]string{yesOrNo(impl.PlanOk(w.p))} }},
		{"DepsOf", func(w work) [][]string { return [][]string{impl.DepsOf(w.p, w.pack)} }},
		{"TaskRing", func(w work) [][]string { return [][]string{impl.TaskRing(w.p)} }},
		{"TaskOrder", func(w work) [][]string {
			order, ok := impl.TaskOrder(w.p)
			return [][]string{order, yesOrNo(ok)}
		}},
	}
}

// worksToShare are right ones and wrong ones; what lies in the room behind their lists would be found by each that reads it.
func worksToShare() []work {
	var out []work
	const spares = "a=b,spare:build,spare,test b=a:build c=a,b:test spare:build,spare,test"
	for _, told := range []string{"", "a:build", "a=b:build,test b:build", "a=b:build b=a:build", spares, "a=b,c:build b=c:build,test c:build", "b:build a:build", "a=a:build", "a=q:build"} {
		for _, rules := range []string{"", "build=^build", "build=^build,spare,spare#build test=build,^test", "build=b#build,a#build spare=^spare,^build test=test,c#test", "test build"} {
			for _, plan := range []string{"", "a#build=b#build b#build", "a#build=b#build b#build=a#build", "a#build=spare b#build", "a#b b#b=a#b c#b=a#b,b#b", "b#build a#build a#build"} {
				for _, pack := range []string{"a", "b#build", "a#build", "spare"} {
					out = append(out, work{workOf(told), ruledOn(rules), []string{"c#test", "a#build", "q", "b#build", "a#build"}, planTold(plan), pack, "build"})
				}
			}
		}
	}
	for i := range out {
		if i%3 == 0 {
			out[i].want, out[i].task = []string{"a#test"}, "test"
		}
		if i%5 == 0 && len(out[i].p.Deps) > 0 {
			out[i].p.Deps = out[i].p.Deps[1:]
		}
	}
	return out
}

// cloneWork has w in memory of its own.
func cloneWork(w work) work {
	out := work{want: slices.Clone(w.want), p: clonePlan(w.p), pack: w.pack, task: w.task}
	for _, p := range w.l {
		out.l = append(out.l, clonePack(p))
	}
	for _, r := range w.rules {
		out.rules = append(out.rules, cloneRule(r))
	}
	return out
}

func clonePlan(p impl.Plan) impl.Plan {
	out := impl.Plan{Tasks: slices.Clone(p.Tasks)}
	for _, deps := range p.Deps {
		out.Deps = append(out.Deps, slices.Clone(deps))
	}
	return out
}

// planWithRoom has all of p, its spare room as if it were a part of it.
func planWithRoom(p impl.Plan) impl.Plan {
	out := impl.Plan{Tasks: slices.Clone(p.Tasks[:cap(p.Tasks)])}
	for _, deps := range p.Deps[:cap(p.Deps)] {
		out.Deps = append(out.Deps, slices.Clone(deps[:cap(deps)]))
	}
	return out
}

// looseWork has w over memory that can be turned, and spare room behind its lists, with what would be found there.
func looseWork(w work) (work, func()) {
	var turns []func()
	turned := func(turn func()) { turns = append(turns, turn) }
	var out work
	var turn func()
	all := slices.Repeat(workOf("spare:build,spare,test"), len(w.l)+3)
	for i, p := range w.l {
		all[i], turn = loosePack(p)
		turned(turn)
	}
	out.l = all[:len(w.l)]
	out.rules, turn = looseRules(w.rules)
	turned(turn)
	behind := slices.Repeat([]string{"c#test"}, len(w.want)+3)
	texts, turn := looseList(w.want)
	turned(turn)
	copy(behind, texts)
	out.want = behind[:len(texts)]
	out.p, turn = loosePlan(w.p)
	turned(turn)
	out.pack, turn = looseText(w.pack)
	turned(turn)
	out.task, turn = looseText(w.task)
	turned(turn)
	return out, func() {
		for _, turn := range turns {
			turn()
		}
		for i := range all {
			all[i] = withUses("scribble")
		}
		scribbleTexts(out.want)
	}
}

// loosePlan has behind its Deps such as wait for its own first task.
func loosePlan(p impl.Plan) (impl.Plan, func()) {
	tasks, turnTasks := looseTexts(p.Tasks)
	first := append([]string{"spare"}, p.Tasks[:min(1, len(p.Tasks))]...)
	deps := slices.Repeat([][]string{first}, len(p.Deps)+4)
	var turns []func()
	for i, l := range p.Deps {
		loose, turn := looseTexts(l)
		deps[i], turns = loose, append(turns, turn)
	}
	return impl.Plan{Tasks: tasks, Deps: deps[:len(p.Deps)]}, func() {
		turnTasks()
		for _, turn := range turns {
			turn()
		}
		for i := range deps {
			deps[i] = []string{"scribble"}
		}
	}
}

func worksAlike(a, b work) bool {
	return slices.EqualFunc(a.l, b.l, packsAlike) && slices.EqualFunc(a.rules, b.rules, rulesAlike) && slices.Equal(a.want, b.want) && plansAlike(a.p, b.p) && a.pack == b.pack && a.task == b.task
}

// workWithRoom has all of w, its spare room as if it were a part of it.
func workWithRoom(w work) work {
	return work{packsWithRoom(w.l), rulesWithRoom(w.rules), slices.Clone(w.want[:cap(w.want)]), planWithRoom(w.p), w.pack, w.task}
}

func answersAlike(a, b [][]string) bool { return slices.EqualFunc(a, b, slices.Equal[[]string]) }

func TestWorksAreLeftAlone(t *testing.T) {
	for _, c := range taskCalls() {
		for _, in := range worksToShare() {
			want := c.ask(cloneWork(in))
			w, _ := looseWork(in)
			before := workWithRoom(w)
			got := c.ask(w)
			if !answersAlike(got, want) {
				t.Errorf("%s of %v hangs on the room behind: %q, not %q", c.told, in, got, want)
			}
			for _, l := range got {
				scribbleTexts(l)
			}
			if !worksAlike(workWithRoom(w), before) || !worksAlike(w, in) {
				t.Errorf("%s writes into %v, or into the room behind", c.told, in)
			}
		}
	}
}

func TestAnswersOfWorksShareNothing(t *testing.T) {
	for _, c := range taskCalls() {
		for _, in := range worksToShare() {
			want := c.ask(cloneWork(in))
			w, turn := looseWork(in)
			got, again := c.ask(w), c.ask(w)
			turn()
			if !answersAlike(got, want) {
				t.Errorf("%s of %v shares its memory: %q, not %q", c.told, in, got, want)
			}
			for _, l := range got {
				scribbleTexts(l)
			}
			if !answersAlike(again, want) || !answersAlike(c.ask(in), want) {
				t.Errorf("two answers of %s of %v lie over each other", c.told, in)
			}
		}
	}
}

// TestListsOfOneAnswerOfWorksShareNothing writes into one list of an answer at a time, and into the room behind it.
func TestListsOfOneAnswerOfWorksShareNothing(t *testing.T) {
	for _, c := range taskCalls() {
		for _, in := range worksToShare() {
			want := c.ask(in)
			for i := range want {
				got := c.ask(in)
				scribbleTexts(got[i])
				got[i] = want[i]
				if !answersAlike(got, want) {
					t.Errorf("in what %s tells of %v list %d lies over others: %q", c.told, in, i, got)
				}
			}
		}
	}
}

// TestDepsOfOnePlanShareNothing: nor does the list that holds the Deps.
func TestDepsOfOnePlanShareNothing(t *testing.T) {
	for _, in := range worksToShare() {
		p, _ := impl.PlanOf(in.l, in.rules, in.want)
		again, _ := impl.PlanOf(in.l, in.rules, in.want)
		kept := clonePlan(p)
		room := p.Deps[:cap(p.Deps)]
		for i := range room {
			room[i] = []string{"scribble"}
		}
		if !slices.Equal(p.Tasks, kept.Tasks) || !plansAlike(again, kept) {
			t.Errorf("the Deps of %v lie over others: %q", in, p)
		}
	}
}

// TestPlansThatShareTheirDeps: lists of one argument may lie over each other, and are told apart by their length.
func TestPlansThatShareTheirDeps(t *testing.T) {
	tasks := []string{"a#b", "b#b", "c#b", "d#b"}
	p := impl.Plan{Tasks: tasks, Deps: [][]string{tasks[:0], tasks[:1], tasks[:2], tasks[1:3]}}
	planOrNot(t, p, true)
	taskRingOf(t, p, nil)
	taskOrderOf(t, p, tasks, true)
	depsAre(t, p, "d#b", "b#b", "c#b")
	deps := impl.DepsOf(p, "c#b")
	scribbleTexts(deps)
	order, _ := impl.TaskOrder(p)
	scribbleTexts(order)
	p.Deps[0] = tasks[2:3]
	taskRingOf(t, p, []string{"a#b", "c#b"})
	scribbleTexts(impl.TaskRing(p))
	if !slices.Equal(tasks, []string{"a#b", "b#b", "c#b", "d#b"}) {
		t.Errorf("the Tasks are written into: %q", tasks)
	}
	l := workOf("a=b,c,d:x b=c:x c:x d:x")
	l[1].Uses = l[0].Uses[1:2]
	got, ok := impl.PlanOf(l, ruledOn("x=^x"), []string{"a#x"})
	if !ok || !plansAlike(got, planTold("a#x=b#x,c#x,d#x b#x=c#x c#x d#x")) {
		t.Errorf("of packs that share their Uses the plan is %q, %v", got, ok)
	}
}
