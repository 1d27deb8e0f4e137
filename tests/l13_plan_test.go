package tests

import (
	"fmt"
	"maps"
	"math/rand"
	"slices"
	"strings"
	"testing"

	"loop.example/g00464/impl"
)

const mostTasks = 16

// planTold makes a plan of texts as `b#t=a#t,b#u`: a task, and its Deps.
func planTold(told string) impl.Plan { return planOfPacks(packsOf(told)) }

// planOfPacks takes Names for Tasks, and Uses for Deps.
func planOfPacks(l []impl.Pack) impl.Plan {
	var p impl.Plan
	for _, pack := range l {
		p.Tasks, p.Deps = append(p.Tasks, pack.Name), append(p.Deps, pack.Uses)
	}
	return p
}

// asPacks takes Tasks for Names, and Deps for Uses; those that are missing are empty.
func asPacks(p impl.Plan) []impl.Pack {
	var out []impl.Pack
	for i, task := range p.Tasks {
		pack := impl.Pack{Name: task}
		if i < len(p.Deps) {
			pack.Uses = p.Deps[i]
		}
		out = append(out, pack)
	}
	return out
}

func plansAlike(a, b impl.Plan) bool {
	return slices.Equal(a.Tasks, b.Tasks) && slices.EqualFunc(a.Deps, b.Deps, slices.Equal[[]string])
}

// isThere asks whether this is the text of a task of one of the packs.
func isThere(l []impl.Pack, s string) bool {
	for _, p := range l {
		for _, c := range p.Cmds {
			if s == p.Name+"#"+c.Task {
				return true
			}
		}
	}
	return false
}

// othersPlan adds to what is wanted and there what is waited for, until nothing more comes.
func othersPlan(l []impl.Pack, rules []impl.Rule, want []string) (impl.Plan, bool) {
	if !othersPacksOk(l) || !othersRulesOk(rules) {
		return impl.Plan{}, false
	}
	deps := map[string][]string{}
	for _, s := range want {
		if isThere(l, s) {
			deps[s] = nil
		}
	}
	for before := -1; before < len(deps); {
		before = len(deps)
		for _, s := range slices.Sorted(maps.Keys(deps)) {
			pack, task, _ := strings.Cut(s, "#")
			deps[s] = othersWaits(l, rules, pack, task)
			for _, dep := range deps[s] {
				deps[dep] = deps[dep]
			}
		}
	}
	var p impl.Plan
	for _, s := range slices.Sorted(maps.Keys(deps)) {
		p.Tasks, p.Deps = append(p.Tasks, s), append(p.Deps, deps[s])
	}
	if len(p.Tasks) > mostTasks {
		return impl.Plan{}, false
	}
	return p, true
}

// reachedBy are those of tasks, and all that they lead to by the Deps of p.
func reachedBy(p impl.Plan, tasks []string) []string {
	m := map[string]bool{}
	var to func(task string)
	to = func(task string) {
		if !m[task] {
			m[task] = true
			for _, dep := range impl.DepsOf(p, task) {
				to(dep)
			}
		}
	}
	for _, task := range tasks {
		to(task)
	}
	return slices.Sorted(maps.Keys(m))
}

// planPromised wants what is wanted and there, all that it waits for, and no more, whatever the test's own plan.
func planPromised(t *testing.T, l []impl.Pack, rules []impl.Rule, want []string, p impl.Plan) {
	t.Helper()
	if !impl.PlanOk(p) || !othersPlanOk(p) {
		t.Fatalf("of %v by %v %q is planned wrongly: %q", l, rules, want, p)
	}
	for i, s := range p.Tasks {
		pack, task, ok := impl.ParseTask(s)
		if !ok || !isThere(l, s) {
			t.Errorf("%q is planned, but is not there", s)
		}
		if waits := impl.WaitsFor(l, rules, pack, task); !slices.Equal(p.Deps[i], waits) || !slices.Equal(impl.DepsOf(p, s), waits) {
			t.Errorf("%q waits for %q, but is planned with %q", s, waits, p.Deps[i])
		}
	}
	var there []string
	for _, s := range want {
		if isThere(l, s) {
			there = append(there, s)
		}
	}
	if reached := reachedBy(p, there); !slices.Equal(reached, p.Tasks) {
		t.Errorf("of %v by %v %q leads to %q, but %q is planned", l, rules, want, reached, p.Tasks)
	}
}

// plannedAsOthers holds a plan against the test's own, and against the promise.
func plannedAsOthers(t *testing.T, l []impl.Pack, rules []impl.Rule, want []string) (impl.Plan, bool) {
	t.Helper()
	p, ok := othersPlan(l, rules, want)
	got, is := impl.PlanOf(l, rules, want)
	if is != ok || !plansAlike(got, p) {
		t.Fatalf("of %v by %v %q is planned as %q, %v, not as %q, %v", l, rules, want, got, is, p, ok)
	}
	if ok {
		planPromised(t, l, rules, want, got)
	}
	return got, ok
}

// planIs asks for PlanOf of what is told with blanks between; the plan is told as of planTold.
func planIs(t *testing.T, work, rules, want, plan string) {
	t.Helper()
	got, ok := plannedAsOthers(t, workOf(work), ruledOn(rules), strings.Fields(want))
	if !ok || !plansAlike(got, planTold(plan)) {
		t.Errorf("in %q by %q %q is planned as %q, %v, not as %q", work, rules, want, got, ok, plan)
	}
}

func noPlan(t *testing.T, l []impl.Pack, rules []impl.Rule, want []string) {
	t.Helper()
	if got, ok := plannedAsOthers(t, l, rules, want); ok || len(got.Tasks)+len(got.Deps) > 0 {
		t.Errorf("of %v by %v %q is planned as %q, %v", l, rules, want, got, ok)
	}
}

const someWork = "a:build,test b=a:build,gen,test c=a,b:build,test d:build,gen"

const someRules = "build=^build,gen test=build,^test,d#gen"

func TestPlanOfNothing(t *testing.T) {
	planIs(t, "", "", "", "")
	planIs(t, someWork, someRules, "", "")
	planIs(t, someWork, "", "", "")
	for _, want := range [][]string{nil, {}} {
		if p, ok := impl.PlanOf([]impl.Pack{}, []impl.Rule{}, want); !ok || !plansAlike(p, impl.Plan{}) || !impl.PlanOk(p) {
			t.Errorf("of nothing the plan is %q, %v", p, ok)
		}
	}
}

func TestPlanOfOne(t *testing.T) {
	planIs(t, "a:build", "", "a#build", "a#build")
	planIs(t, "a:build", "build=build,^build", "a#build", "a#build")
	planIs(t, someWork, someRules, "a#build", "a#build")
	planIs(t, someWork, someRules, "d#gen", "d#gen")
	planIs(t, someWork, someRules, "d#build", "d#build=d#gen d#gen")
	planIs(t, someWork, someRules, "a#test", "a#build a#test=a#build,d#gen d#gen")
	planIs(t, someWork, someRules, "c#build", "a#build b#build=a#build,b#gen b#gen c#build=a#build,b#build")
	planIs(t, someWork, someRules, "c#test", "a#build a#test=a#build,d#gen b#build=a#build,b#gen b#gen b#test=a#test,b#build,d#gen c#build=a#build,b#build c#test=a#test,b#test,c#build,d#gen d#gen")
	// Without a rule it waits for nothing.
	planIs(t, someWork, "test=build", "c#build", "c#build")
	planIs(t, someWork, "", "c#test", "c#test")
}

func TestPlanOfSeveral(t *testing.T) {
	planIs(t, someWork, "", "c#test a#build", "a#build c#test")
	planIs(t, someWork, someRules, "d#gen a#build", "a#build d#gen")
	planIs(t, someWork, someRules, "b#build d#build", "a#build b#build=a#build,b#gen b#gen d#build=d#gen d#gen")
	// One is waited for by another one that is wanted, too.
	planIs(t, someWork, someRules, "d#build d#gen", "d#build=d#gen d#gen")
	planIs(t, someWork, someRules, "d#gen d#build", "d#build=d#gen d#gen")
	// Both wait for one.
	planIs(t, "a:x b=a:x c=a:x d:x", "x=^x", "c#x b#x", "a#x b#x=a#x c#x=a#x")
	eachOrder([]string{"d#build", "a#build", "b#gen", "c#test"}, func(want []string) {
		planIs(t, someWork, "build=gen", strings.Join(want, " "), "a#build b#gen c#test d#build=d#gen d#gen")
	})
}

func TestPlanOfOneTwice(t *testing.T) {
	planIs(t, "a:build", "", "a#build a#build", "a#build")
	planIs(t, someWork, someRules, "d#build d#build d#gen d#build", "d#build=d#gen d#gen")
	planIs(t, someWork, "", "b#gen a#test b#gen a#test", "a#test b#gen")
	p, ok := impl.PlanOf(workOf(someWork), ruledOn(someRules), slices.Repeat([]string{"d#gen", "q#gen"}, 100000))
	if !ok || !plansAlike(p, planTold("d#gen")) {
		t.Errorf("of one that is wanted often the plan is %q, %v", p, ok)
	}
}

func TestPlanOfWhatIsNotThere(t *testing.T) {
	for _, none := range []string{"q#build", "a#gen", "c#q", "d#test", "b#a", "build#b"} {
		planIs(t, someWork, someRules, none, "")
		planIs(t, someWork, someRules, none+" d#build "+none, "d#build=d#gen d#gen")
		planIs(t, someWork, someRules, "d#gen "+none, "d#gen")
	}
	planIs(t, "", someRules, "a#build", "")
	planIs(t, "a b c", someRules, "a#build b#test", "")
	// What it waits for is not there, either.
	planIs(t, "a=b:build b", "build=^build,gen,q#build,b#build", "a#build", "a#build")
	// What is not there is not planned, though its rule would lead to others.
	planIs(t, "a=b b:build", "build=^build,b#build", "a#build", "")
}

// TestPlanOfWhatIsNoTask: texts of any other form are wanted in vain.
func TestPlanOfWhatIsNoTask(t *testing.T) {
	l, rules := workOf(someWork), ruledOn(someRules)
	for _, none := range []string{"", "#", "a", "build", "a#", "#build", "^build", "^a#build", "a##build", "a#build#", "#a#build", "a#build#x", "a#build a#test", "a#build ", " a#build", "a#build\n", "A#build", "a#BUILD", "a#*", "*#build", "a/build", "a:build", "a#build\x00", "\xff", strings.Repeat("a", 1000000), "a#" + strings.Repeat("b", 1000000)} {
		for _, want := range [][]string{{none}, {none, none}} {
			if p, ok := plannedAsOthers(t, l, rules, want); !ok || !plansAlike(p, impl.Plan{}) {
				t.Errorf("of %.40q the plan is %q, %v", want, p, ok)
			}
		}
		for _, want := range [][]string{{none, "d#build"}, {"d#build", none}, {none, "d#build", none, "d#gen"}} {
			if p, ok := plannedAsOthers(t, l, rules, want); !ok || !plansAlike(p, planTold("d#build=d#gen d#gen")) {
				t.Errorf("of %.40q the plan is %q, %v", want, p, ok)
			}
		}
	}
}

func TestPlanOfChains(t *testing.T) {
	planIs(t, "a:x b=a:x", "x=^x", "b#x", "a#x b#x=a#x")
	planIs(t, "a:x b=a:x c=b:x", "x=^x", "c#x", "a#x b#x=a#x c#x=b#x")
	planIs(t, "a:x b=a:x c=b:x d=c:x e=d:x f=e:x", "x=^x", "f#x", "a#x b#x=a#x c#x=b#x d#x=c#x e#x=d#x f#x=e#x")
	planIs(t, "a=b:x b=c:x c=d:x d=e:x e=f:x f:x", "x=^x", "a#x", "a#x=b#x b#x=c#x c#x=d#x d#x=e#x e#x=f#x f#x")
	planIs(t, "a:w,x,y,z", "w x=w y=x z=y", "a#z", "a#w a#x=a#w a#y=a#x a#z=a#y")
	planIs(t, "a:w,x,y,z", "w=x x=y y=z", "a#w", "a#w=a#x a#x=a#y a#y=a#z a#z")
	// From a pack to the next by one task, from there by another one.
	planIs(t, "a=b:x b=c:y c=d:x d:y", "x=^y y=^x", "a#x", "a#x=b#y b#y=c#x c#x=d#y d#y")
	planIs(t, "a:x b:y c:z", "x=b#y y=c#z", "a#x", "a#x=b#y b#y=c#z c#z")
	// It breaks where one has not the task.
	planIs(t, "a=b:x b=c c:x", "x=^x", "a#x", "a#x")
	planIs(t, "a=b:x b=c:x c=d d:x", "x=^x", "a#x", "a#x=b#x b#x")
	// Only from what is wanted on.
	planIs(t, "a:x b=a:x c=b:x d=c:x", "x=^x", "b#x", "a#x b#x=a#x")
}

// TestPlanOfThoseThatWaitForEachOther: a ring is planned as it stands.
func TestPlanOfThoseThatWaitForEachOther(t *testing.T) {
	planIs(t, "a=b:x b=a:x", "x=^x", "a#x", "a#x=b#x b#x=a#x")
	planIs(t, "a=b:x b=a:x", "x=^x", "b#x", "a#x=b#x b#x=a#x")
	planIs(t, "a:x,y", "x=y y=x", "a#y", "a#x=a#y a#y=a#x")
	planIs(t, "a=b:x b=c:x c=a:x", "x=^x", "b#x", "a#x=b#x b#x=c#x c#x=a#x")
	planIs(t, "a=b:x b=c:x c=b:x", "x=^x", "a#x", "a#x=b#x b#x=c#x c#x=b#x")
	planIs(t, "a=b:x b=c:x c=b:x", "x=^x", "c#x", "b#x=c#x c#x=b#x")
	planIs(t, "a=b,c:x b=a,c:x c=a,b:x", "x=^x", "c#x", "a#x=b#x,c#x b#x=a#x,c#x c#x=a#x,b#x")
	// Who waits for itself alone does not.
	planIs(t, "a:x", "x=x,a#x", "a#x", "a#x")
}

// TestPlanOfWrongPacks: nothing is planned, though nothing be wanted.
func TestPlanOfWrongPacks(t *testing.T) {
	long := workOf("a:build")
	long[0].Cmds[0].Acts = slices.Repeat([]string{"x"}, 6)
	wrong := [][]impl.Pack{{{}}, long, {withUses("main")}}
	for _, told := range []string{"b:build a:build", "a:build a:build", "a=a:build", "a=q:build", "a:build b=c:build", "A:build", "a:Build", "a:build,build", "a:test,build", "a:t,u,v,w,x", "a:build b:x c:x d:x e:x f:x g:x", "a=c,b:build b c", "a=b,c,d,e,f:build b c d e f"} {
		wrong = append(wrong, workOf(told))
	}
	for _, l := range wrong {
		for _, want := range [][]string{nil, {"a#build"}, {"q"}} {
			noPlan(t, l, nil, want)
			noPlan(t, l, ruledOn(someRules), want)
		}
	}
	if p, ok := impl.PlanOf(slices.Repeat(workOf("a:build"), 100000), nil, []string{"a#build"}); ok || !plansAlike(p, impl.Plan{}) {
		t.Errorf("of many packs of one name the plan is %q, %v", p, ok)
	}
}

// TestPlanByWrongRules: likewise, though they be the rules of other tasks.
func TestPlanByWrongRules(t *testing.T) {
	full := withTask("A")
	for _, rules := range [][]impl.Rule{
		{{}}, {full}, {withOn("")}, {withOn("^")}, {withOn("a", "b", "c", "d", "e")}, {withIns("[")}, {withIns("a", "b", "c", "d", "e")}, {withEnvs("A")}, {withEnvs("a", "b", "c", "d")},
		ruledOn("b a"), ruledOn("a a"), ruledOn("a b c d e f"), ruledOn("build=build#"), ruledOn("build=^^build"), ruledOn("test=^a#b"), ruledOn("build test=A"),
	} {
		for _, want := range [][]string{nil, {"a#build"}, {"q"}} {
			noPlan(t, workOf(someWork), rules, want)
			noPlan(t, nil, rules, want)
		}
	}
	if p, ok := impl.PlanOf(workOf("a:build"), slices.Repeat(ruledOn("a"), 100000), []string{"a#build"}); ok || !plansAlike(p, impl.Plan{}) {
		t.Errorf("by many rules of one task the plan is %q, %v", p, ok)
	}
}

// fullWork has 24 tasks: 6 packs that use nothing, of 4 tasks each.
func fullWork() []impl.Pack {
	return workOf("a:t,u,v,w b:t,u,v,w c:t,u,v,w d:t,u,v,w e:t,u,v,w f:t,u,v,w")
}

func allTasks(l []impl.Pack) []string {
	var out []string
	for _, p := range l {
		for _, c := range p.Cmds {
			out = append(out, p.Name+"#"+c.Task)
		}
	}
	return out
}

// TestPlanOfSoManyWanted: 16 that are there are planned, 17 are not; those that are not there, or are told anew, do not count.
func TestPlanOfSoManyWanted(t *testing.T) {
	all := allTasks(fullWork())
	for n := range len(all) + 1 {
		for _, want := range [][]string{all[:n], all[len(all)-n:], slices.Repeat(all[:n], 3), append(slices.Clone(all[:n]), "q#t", "a#q", "a", "", "g#t", "a#x")} {
			if p, ok := plannedAsOthers(t, fullWork(), nil, want); ok != (n <= 16) || ok && len(p.Tasks) != n {
				t.Errorf("of %d that are wanted %d are planned, %v", n, len(p.Tasks), ok)
			}
		}
	}
	noPlan(t, fullWork(), nil, all[:17])
	noPlan(t, fullWork(), ruledOn("t=u,v,w"), all)
}

// TestPlanOfSoManyWaitedFor: one is wanted, and just 16 come together, or 17.
func TestPlanOfSoManyWaitedFor(t *testing.T) {
	for _, z := range []struct {
		work, rules, want string
		many              int
	}{
		{"a=b,c,d:t,u,v,w b:t,u,v,w c:t,u,v,w d:t,u,v,w", "t=u,v,w,^t", "a#t", 16},
		{"a=b,c,d:t,u,v,w b:t,u,v,w c:t,u,v,w d=e:t,u,v,w e:t", "t=u,v,w,^t", "a#t", 17},
		{"a=b,c,d:t,u,v,w b:t,u,v,w c:t,u,v,w d=e:t,u,v,w e:u", "t=u,v,w,^t", "a#t", 16},
		{"a=b,c,d,e:t,u,v,w b:t,u,v,w c:t,u,v,w d:t,u,v,w e:t,u,v,w", "t=u,v,w,^t", "a#t", 20},
		{"a=b:t,u,v,w b=c:t,u,v,w c=d:t,u,v,w d=e:t,u,v,w e=f:t,u,v,w f:t,u,v,w", "t=^w u=t v=u w=v", "a#w", 24},
		{"a=b:t,u,v,w b=c:t,u,v,w c=d:t,u,v,w d:t,u,v,w", "t=^w u=t v=u w=v", "a#w", 16},
		{"a=b:t,u,v,w b=c:t,u,v,w c=d:t,u,v,w d=e:t,u,v,w e:w", "t=^w u=t v=u w=v", "a#w", 17},
		{"a=b:t,u,v,w b=c:t,u,v,w c=d:t,u,v,w d=a:t,u,v,w", "t=^w u=t v=u w=v", "c#u", 16},
		{"a=b:t,u,v,w b=c:t,u,v,w c=d:t,u,v,w d=e:t,u,v,w e=a:w", "t=^w u=t v=u w=v,^w", "c#u", 17},
		// The last that comes is one that nothing leads on from.
		{"a=b,c,d:t,u,v,w b:t,u,v,w c:t,u,v,w d:t,u,v,w e:x", "t=u,v,w,^t u=e#x", "a#t", 17},
		{"a=b,c,d:t,u,v,w b:t,u,v,w c:t,u,v,w d:t,u,v e:x", "t=u,v,w,^t u=e#x", "a#t", 16},
	} {
		want := []string{z.want}
		if p, ok := plannedAsOthers(t, workOf(z.work), ruledOn(z.rules), want); ok != (z.many <= 16) || ok && len(p.Tasks) != z.many {
			t.Errorf("in %q by %q %d are planned, %v", z.work, z.rules, len(p.Tasks), ok)
		}
	}
	// Many that are wanted, and one that some of them wait for besides.
	for n := 1; n <= 17; n++ {
		l := workOf("a:t,u,v,w b:t,u,v,w c:t,u,v,w d:t,u,v,w e:t f:x")
		p, ok := plannedAsOthers(t, l, ruledOn("t=f#x"), allTasks(l)[:n])
		if many := n + 1; ok != (many <= 16) || ok && len(p.Tasks) != many {
			t.Errorf("of %d that are wanted %d are planned, %v", n, len(p.Tasks), ok)
		}
	}
}

// TestPlansOfAllThatIsWanted: whatever is wanted of few tasks, alone and together.
func TestPlansOfAllThatIsWanted(t *testing.T) {
	for _, rules := range []string{"", someRules, "build=^build", "build=^test test=^build", "build=gen gen=build test=c#test", "gen=^gen,test test=^test,b#gen"} {
		all := allTasks(workOf(someWork))
		for bits := range 1 << len(all) {
			var want []string
			for i, s := range all {
				if bits>>i&1 == 1 {
					want = append(want, s)
				}
			}
			plannedAsOthers(t, workOf(someWork), ruledOn(rules), want)
		}
	}
}

// TestPlansOfAllOfFew: two packs, their Uses and tasks, and On of each form.
func TestPlansOfAllOfFew(t *testing.T) {
	some := func(of string, bits int) string {
		var out []string
		for i, s := range strings.Fields(of) {
			if bits>>i&1 == 1 {
				out = append(out, s)
			}
		}
		return strings.Join(out, ",")
	}
	for uses := range 4 {
		for tasks := range 16 {
			l := workOf(fmt.Sprintf("a=%s:%s b=%s:%s", some("b", uses&1), some("x y", tasks&3), some("a", uses>>1), some("x y", tasks>>2)))
			for ons := range 256 {
				rules := ruledOn(fmt.Sprintf("x=%s y=%s", some("^x y ^y b#x", ons&15), some("x ^x a#y ^y", ons>>4)))
				for _, want := range [][]string{{"a#x"}, {"b#y"}, {"b#x", "a#y"}} {
					plannedAsOthers(t, l, rules, want)
				}
			}
		}
	}
}

func TestManyPlans(t *testing.T) {
	r := rand.New(rand.NewSource(1302))
	long, rings, refused := map[int]int{}, 0, 0
	const tries = 8000
	for range tries {
		l, rules := anyWork(r), anyRulesOn(r)
		all := append(allTasks(l), "q#t", "a#q", "t", "")
		var want []string
		for range r.Intn(10) {
			want = append(want, all[r.Intn(len(all))])
		}
		p, ok := plannedAsOthers(t, l, rules, want)
		if !ok {
			refused++
			continue
		}
		long[len(p.Tasks)]++
		ring := impl.TaskRing(p)
		if len(ring) > 0 {
			rings++
		}
		if _, is := impl.TaskOrder(p); is != (len(ring) == 0) {
			t.Errorf("of %q there is an order: %v, the ring is %q", p, is, ring)
		}
		if t.Failed() {
			t.FailNow()
		}
	}
	if refused < 100 || rings < tries/20 || rings > tries*9/10 {
		t.Errorf("%d were refused, of %d others %d had a ring", refused, tries-refused, rings)
	}
	for n := range 11 {
		if long[n] < 40 {
			t.Errorf("plans by how many tasks there are: %v", long)
		}
	}
}
