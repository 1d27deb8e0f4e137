package tests

import (
	"fmt"
	"math/rand"
	"slices"
	"strings"
	"testing"

	"loop.example/g00464/impl"
)

// othersPlanOk asks by patterns, and of each two tasks how they stand to each other.
func othersPlanOk(p impl.Plan) bool {
	ok := len(p.Tasks) <= mostTasks && len(p.Deps) == len(p.Tasks) && strictly(p.Tasks)
	for _, task := range p.Tasks {
		ok = ok && taskShape.MatchString(task)
	}
	for _, deps := range p.Deps {
		ok = ok && strictly(deps)
		for _, dep := range deps {
			there := 0
			for _, task := range p.Tasks {
				if task == dep {
					there++
				}
			}
			ok = ok && there == 1
		}
	}
	return ok
}

func planOrNot(t *testing.T, p impl.Plan, right bool) {
	t.Helper()
	if impl.PlanOk(p) != right || othersPlanOk(p) != right {
		t.Errorf("of %q it is told: %v", p, !right)
	}
}

func TestPlanOk(t *testing.T) {
	planOrNot(t, impl.Plan{}, true)
	planOrNot(t, impl.Plan{Tasks: []string{}, Deps: [][]string{}}, true)
	for told, right := range map[string]bool{
		"":                            true,
		"a#b":                         true,
		"a#b b#b":                     true,
		"a#b a#c":                     true,
		"a#b b#b=a#b":                 true,
		"a#b=b#b b#b":                 true,
		"a#b=b#b b#b=a#b":             true, // they wait for each other
		"a#b=a#b":                     true, // and it for itself: no more is asked of Deps than that they ascend, and are there
		"a#b=a#b,b#b b#b=a#b,b#b":     true,
		"a#b=b#b,c#b b#b=c#b c#b":     true,
		"a#b a-#b a0#b aa#b":          true,
		"a#x a#x- a#x0 a#xx":          true,
		"abcdefghij#abcdefghij":       true,
		"b#b a#b":                     false, // Tasks that do not ascend
		"a#c a#b":                     false,
		"a#b c#b b#b":                 false,
		"a-#b a#b":                    false,
		"a#b a#b":                     false, // one twice
		"a#b a#b b#b":                 false,
		"a#b b#b b#b":                 false,
		"a#b b#b a#b":                 false,
		"a#b b#b=q#b":                 false, // a Dep that is not among Tasks
		"a#b=q#b":                     false,
		"a#b=A":                       false,
		"a#b b#b=a#b,q#b":             false,
		"a#b b#b=a#a,a#b":             false,
		"a#b b#b=a":                   false,
		"a#b b#b=b":                   false,
		"a#b b#b c#b=b#b,a#b":         false, // Deps that do not ascend
		"a#b=c#b,b#b b#b c#b":         false,
		"a#b b#b=a#b,a#b":             false, // a Dep twice
		"a#b=b#b,b#b b#b":             false,
		"a#b=a#b,b#b,b#b b#b":         false,
		"a":                           false, // none of ParseTask
		"a#":                          false,
		"#":                           false,
		"#b":                          false,
		"A#b":                         false,
		"a#B":                         false,
		"a#b#c":                       false,
		"^b":                          false,
		"0#b":                         false,
		"a#abcdefghijk":               false,
		"abcdefghijk#a":               false,
		"a#b b":                       false,
		"#b a#b":                      false,
		"a#b b#b c":                   false,
		"a#b a#b#c b#b":               false,
		"a a=a":                       false,
		"a#b=a b#b":                   false,
		"a#b b#b c#b=a#b,b#b,c#b d=d": false,
	} {
		planOrNot(t, planTold(told), right)
	}
	for _, s := range []string{"", " ", "a #b", "a# b", "a#b ", "a#b\n", "\xff#a", "a##b"} {
		planOrNot(t, impl.Plan{Tasks: []string{s}, Deps: [][]string{nil}}, false)
		planOrNot(t, impl.Plan{Tasks: []string{s}, Deps: [][]string{{s}}}, false)
		planOrNot(t, impl.Plan{Tasks: []string{"a#b"}, Deps: [][]string{{s}}}, false)
	}
	planOrNot(t, impl.Plan{Tasks: []string{"", "a#b"}, Deps: [][]string{nil, {""}}}, false)
}

// numberedPlan has n tasks, each of which waits for all ahead of it.
func numberedPlan(n int) impl.Plan {
	var p impl.Plan
	for i := range n {
		p.Deps = append(p.Deps, slices.Clone(p.Tasks))
		p.Tasks = append(p.Tasks, fmt.Sprintf("p%05d#t", i))
	}
	return p
}

func TestPlansByHowManyTasks(t *testing.T) {
	for n := range 40 {
		p := numberedPlan(n)
		planOrNot(t, p, n <= 16)
		// Each waits for all, itself among them.
		for i := range p.Deps {
			p.Deps[i] = p.Tasks
		}
		planOrNot(t, p, n <= 16)
		planOrNot(t, impl.Plan{Tasks: p.Tasks, Deps: make([][]string, n)}, n <= 16)
	}
	great := impl.Plan{Tasks: manyNames(1000000), Deps: make([][]string, 1000000)}
	if impl.PlanOk(great) || impl.PlanOk(impl.Plan{Tasks: great.Tasks[:1], Deps: great.Deps}) || impl.PlanOk(impl.Plan{Tasks: []string{"a#b"}, Deps: [][]string{great.Tasks}}) {
		t.Error("a great plan is right")
	}
}

// TestPlansByHowManyDeps: just as many as Tasks.
func TestPlansByHowManyDeps(t *testing.T) {
	for tasks := range 18 {
		for deps := range 20 {
			p := impl.Plan{Tasks: numberedPlan(tasks).Tasks, Deps: make([][]string, deps)}
			planOrNot(t, p, tasks == deps && tasks <= 16)
		}
	}
	planOrNot(t, impl.Plan{Tasks: []string{"a#b"}}, false)
	planOrNot(t, impl.Plan{Deps: [][]string{nil}}, false)
	planOrNot(t, impl.Plan{Deps: [][]string{{"a#b"}}}, false)
	planOrNot(t, impl.Plan{Tasks: []string{"a#b", "b#b"}, Deps: [][]string{{"b#b"}}}, false)
	planOrNot(t, impl.Plan{Tasks: []string{"a#b"}, Deps: [][]string{nil, {"a#b"}}}, false)
}

// TestOneOfTheDeps: each of them is to be right, whichever task it is of.
func TestOneOfTheDeps(t *testing.T) {
	for _, n := range []int{3, 5, 16} {
		for i := range n {
			all := numberedPlan(n).Tasks
			for _, z := range []struct {
				deps  []string
				right bool
			}{
				{nil, true}, {all, true}, {all[:1], true}, {all[n-1:], true}, {all[i : i+1], true}, {slices.Delete(slices.Clone(all), i, i+1), true},
				{[]string{"p#t"}, false}, {[]string{""}, false}, {[]string{all[0], "z#t"}, false}, {[]string{"a#t", all[0]}, false}, {append(slices.Clone(all), "z#t"), false}, {append([]string{"a#t"}, all...), false},
				{[]string{all[1], all[0]}, false}, {[]string{all[0], all[0]}, false}, {append(slices.Clone(all), all[n-1]), false}, {append([]string{all[0]}, all...), false}, {append(slices.Clone(all), all[0]), false},
			} {
				p := numberedPlan(n)
				p.Deps[i] = z.deps
				planOrNot(t, p, z.right)
			}
		}
	}
}

// TestOneOfTheTasks: each of them is to be right, whatever its place.
func TestOneOfTheTasks(t *testing.T) {
	for i := range 16 {
		for _, z := range []struct {
			task  func(s string) string
			right bool
		}{
			{func(s string) string { return s }, true}, {func(s string) string { return s + "-" }, true}, {func(s string) string { return s + "123456789" }, true},
			{func(s string) string { return s + "1234567890" }, false}, {func(s string) string { return s + "#" }, false}, {func(s string) string { return s + " " }, false}, {func(s string) string { return s + "A" }, false}, {func(s string) string { return strings.Replace(s, "#", "", 1) }, false}, {strings.ToUpper, false}, {func(string) string { return "" }, false},
		} {
			p := numberedPlan(16)
			p.Deps = make([][]string, 16)
			p.Tasks[i] = z.task(p.Tasks[i])
			planOrNot(t, p, z.right)
		}
	}
}

func TestOrderOfTasks(t *testing.T) {
	eachOrder([]string{"a#b=b#a", "a#c", "b#a=a#b,b#b", "b#b"}, func(told []string) {
		planOrNot(t, planTold(strings.Join(told, " ")), slices.IsSorted(told))
	})
}

// anyPlan is often right, and often wrong in one thing alone.
func anyPlan(r *rand.Rand) impl.Plan {
	p := numberedPlan(r.Intn(6))
	for i := range p.Deps {
		p.Deps[i] = nil
		for _, task := range p.Tasks {
			if r.Intn(3) == 0 {
				p.Deps[i] = append(p.Deps[i], task)
			}
		}
	}
	n := len(p.Tasks)
	if n == 0 {
		return p
	}
	i := r.Intn(n)
	switch r.Intn(12) {
	case 0:
		p.Tasks[i] = p.Tasks[r.Intn(n)]
	case 1:
		p.Tasks[i] = []string{"", "a", "A#b", "a#b", "z#b"}[r.Intn(5)]
	case 2:
		p.Deps = p.Deps[:r.Intn(n+1)]
	case 3:
		p.Deps = append(p.Deps, nil)
	case 4:
		p.Deps[i] = append(p.Deps[i], p.Tasks[r.Intn(n)])
	case 5:
		p.Deps[i] = append(p.Deps[i], "z#b")
	}
	return p
}

func TestManyPlansThatAreRightOrWrong(t *testing.T) {
	r := rand.New(rand.NewSource(1303))
	right := 0
	const tries = 20000
	for range tries {
		p := anyPlan(r)
		ok := othersPlanOk(p)
		if ok {
			right++
		}
		planOrNot(t, p, ok)
	}
	if right < tries/10 || right > tries*9/10 {
		t.Errorf("of %d plans %d were right", tries, right)
	}
}

func depsAre(t *testing.T, p impl.Plan, task string, want ...string) {
	t.Helper()
	if got := impl.DepsOf(p, task); !slices.Equal(got, want) {
		t.Errorf("in %q %q has the Deps %q, not %q", p, task, got, want)
	}
}

func TestDepsOf(t *testing.T) {
	p := planTold("a#b=b#b b#b=a#b,c#b c#b d#b=a#b,b#b,c#b")
	depsAre(t, p, "a#b", "b#b")
	depsAre(t, p, "b#b", "a#b", "c#b")
	depsAre(t, p, "c#b")
	depsAre(t, p, "d#b", "a#b", "b#b", "c#b")
	for _, none := range []string{"", "a", "a#", "#b", "a#bb", "e#b", "A#b", "0#b", "a#b ", "a#b,b#b", strings.Repeat("a", 100000)} {
		depsAre(t, p, none)
		depsAre(t, impl.Plan{}, none)
	}
	for i, task := range numberedPlan(16).Tasks {
		depsAre(t, numberedPlan(16), task, numberedPlan(i).Tasks...)
	}
}

// TestDepsOfWrongPlans: the first of two of one task counts, and what has no Deps waits for nothing.
func TestDepsOfWrongPlans(t *testing.T) {
	depsAre(t, planTold("a#b=x a#b=y"), "a#b", "x")
	depsAre(t, planTold("a#b a#b=y"), "a#b")
	depsAre(t, planTold("c=c,b,c,a b"), "c", "c", "b", "c", "a")
	depsAre(t, impl.Plan{Tasks: []string{""}, Deps: [][]string{{"", "\xff"}}}, "", "", "\xff")
	for n := range 5 {
		p := planTold("a#b=x b#b=y c#b=z")
		p.Deps = append(p.Deps, []string{"more"})[:n]
		for i, task := range p.Tasks {
			if i < n {
				depsAre(t, p, task, oneByte('x'+i))
			} else {
				depsAre(t, p, task)
			}
		}
		depsAre(t, p, "")
		depsAre(t, p, "more")
	}
	depsAre(t, impl.Plan{Tasks: []string{"a#b", "b#b"}}, "b#b")
	depsAre(t, impl.Plan{Deps: [][]string{{"a#b"}}}, "a#b")
	depsAre(t, impl.Plan{Deps: [][]string{{"a#b"}}}, "")
	great := impl.Plan{Tasks: manyNames(200000), Deps: [][]string{manyNames(200000)}}
	depsAre(t, great, great.Tasks[0], great.Tasks...)
	depsAre(t, great, great.Tasks[199999])
}
