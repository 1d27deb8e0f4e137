package tests

import (
	"fmt"
	"math/rand"
	"slices"
	"strings"
	"testing"

	"loop.example/g00464/impl"
)

// rulesOf makes a rule of each of these tasks, told apart by their Envs where two have one Task.
func rulesOf(told string) []impl.Rule {
	var out []impl.Rule
	for i, task := range strings.Fields(told) {
		out = append(out, impl.Rule{Task: task, On: []string{"^" + task, task}, Ins: []string{"src/**"}, Envs: []string{fmt.Sprintf("n%d", i)}, Keep: i%2 == 0})
	}
	return out
}

// othersRulesOk asks of each two rules of l how they stand to each other.
func othersRulesOk(l []impl.Rule) bool {
	ok := len(l) <= mostRules
	for i, r := range l {
		ok = ok && othersRuleOk(r)
		for _, q := range l[:i] {
			ok = ok && strings.Compare(q.Task, r.Task) < 0
		}
	}
	return ok
}

func rulesOrNot(t *testing.T, l []impl.Rule, right bool) {
	t.Helper()
	if impl.RulesOk(l) != right || othersRulesOk(l) != right {
		t.Errorf("of %+v it is told: %v", l, !right)
	}
}

func TestRulesOk(t *testing.T) {
	rulesOrNot(t, nil, true)
	rulesOrNot(t, []impl.Rule{}, true)
	for told, right := range map[string]bool{
		"a":                      true,
		"a b":                    true,
		"a a- a0 aa":             true,
		"build lint test":        true,
		"a b c d e":              true,
		"a abcdefghij b c z":     true,
		"a b c d e f":            false,
		"a b c d e f g h i":      false,
		"b a":                    false,
		"a a":                    false,
		"a a b":                  false,
		"a b b":                  false,
		"a b a":                  false,
		"a c b d":                false,
		"b a c d e":              false,
		"a b c e d":              false,
		"a b c d d":              false,
		"a a b c d":              false,
		"e d c b a":              false,
		"aa a":                   false,
		"a0 a-":                  false,
		"a A":                    false,
		"A a":                    false,
		"a abcdefghijk":          false,
		"0 a":                    false,
		"- a":                    false,
		"a b#c":                  false,
		"a b c d e e":            false,
		"a b c d e a":            false,
		"a b c d abcdefghij":     false,
		"a b c d abcdefghijklmn": false,
	} {
		rulesOrNot(t, rulesOf(told), right)
	}
}

// TestRulesOfOneTask: also where both are the same in all their parts, or in none.
func TestRulesOfOneTask(t *testing.T) {
	rulesOrNot(t, []impl.Rule{fullRule(), fullRule()}, false)
	rulesOrNot(t, []impl.Rule{fullRule(), {Task: "test"}}, false)
	rulesOrNot(t, []impl.Rule{{Task: "test"}, {Task: "test", Keep: true}}, false)
	rulesOrNot(t, []impl.Rule{{Task: "a"}, {Task: "test"}, fullRule()}, false)
}

// TestRulesAtTheirLimits: 5 rules that have as many of each as they may are right.
func TestRulesAtTheirLimits(t *testing.T) {
	var l []impl.Rule
	for n := range mostRules + 3 {
		rulesOrNot(t, l, n <= mostRules)
		l = append(l, withTask(fmt.Sprintf("task-%d", n)))
	}
}

// inEachRule turns one of the rules at a time.
func inEachRule(t *testing.T, turn func(*impl.Rule), right bool) {
	t.Helper()
	for _, told := range []string{"m", "a m", "a m z", "a b c d e"} {
		for i := range rulesOf(told) {
			l := rulesOf(told)
			turn(&l[i])
			rulesOrNot(t, l, right)
		}
	}
}

func TestOneOfTheRules(t *testing.T) {
	four := func(s string) []string { return slices.Repeat([]string{s}, 4) }
	five := func(s string) []string { return slices.Repeat([]string{s}, 5) }
	long := strings.Repeat("[!abcde]", 7) + "/abc"
	for _, turn := range []func(*impl.Rule){
		func(r *impl.Rule) { r.On, r.Ins, r.Envs = nil, nil, nil },
		func(r *impl.Rule) { r.On, r.Ins, r.Envs = []string{}, []string{}, []string{} },
		func(r *impl.Rule) { r.Keep = !r.Keep },
		func(r *impl.Rule) { r.On = four("a") },
		func(r *impl.Rule) { r.On = four("^abcdefghij") },
		func(r *impl.Rule) { r.On = four("abcdefghij#abcdefghij") },
		func(r *impl.Rule) { r.Ins = four(long) },
		func(r *impl.Rule) { r.Envs = four("abcdefghij")[:3] },
	} {
		inEachRule(t, turn, true)
	}
	for _, turn := range []func(*impl.Rule){
		func(r *impl.Rule) { *r = impl.Rule{} },
		func(r *impl.Rule) { r.Task = "" },
		func(r *impl.Rule) { r.Task += "#" },
		func(r *impl.Rule) { r.Task = strings.ToUpper(r.Task) },
		func(r *impl.Rule) { r.Task += strings.Repeat("a", 10) },
		func(r *impl.Rule) { r.On = five("a") },
		func(r *impl.Rule) { r.On = []string{"^", "a", "a", "a"} },
		func(r *impl.Rule) { r.On = []string{"a", "a", "a", "^"} },
		func(r *impl.Rule) { r.On = []string{""} },
		func(r *impl.Rule) { r.On = []string{"^a#b"} },
		func(r *impl.Rule) { r.Ins = five("a") },
		func(r *impl.Rule) { r.Ins = []string{long + "d"} },
		func(r *impl.Rule) { r.Ins = []string{"[", "a", "a", "a"} },
		func(r *impl.Rule) { r.Ins = []string{"a", "a", "a", "["} },
		func(r *impl.Rule) { r.Ins = []string{""} },
		func(r *impl.Rule) { r.Envs = four("a") },
		func(r *impl.Rule) { r.Envs = []string{"A", "a", "a"} },
		func(r *impl.Rule) { r.Envs = []string{"a", "a", "A"} },
		func(r *impl.Rule) { r.Envs = []string{""} },
	} {
		inEachRule(t, turn, false)
	}
}

func TestManyRulesTogether(t *testing.T) {
	r := rand.New(rand.NewSource(120))
	right := 0
	const tries = 20000
	for range tries {
		var l []impl.Rule
		for range r.Intn(mostRules + 2) {
			x := anyRule(r)
			if !othersRuleOk(x) && r.Intn(4) > 0 {
				x = impl.Rule{Task: anyName(r)}
			}
			l = append(l, x)
		}
		if r.Intn(4) > 0 {
			slices.SortFunc(l, func(a, b impl.Rule) int { return strings.Compare(a.Task, b.Task) })
		}
		ok := othersRulesOk(l)
		if ok {
			right++
		}
		rulesOrNot(t, l, ok)
		if t.Failed() {
			t.FailNow()
		}
	}
	if right < tries/10 || right > tries*9/10 {
		t.Errorf("of %d lists %d were right", tries, right)
	}
}

// ruleAtIs wants this rule to be found.
func ruleAtIs(t *testing.T, l []impl.Rule, task string, want impl.Rule) {
	t.Helper()
	if got, ok := impl.RuleAt(l, task); !ok || !rulesAlike(got, want) || got.Task != task {
		t.Errorf("in %+v at %q there is %+v, %v", l, task, got, ok)
	}
}

// noRuleAt wants the zero one with this task: nothing in its lists, and not kept.
func noRuleAt(t *testing.T, l []impl.Rule, task string) {
	t.Helper()
	if got, ok := impl.RuleAt(l, task); ok || !rulesAlike(got, impl.Rule{Task: task}) {
		t.Errorf("in %+v at %q there is %+v, %v", l, task, got, ok)
	}
}

func TestRuleAt(t *testing.T) {
	for _, told := range []string{"", "b", "b c", "b c d", "b c d e f", "b b- b0 bb", "build lint test", "f e d c b", "c b d"} {
		l := rulesOf(told)
		for i, r := range l {
			ruleAtIs(t, l, r.Task, l[i])
		}
		for _, task := range []string{"", "a", "z", "q", "bbb", "b-b", "buil", "builds", "B", "n0", "^b", "b#b", "src/**", strings.Repeat("b", 100000)} {
			noRuleAt(t, l, task)
			noRuleAt(t, nil, task)
			noRuleAt(t, []impl.Rule{}, task)
		}
	}
}

// TestRuleAtHasAllOfIt: what is found has all its parts, be it kept or not.
func TestRuleAtHasAllOfIt(t *testing.T) {
	full, notKept := fullRule(), fullRule()
	notKept.Keep = false
	for _, r := range []impl.Rule{full, notKept, {Task: "test"}, {Task: "test", Keep: true}, withOn(), withIns(), withEnvs()} {
		for _, l := range [][]impl.Rule{{r}, {r, {Task: "z"}}, {{Task: "a", Keep: true}, r}, {{Task: "a"}, r, {Task: "z", Keep: true}}} {
			ruleAtIs(t, l, "test", r)
			noRuleAt(t, l, "tes")
		}
	}
}

// TestRuleAtOfWrongRules: the first of a Task counts, and nothing asks whether the list, or what is found, is right.
func TestRuleAtOfWrongRules(t *testing.T) {
	first, second := withOn("first"), withOn("second")
	ruleAtIs(t, []impl.Rule{first, second}, "test", first)
	ruleAtIs(t, []impl.Rule{second, first}, "test", second)
	ruleAtIs(t, []impl.Rule{{Task: "z"}, second, {Task: "a"}, first}, "test", second)
	wrong := impl.Rule{Task: "No Name", On: []string{"", "^"}, Ins: []string{"[", "", "", "", ""}, Envs: []string{"A", "\x00"}, Keep: true}
	ruleAtIs(t, []impl.Rule{wrong}, wrong.Task, wrong)
	ruleAtIs(t, []impl.Rule{first, wrong}, wrong.Task, wrong)
	ruleAtIs(t, []impl.Rule{first, {Keep: true}}, "", impl.Rule{Keep: true})
	noRuleAt(t, []impl.Rule{wrong, first}, "no name")
	l := rulesOf(strings.Join(manyNames(20), " "))
	for _, r := range l {
		ruleAtIs(t, l, r.Task, r)
	}
}

func TestGreatListsOfRules(t *testing.T) {
	const n = 200000
	l := rulesOf(strings.Join(manyNames(n), " "))
	if impl.RulesOk(l) {
		t.Error("many rules are right")
	}
	for _, i := range []int{0, 1, n / 2, n - 1} {
		if got, ok := impl.RuleAt(l, l[i].Task); !ok || !rulesAlike(got, l[i]) {
			t.Errorf("of many rules the one of place %d is %+v, %v", i, got, ok)
		}
	}
	if got, ok := impl.RuleAt(l, "none"); ok || !rulesAlike(got, impl.Rule{Task: "none"}) {
		t.Errorf("of many rules there is %+v, %v", got, ok)
	}
}

// TestRulesByTheirTexts: rules that are told, each as a text, come back as the same list.
func TestRulesByTheirTexts(t *testing.T) {
	r := rand.New(rand.NewSource(1212))
	for range 3000 {
		var l, back []impl.Rule
		for i := range r.Intn(mostRules + 1) {
			x := anyRule(r)
			x.Task = string(rune('a'+i)) + "-task"
			if othersRuleOk(x) {
				l = append(l, x)
			}
		}
		for _, x := range l {
			got, ok := impl.RuleOf(x.Task, must(t, impl.ValText(impl.RuleVal(x))))
			if !ok {
				t.Fatalf("%+v is not read", x)
			}
			back = append(back, got)
		}
		if !slices.EqualFunc(l, back, rulesAlike) || !impl.RulesOk(back) {
			t.Fatalf("%+v came back as %+v", l, back)
		}
		for _, x := range l {
			ruleAtIs(t, back, x.Task, x)
		}
	}
}
