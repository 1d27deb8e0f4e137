package tests

import (
	"slices"
	"testing"

	"loop.example/g00464/impl"
)

// looseRule has r over memory that can be turned, and spare room behind its lists, with what would be found there.
func looseRule(r impl.Rule) (impl.Rule, func()) {
	task, turnTask := looseText(r.Task)
	on, turnOn := looseTexts(r.On)
	ins, turnIns := looseTexts(r.Ins)
	envs, turnEnvs := looseTexts(r.Envs)
	return impl.Rule{Task: task, On: on, Ins: ins, Envs: envs, Keep: r.Keep}, func() {
		turnTask()
		turnOn()
		turnIns()
		turnEnvs()
	}
}

// looseRules has l over memory that can be turned, and spare room behind it, with rules that would be found there.
func looseRules(l []impl.Rule) ([]impl.Rule, func()) {
	out := slices.Repeat([]impl.Rule{{Task: "spare", On: []string{"spare"}, Keep: true}}, len(l)+4)
	var turns []func()
	for i, r := range l {
		x, turn := looseRule(r)
		out[i], turns = x, append(turns, turn)
	}
	out = out[:len(l)]
	return out, func() {
		for _, turn := range turns {
			turn()
		}
		for i := range out[:cap(out)] {
			out[:cap(out)][i] = impl.Rule{Task: "scribble", On: []string{"scribble"}}
		}
	}
}

// listsOfRule are the lists of r, each where it stands.
func listsOfRule(r *impl.Rule) []*[]string { return []*[]string{&r.On, &r.Ins, &r.Envs} }

// scribbleRule writes into all lists of r, and into the room behind them.
func scribbleRule(r impl.Rule) {
	for _, l := range listsOfRule(&r) {
		scribbleTexts(*l)
	}
}

// ruleWithRoom has all of r, its spare room as if it were a part of it.
func ruleWithRoom(r impl.Rule) impl.Rule {
	for _, l := range listsOfRule(&r) {
		*l = slices.Clone((*l)[:cap(*l)])
	}
	return r
}

func cloneRule(r impl.Rule) impl.Rule {
	for _, l := range listsOfRule(&r) {
		*l = slices.Clone(*l)
	}
	return r
}

func rulesWithRoom(l []impl.Rule) []impl.Rule {
	var out []impl.Rule
	for _, r := range l[:cap(l)] {
		out = append(out, ruleWithRoom(r))
	}
	return out
}

// rulesToShare are right ones and wrong ones.
func rulesToShare() []impl.Rule {
	return []impl.Rule{
		fullRule(), {}, {Task: "test"}, {Task: "test", Keep: true}, withOn(), withOn("a"), withOn("spare"), withOn("b", "a", "b"), withIns("**"), withIns("b", "a"), withIns("src/*.go", "["), withEnvs("b", "a"), withEnvs("spare"),
		withOn("a", "b", "c", "d", "e"), withIns("a", "b", "c", "d", "e"), withEnvs("a", "b", "c", "d"), withTask("No"), {Task: "\n", On: []string{"", "^"}, Ins: []string{"\x00"}, Envs: []string{"A", "é"}},
	}
}

// ruleListsToShare are right ones and wrong ones.
func ruleListsToShare() [][]impl.Rule {
	out := [][]impl.Rule{nil, rulesToShare(), {{Task: "a"}, fullRule(), {Task: "z", Ins: []string{"*"}}}, {fullRule(), withOn("a"), {Task: "a"}}}
	for _, told := range []string{"a", "a b c", "b a", "a a", "a b c d", "a b c d e", "a b c d e f", "r spare"} {
		out = append(out, rulesOf(told))
	}
	return out
}

// firstRule is what RuleAt is to answer, found in the tests' own words.
func firstRule(l []impl.Rule, task string) (impl.Rule, bool) {
	for _, r := range l {
		if r.Task == task {
			return r, true
		}
	}
	return impl.Rule{Task: task}, false
}

func tasksToAsk() []string { return []string{"test", "a", "b", "z", "spare", "", "No", "none", "\n"} }

func TestRulesAreLeftAlone(t *testing.T) {
	for _, in := range ruleListsToShare() {
		l, _ := looseRules(in)
		before := rulesWithRoom(l)
		untouched := func() {
			t.Helper()
			if !slices.EqualFunc(rulesWithRoom(l), before, rulesAlike) || !slices.EqualFunc(l, in, rulesAlike) {
				t.Fatalf("%+v, or the room behind it, is written into: %+v", in, rulesWithRoom(l))
			}
		}
		if impl.RulesOk(l) != othersRulesOk(in) {
			t.Errorf("whether %+v are right hangs on the room behind", in)
		}
		untouched()
		for _, of := range tasksToAsk() {
			task, _ := looseText(of)
			got, ok := impl.RuleAt(l, task)
			if want, wantOk := firstRule(in, of); ok != wantOk || !rulesAlike(got, want) || task != of {
				t.Errorf("in %+v at %q there is %+v, %v", in, of, got, ok)
			}
			untouched()
			scribbleRule(got)
			untouched()
		}
		for i, r := range l {
			v := impl.RuleVal(r)
			if !alike(v, othersRuleVal(in[i])) {
				t.Errorf("the Val of %+v hangs on the room behind: %v", in[i], v)
			}
			untouched()
			scribble(v)
			untouched()
		}
	}
}

func TestValsOfRulesAreLeftAlone(t *testing.T) {
	for _, in := range rulesToShare() {
		told := othersRuleVal(in)
		v, _ := looseVal(told)
		task, _ := looseText(in.Task)
		before := withRoom(v)
		r, ok := impl.RuleOf(task, v)
		want, wantOk := othersRuleOf(in.Task, told)
		if ok != wantOk || !rulesAlike(r, want) {
			t.Errorf("what is read of %v hangs on the room behind: %+v, %v", told, r, ok)
		}
		scribbleRule(r)
		if !alike(withRoom(v), before) || !alike(v, told) || task != in.Task {
			t.Errorf("%q or %v is written into", in.Task, told)
		}
	}
}

func TestOnsAreLeftAlone(t *testing.T) {
	for _, of := range []string{"a", "^a", "a#b", "", "^", "#", "^a#b", "A"} {
		s, _ := looseText(of)
		if impl.OnOk(s) != onShape.MatchString(of) || s != of {
			t.Errorf("%q is written into", of)
		}
	}
}

func TestAnswersOfRulesShareNothing(t *testing.T) {
	for _, in := range rulesToShare() {
		r, turn := looseRule(in)
		v, again := impl.RuleVal(r), impl.RuleVal(r)
		turn()
		want := othersRuleVal(in)
		if !alike(v, want) {
			t.Errorf("the Val of %+v shares its memory: %v", in, v)
		}
		scribble(v)
		if !alike(again, want) || !alike(impl.RuleVal(in), want) {
			t.Errorf("two Vals of %+v lie over each other", in)
		}
	}
}

func TestFoundRulesShareNothing(t *testing.T) {
	for _, in := range ruleListsToShare() {
		for _, of := range tasksToAsk() {
			l, turn := looseRules(in)
			task, turnTask := looseText(of)
			got, ok := impl.RuleAt(l, task)
			again, _ := impl.RuleAt(l, task)
			turn()
			turnTask()
			want, wantOk := firstRule(in, of)
			if ok != wantOk || !rulesAlike(got, want) {
				t.Errorf("what is at %q shares the memory of %+v: %+v", of, in, got)
			}
			scribbleRule(got)
			if !rulesAlike(again, want) {
				t.Errorf("two answers at %q of %+v lie over each other", of, in)
			}
		}
	}
}

func TestReadRulesShareNothing(t *testing.T) {
	for _, in := range rulesToShare() {
		want, wantOk := othersRuleOf(in.Task, othersRuleVal(in))
		v, turn := looseVal(othersRuleVal(in))
		task, turnTask := looseText(in.Task)
		r, ok := impl.RuleOf(task, v)
		again, _ := impl.RuleOf(task, v)
		turn()
		turnTask()
		if ok != wantOk || !rulesAlike(r, want) {
			t.Errorf("what is read of %+v shares its memory: %+v", in, r)
		}
		scribbleRule(r)
		if !rulesAlike(again, want) {
			t.Errorf("two rules read of %+v lie over each other", in)
		}
	}
}

// sharingRules have lists that are one and the same, or a part of it.
func sharingRules() []impl.Rule {
	l := []string{"a", "b", "c"}
	return []impl.Rule{
		{Task: "test", On: l, Ins: l, Envs: l, Keep: true}, {Task: "test", On: l[:2], Ins: l[1:], Envs: l[:1]}, {Task: "test", On: l[:0], Ins: l, Envs: l[:0]}, {Task: "test", On: l[1:2], Ins: l[:2], Envs: l[2:]},
	}
}

// sharingRuleVals are the Vals of such rules, whose lists are one and the same, or a part of it, too.
func sharingRuleVals() []impl.Val {
	l := []impl.Val{textVal("a"), textVal("b"), textVal("c")}
	keys := []string{"env", "in", "on"}
	return []impl.Val{
		mapVal(keys, listVal(l...), listVal(l...), listVal(l...)), mapVal(keys, listVal(l[:1]...), listVal(l[1:]...), listVal(l[:2]...)), mapVal(keys, listVal(l[:0]...), listVal(l...), listVal(l[:0]...)),
	}
}

// listsShareNothing writes into one list of an answer at a time, and into the room behind it.
func listsShareNothing(t *testing.T, answer func() impl.Rule, want impl.Rule) {
	t.Helper()
	for i, kept := range listsOfRule(&want) {
		got := answer()
		list := listsOfRule(&got)[i]
		scribbleTexts(*list)
		*list = *kept
		if !rulesAlike(got, want) {
			t.Errorf("in %+v list %d lies over others: %+v", want, i, got)
		}
	}
}

func TestListsOfOneRuleShareNothing(t *testing.T) {
	for _, r := range append(rulesToShare(), sharingRules()...) {
		listsShareNothing(t, func() impl.Rule {
			got, _ := impl.RuleAt([]impl.Rule{r}, r.Task)
			return got
		}, cloneRule(r))
	}
	for _, v := range append(sharingRuleVals(), othersRuleVal(fullRule())) {
		want, ok := othersRuleOf("test", v)
		if !ok {
			t.Fatalf("%v is none", v)
		}
		listsShareNothing(t, func() impl.Rule {
			got, _ := impl.RuleOf("test", v)
			return got
		}, want)
	}
}

func TestListsOfOneRuleValShareNothing(t *testing.T) {
	for _, r := range append(rulesToShare(), sharingRules()...) {
		want := othersRuleVal(r)
		for i := range partsOf(&want) {
			got := impl.RuleVal(r)
			part := partsOf(&got)[i]
			scribble(*part)
			// Past what was scribbled into, all is to be as it was.
			part.L, part.Keys = partsOf(&want)[i].L, partsOf(&want)[i].Keys
			if !alike(got, want) {
				t.Errorf("in the Val of %+v part %d lies over others: %v", r, i, got)
			}
		}
	}
}
