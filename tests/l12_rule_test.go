package tests

import (
	"bytes"
	"encoding/json"
	"math/rand"
	"slices"
	"strings"
	"testing"

	"loop.example/g00464/impl"
)

const (
	mostRules  = 5
	mostOns    = 4
	mostIns    = 4
	mostEnvs   = 3
	mostInText = 60
)

// fullRule has as many of each as it may.
func fullRule() impl.Rule {
	return impl.Rule{Task: "test", On: []string{"build", "^build", "app#lint", "^test"}, Ins: []string{"src/**", "*.go", "a/[!bc]?/**/d", "notes"}, Envs: []string{"mode", "arch", "os"}, Keep: true}
}

// withTask, withOn, withIns and withEnvs are fullRule with another part.
func withTask(task string) impl.Rule {
	r := fullRule()
	r.Task = task
	return r
}

func withOn(l ...string) impl.Rule {
	r := fullRule()
	r.On = l
	return r
}

func withIns(l ...string) impl.Rule {
	r := fullRule()
	r.Ins = l
	return r
}

func withEnvs(l ...string) impl.Rule {
	r := fullRule()
	r.Envs = l
	return r
}

func rulesAlike(a, b impl.Rule) bool {
	return a.Task == b.Task && a.Keep == b.Keep && slices.Equal(a.On, b.On) && slices.Equal(a.Ins, b.Ins) && slices.Equal(a.Envs, b.Envs)
}

// othersRuleText writes the text of a rule by the library, which sorts keys.
func othersRuleText(r impl.Rule) string {
	var b bytes.Buffer
	e := json.NewEncoder(&b)
	e.SetEscapeHTML(false)
	if err := e.Encode(map[string]any{"on": append([]string{}, r.On...), "in": append([]string{}, r.Ins...), "env": append([]string{}, r.Envs...), "keep": r.Keep}); err != nil {
		panic(err)
	}
	return strings.TrimSuffix(b.String(), "\n")
}

func textVals(l []string) impl.Val {
	v := listVal()
	for _, s := range l {
		v.L = append(v.L, textVal(s))
	}
	return v
}

// othersRuleVal builds the Val of a rule in the tests' own words, right or not.
func othersRuleVal(r impl.Rule) impl.Val {
	keep := boolVal(0)
	if r.Keep {
		keep = boolVal(1)
	}
	return mapVal([]string{"env", "in", "keep", "on"}, textVals(r.Envs), textVals(r.Ins), keep, textVals(r.On))
}

// othersRuleOk asks by patterns whether a rule is right.
func othersRuleOk(r impl.Rule) bool {
	ok := nameShape.MatchString(r.Task) && len(r.On) <= mostOns && len(r.Ins) <= mostIns && len(r.Envs) <= mostEnvs
	for _, s := range r.On {
		ok = ok && onShape.MatchString(s)
	}
	for _, s := range r.Ins {
		ok = ok && len(s) <= mostInText && isGlob(s)
	}
	for _, s := range r.Envs {
		ok = ok && nameShape.MatchString(s)
	}
	return ok
}

// rightRule wants a rule to be right, and to come back of its Val and of its text.
func rightRule(t *testing.T, r impl.Rule) {
	t.Helper()
	if !impl.RulesOk([]impl.Rule{r}) || !othersRuleOk(r) {
		t.Errorf("%+v is not right", r)
	}
	v := impl.RuleVal(r)
	if !alike(v, othersRuleVal(r)) || !impl.ValOk(v) {
		t.Errorf("the Val of %+v is %v", r, v)
	}
	ruleOfVal(t, r.Task, v, r)
	text := impl.ValText(v)
	if text != othersRuleText(r) {
		t.Errorf("%+v is told as %q", r, text)
	}
	back, ok := impl.ParseVal(text)
	if !ok || !alike(back, v) {
		t.Errorf("%q is read as %v, %v", text, back, ok)
	}
	ruleOfVal(t, r.Task, back, r)
}

// wrongRule wants a rule not to be right, alone and among others, and not to come back.
func wrongRule(t *testing.T, r impl.Rule) {
	t.Helper()
	if othersRuleOk(r) {
		t.Errorf("%+v is right", r)
	}
	for _, l := range [][]impl.Rule{{r}, {{Task: "a"}, r}, {r, {Task: "zzzzzzzzzz"}}, {{Task: "a"}, r, {Task: "zzzzzzzzzz"}}} {
		if impl.RulesOk(l) {
			t.Errorf("%+v are right", l)
		}
	}
	v := impl.RuleVal(r)
	if !alike(v, othersRuleVal(r)) {
		t.Errorf("the Val of %+v is %v", r, v)
	}
	noRule(t, r.Task, v)
	if x, ok := impl.ParseVal(impl.ValText(v)); ok {
		noRule(t, r.Task, x)
	}
}

func ruleOrNot(t *testing.T, r impl.Rule, right bool) {
	t.Helper()
	if right {
		rightRule(t, r)
	} else {
		wrongRule(t, r)
	}
}

// ruleOfVal wants what is read, and that what is read is told, and read anew as the same.
func ruleOfVal(t *testing.T, task string, v impl.Val, want impl.Rule) {
	t.Helper()
	got, ok := impl.RuleOf(task, v)
	if !ok || !rulesAlike(got, want) {
		t.Errorf("of %q and %v the rule is %+v, %v", task, v, got, ok)
		return
	}
	if !impl.RulesOk([]impl.Rule{got}) {
		t.Errorf("%+v is read, but not right", got)
	}
	if again, ok := impl.RuleOf(task, impl.RuleVal(got)); !ok || !rulesAlike(again, want) {
		t.Errorf("%+v is read anew as %+v, %v", got, again, ok)
	}
}

func noRule(t *testing.T, task string, v impl.Val) {
	t.Helper()
	if got, ok := impl.RuleOf(task, v); ok || !rulesAlike(got, impl.Rule{}) {
		t.Errorf("of %q and %v the rule is %+v, %v", task, v, got, ok)
	}
}

func TestRulesToldAndRead(t *testing.T) {
	for _, z := range []struct {
		r    impl.Rule
		text string
	}{
		{impl.Rule{Task: "q"}, `{"env":[],"in":[],"keep":false,"on":[]}`},
		{impl.Rule{Task: "q", Keep: true}, `{"env":[],"in":[],"keep":true,"on":[]}`},
		{impl.Rule{Task: "q", On: []string{}, Ins: []string{}, Envs: []string{}}, `{"env":[],"in":[],"keep":false,"on":[]}`},
		{impl.Rule{Task: "q", On: []string{"q"}}, `{"env":[],"in":[],"keep":false,"on":["q"]}`},
		{impl.Rule{Task: "q", Ins: []string{"**"}, Keep: true}, `{"env":[],"in":["**"],"keep":true,"on":[]}`},
		{impl.Rule{Task: "q", Envs: []string{"env"}}, `{"env":["env"],"in":[],"keep":false,"on":[]}`},
		{impl.Rule{Task: "test", On: []string{"^build", "b#test"}, Ins: []string{"a/**"}, Envs: []string{"mode"}}, `{"env":["mode"],"in":["a/**"],"keep":false,"on":["^build","b#test"]}`},
		{fullRule(), `{"env":["mode","arch","os"],"in":["src/**","*.go","a/[!bc]?/**/d","notes"],"keep":true,"on":["build","^build","app#lint","^test"]}`},
	} {
		rightRule(t, z.r)
		if s := impl.ValText(impl.RuleVal(z.r)); s != z.text {
			t.Errorf("%+v is told as %q", z.r, s)
		}
		ruleOfVal(t, z.r.Task, must(t, z.text), z.r)
	}
}

// TestZeroRule: it has no name, so it is not right; its Val is that of nothing told, and not kept.
func TestZeroRule(t *testing.T) {
	wrongRule(t, impl.Rule{})
	wrongRule(t, impl.Rule{Keep: true})
	v := impl.RuleVal(impl.Rule{})
	if s := impl.ValText(v); s != `{"env":[],"in":[],"keep":false,"on":[]}` {
		t.Errorf("the zero rule is told as %q", s)
	}
	ruleOfVal(t, "a", v, impl.Rule{Task: "a"})
}

// TestTaskIsNotTold: a rule's Val has no Task, so that one Val is the rule of each task it is read for.
func TestTaskIsNotTold(t *testing.T) {
	v := impl.RuleVal(fullRule())
	for _, name := range rightNames() {
		if !alike(impl.RuleVal(withTask(name)), v) {
			t.Errorf("the Val of %q hangs on its Task", name)
		}
		ruleOfVal(t, name, v, withTask(name))
	}
	for _, name := range noNames() {
		if !alike(impl.RuleVal(withTask(name)), v) {
			t.Errorf("the Val of %q hangs on its Task", name)
		}
		noRule(t, name, v)
	}
}

// TestPartsOfARule: each list of a rule may be as long as it likes, up to its limit, whatever the others are.
func TestPartsOfARule(t *testing.T) {
	for on := range mostOns + 3 {
		for ins := range mostIns + 3 {
			for envs := range mostEnvs + 3 {
				for _, keep := range []bool{false, true} {
					r := impl.Rule{Task: "test", On: slices.Repeat([]string{"^b", "a#b", "a"}, 3)[:on], Ins: slices.Repeat([]string{"b/**", "a", "**"}, 3)[:ins], Envs: slices.Repeat([]string{"m", "b"}, 3)[:envs], Keep: keep}
					ruleOrNot(t, r, on <= mostOns && ins <= mostIns && envs <= mostEnvs)
				}
			}
		}
	}
}

// TestNoOrderWithinRules: nothing asks for an order in what a rule has, nor that no two are alike; they come back as they stand.
func TestNoOrderWithinRules(t *testing.T) {
	eachOrder(fullRule().On, func(l []string) { rightRule(t, withOn(l...)) })
	eachOrder(fullRule().Ins, func(l []string) { rightRule(t, withIns(l...)) })
	eachOrder(fullRule().Envs, func(l []string) { rightRule(t, withEnvs(l...)) })
	rightRule(t, withOn("a", "a", "^a", "^a"))
	rightRule(t, withOn("test", "^test", "test#test"))
	rightRule(t, withIns("**", "**", "a", "a"))
	rightRule(t, withEnvs("m", "m", "m"))
	rightRule(t, withEnvs("test", "build", "test"))
}

func TestTextsOfRulesInOtherOrder(t *testing.T) {
	want := impl.Rule{Task: "t", On: []string{"^b", "a"}, Ins: []string{"y", "x"}, Envs: []string{"n", "m"}}
	eachOrder([]string{`"on":["^b","a"]`, `"in":["y","x"]`, `"env":["n","m"]`, `"keep":false`}, func(parts []string) {
		ruleOfVal(t, "t", must(t, "{"+strings.Join(parts, ",")+"}"), want)
		ruleOfVal(t, "t", must(t, " {\n"+strings.Join(parts, " ,\r\n\t")+" } "), want)
	})
	ruleOfVal(t, "t", must(t, `{"\u006fn":["\u005ea"],"\u006beep":false}`), impl.Rule{Task: "t", On: []string{"^a"}})
}

func TestTasksOfRules(t *testing.T) {
	for _, name := range rightNames() {
		rightRule(t, withTask(name))
		rightRule(t, impl.Rule{Task: name})
	}
	for _, name := range append(noNames(), "^a", "a#b", "#", "^", "a#", "#b") {
		wrongRule(t, withTask(name))
		wrongRule(t, impl.Rule{Task: name})
	}
	for c := range 256 {
		small := 'a' <= c && c <= 'z'
		ruleOrNot(t, withTask(oneByte(c)), small)
		ruleOrNot(t, withTask("m"+oneByte(c)), small || '0' <= c && c <= '9' || c == '-')
	}
	for n := range 16 {
		ruleOrNot(t, withTask(strings.Repeat("a", n)), 1 <= n && n <= 10)
	}
}

// inOrNot has s as the only, the first and the last of 4 Ins.
func inOrNot(t *testing.T, s string, want bool) {
	t.Helper()
	for _, ins := range [][]string{{s}, {s, "a", "b", "c"}, {"a", "b", "c", s}} {
		ruleOrNot(t, withIns(ins...), want)
	}
}

func TestInsOfRules(t *testing.T) {
	for _, s := range []string{"a", "*", "**", "?", "a/**", "**/a", "[a]", "[!a]", "src/*.go", "a/b/c/d", ".", "..", "-", "_", "a[bc]d", longName, "*/*/*/*", "[!abcde]"} {
		inOrNot(t, s, true)
	}
	for _, s := range []string{"", " ", "/", "[", "]", "[]", "[!]", "[a", "a]", "[A]", "[abcdef]", "[-]", "a//b", "/a", "a/", "a/b/c/d/e", "A", "a b", " a", "a ", "a\n", "a\t", "é", "a,b", "{a}", "!a", "a#b", "^a", "\\a", "a\x00", longName + "x"} {
		inOrNot(t, s, false)
	}
}

// TestInsByLength: those of 60 bytes are right, those of 61 are not, though they are patterns.
func TestInsByLength(t *testing.T) {
	tried := map[int]bool{}
	for _, head := range []string{
		"", strings.Repeat("[abcde]", 7) + "/", strings.Repeat("[!abcde]", 7) + "/", strings.Repeat("[!abcde]", 6), longName + "/" + longName + "/" + strings.Repeat("[!09]", 5) + "/", strings.Repeat("[abcde]", 12) + "/",
	} {
		for n := 1; n <= mostSigns; n++ {
			for _, sign := range []string{"x", "*", "?"} {
				s := head + strings.Repeat(sign, n)
				if impl.GlobOk(s) {
					tried[len(s)] = true
					inOrNot(t, s, len(s) <= mostInText)
				} else {
					inOrNot(t, s, false)
				}
			}
		}
	}
	for n := mostInText - 3; n <= mostInText+3; n++ {
		if !tried[n] {
			t.Errorf("no pattern of %d bytes is tried", n)
		}
	}
	most := strings.Repeat("[!abcde]", 7) + "/abc"
	if len(most) != mostInText {
		t.Errorf("%q has %d bytes", most, len(most))
	}
	rightRule(t, withIns(most, most, most, most))
}

func TestEnvsOfRules(t *testing.T) {
	for _, s := range rightNames() {
		for _, envs := range [][]string{{s}, {s, "a", "b"}, {"a", "b", s}} {
			rightRule(t, withEnvs(envs...))
		}
	}
	for _, s := range append(noNames(), "^a", "a#b", "*", "a=b", "$a") {
		for _, envs := range [][]string{{s}, {s, "a", "b"}, {"a", "b", s}, {"a", s, "b"}} {
			wrongRule(t, withEnvs(envs...))
		}
	}
	for n := range 16 {
		ruleOrNot(t, withEnvs(strings.Repeat("e", n)), 1 <= n && n <= 10)
	}
}

// TestPartsAreNotTakenForEachOther: what is right in one list is not in another.
func TestPartsAreNotTakenForEachOther(t *testing.T) {
	for _, s := range []string{"^a", "a#b"} {
		rightRule(t, withOn(s))
		wrongRule(t, withIns(s))
		wrongRule(t, withEnvs(s))
	}
	for _, s := range []string{"**", "a/b", "9", "-", "abcdefghijk"} {
		wrongRule(t, withOn(s))
		rightRule(t, withIns(s))
		wrongRule(t, withEnvs(s))
	}
}

// TestGreatRules: what is far too great is answered, too, and its Val has all of it.
func TestGreatRules(t *testing.T) {
	const n = 200000
	long := strings.Repeat("a", n)
	for _, r := range []impl.Rule{
		withTask(long), withOn(long), withOn("^" + long), withOn(long + "#a"), withIns(long), withIns(strings.Repeat("a/", n) + "a"), withIns(strings.Repeat("[", n)), withIns(strings.Repeat("*", n)), withEnvs(long),
		withOn(slices.Repeat([]string{"a"}, n)...), withIns(slices.Repeat([]string{"a"}, n)...), withEnvs(slices.Repeat([]string{"a"}, n)...),
	} {
		if impl.RulesOk([]impl.Rule{r}) {
			t.Error("a great rule is right")
		}
		v := impl.RuleVal(r)
		if !alike(v, othersRuleVal(r)) {
			t.Error("the Val of a great rule")
		}
		noRule(t, r.Task, v)
	}
}

// anyRule is often right, and often wrong in one thing alone.
func anyRule(r *rand.Rand) impl.Rule {
	some := func(most int, right func() string, wrong []string) []string {
		n := r.Intn(most + 1)
		if r.Intn(20) == 0 {
			n = most + 1 + r.Intn(2)
		}
		var out []string
		for range n {
			s := right()
			if r.Intn(40) == 0 {
				s = wrong[r.Intn(len(wrong))]
			}
			out = append(out, s)
		}
		return out
	}
	name := func() string { return anyName(r) }
	on := func() string {
		return []string{name(), "^" + name(), name() + "#" + name()}[r.Intn(3)]
	}
	out := impl.Rule{Task: name(), On: some(mostOns, on, []string{"", "^", "#", "a#", "#a", "^a#b", "^^a", "A"}), Ins: some(mostIns, func() string { return anyGlob(r) }, []string{"", "[", "/", "A"}), Envs: some(mostEnvs, name, noNames()), Keep: r.Intn(2) == 0}
	if r.Intn(20) == 0 {
		out.Task = noNames()[r.Intn(len(noNames()))]
	}
	return out
}

func TestManyRulesComeBack(t *testing.T) {
	r := rand.New(rand.NewSource(12))
	right := 0
	const tries = 20000
	for range tries {
		x := anyRule(r)
		ok := othersRuleOk(x)
		if ok {
			right++
		}
		ruleOrNot(t, x, ok)
		if t.Failed() {
			t.FailNow()
		}
	}
	if right < tries/10 || right > tries*9/10 {
		t.Errorf("of %d rules %d were right", tries, right)
	}
}
