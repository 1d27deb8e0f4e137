package tests

import (
	"maps"
	"math/rand"
	"slices"
	"strings"
	"testing"

	"loop.example/g00464/impl"
)

// workOf makes packs of texts as `a=b,c:build,test`: a name, its Uses, and its tasks.
func workOf(told string) []impl.Pack {
	var out []impl.Pack
	for _, s := range strings.Fields(told) {
		lean, tasks, _ := strings.Cut(s, ":")
		p := packsOf(lean)[0]
		if tasks != "" {
			for _, task := range strings.Split(tasks, ",") {
				p.Cmds = append(p.Cmds, cmd(task, "log "+task))
			}
		}
		out = append(out, p)
	}
	return out
}

// ruledOn makes rules of texts as `test=build,^test`: a task, and its On.
func ruledOn(told string) []impl.Rule {
	var out []impl.Rule
	for _, s := range strings.Fields(told) {
		task, on, _ := strings.Cut(s, "=")
		r := impl.Rule{Task: task}
		if on != "" {
			r.On = strings.Split(on, ",")
		}
		out = append(out, r)
	}
	return out
}

// onMeans asks of one text of On whether it means this task, waited for by one of pack.
func onMeans(l []impl.Pack, on, pack, other, task string) bool {
	if strings.HasPrefix(on, "^") {
		at := impl.FindPack(l, pack)
		return on == "^"+task && at >= 0 && slices.Contains(l[at].Uses, other)
	}
	return on == other+"#"+task || on == task && other == pack
}

// othersWaits goes through all tasks that there are, and asks of each whether it is waited for.
func othersWaits(l []impl.Pack, rules []impl.Rule, pack, task string) []string {
	m := map[string]bool{}
	rule, _ := firstRule(rules, task)
	for i, p := range l {
		for _, c := range p.Cmds {
			for _, on := range rule.On {
				if impl.FindPack(l, p.Name) == i && onMeans(l, on, pack, p.Name, c.Task) {
					m[p.Name+"#"+c.Task] = true
				}
			}
		}
	}
	delete(m, pack+"#"+task)
	return slices.Sorted(maps.Keys(m))
}

// waitsAre asks for WaitsFor of a task that is told as `a#build`; what is wanted is told with blanks between.
func waitsAre(t *testing.T, work, rules, of, want string) {
	t.Helper()
	pack, task, _ := strings.Cut(of, "#")
	l, on := workOf(work), ruledOn(rules)
	if got := impl.WaitsFor(l, on, pack, task); !slices.Equal(got, strings.Fields(want)) {
		t.Errorf("in %q by %q %s waits for %q, not for %s", work, rules, of, got, want)
	}
	if got := othersWaits(l, on, pack, task); !slices.Equal(got, strings.Fields(want)) {
		t.Errorf("the test's own: in %q by %q %s waits for %q, not for %s", work, rules, of, got, want)
	}
}

func TestWaitsForItsOwn(t *testing.T) {
	waitsAre(t, "a:build,test", "test=build", "a#test", "a#build")
	waitsAre(t, "a:build,lint,test", "test=build,lint", "a#test", "a#build a#lint")
	waitsAre(t, "a=b:build,test b:build,test", "test=build", "a#test", "a#build")
	waitsAre(t, "a:build,test b:build,test", "build=test test=build", "b#build", "b#test")
	// Those of its own that there are not, though others have them.
	waitsAre(t, "a:test", "test=build", "a#test", "")
	waitsAre(t, "a=b:test b:build c:build", "test=build", "a#test", "")
	waitsAre(t, "a:lint,test", "test=build,lint,q", "a#test", "a#lint")
	// A pack that has the task's name, and a task that has the pack's.
	waitsAre(t, "build:x a:test", "test=build", "a#test", "")
	waitsAre(t, "a:a,test", "test=a", "a#test", "a#a")
}

func TestWaitsForThoseOfItsUses(t *testing.T) {
	waitsAre(t, "a=b:build b:build", "build=^build", "a#build", "b#build")
	waitsAre(t, "a=b,c:build b:build c:build", "build=^build", "a#build", "b#build c#build")
	waitsAre(t, "a=b,c,d,e:test b:x c:x d:x e:x", "test=^x", "a#test", "b#x c#x d#x e#x")
	// Some of the Uses have it, others have not.
	waitsAre(t, "a=b,c,d:build b:build c:test d:build", "build=^build", "a#build", "b#build d#build")
	waitsAre(t, "a=b,c:build b:test c", "build=^build", "a#build", "")
	// Its own is none of them, nor are those of packs that it does not use, or that use it.
	waitsAre(t, "a=b:build,test b:test c:build", "test=^build", "a#test", "")
	waitsAre(t, "a:build b=a:build c=b:build", "build=^build", "a#build", "")
	// Nor those that are used by what it uses.
	waitsAre(t, "a=b:build b=c:build c:build", "build=^build", "a#build", "b#build")
	waitsAre(t, "a=b:build b=c c:build", "build=^build", "a#build", "")
	// No Uses.
	waitsAre(t, "a:build", "build=^build", "a#build", "")
	waitsAre(t, "a:build,test b:build", "test=^build", "a#test", "")
}

func TestWaitsForThatOne(t *testing.T) {
	waitsAre(t, "a:build b:build", "build=b#build", "a#build", "b#build")
	waitsAre(t, "a:build b:test c:test", "build=c#test", "a#build", "c#test")
	waitsAre(t, "a=b:build b:build,gen c:gen", "build=c#gen,b#gen", "a#build", "b#gen c#gen")
	// One of its own.
	waitsAre(t, "a:build,test", "test=a#build", "a#test", "a#build")
	// The pack is not there, or has not the task.
	waitsAre(t, "a:build b:build", "build=q#build", "a#build", "")
	waitsAre(t, "a:build b:build", "build=b#test", "a#build", "")
	waitsAre(t, "a:build b", "build=b#build", "a#build", "")
	waitsAre(t, "a:build b:build", "build=q#build,b#q,b#build", "a#build", "b#build")
	// Each pack's task of this name waits for it, but itself.
	for _, of := range []string{"a#build", "b#build", "d#build"} {
		waitsAre(t, "a:build b=a:build c:build d=a,b:build", "build=c#build", of, "c#build")
	}
}

// TestWaitsNotForItself: whichever text of On means it.
func TestWaitsNotForItself(t *testing.T) {
	waitsAre(t, "a:build", "build=build", "a#build", "")
	waitsAre(t, "a:build", "build=a#build", "a#build", "")
	waitsAre(t, "a=a:build", "build=^build", "a#build", "")
	waitsAre(t, "a=a,b:build b:build", "build=build,^build,a#build,b#build", "a#build", "b#build")
	waitsAre(t, "a:build,test", "test=test,build", "a#test", "a#build")
	// Others of the same task, and others of the same pack, are not itself.
	waitsAre(t, "a:build b:build", "build=a#build", "b#build", "a#build")
	waitsAre(t, "a=a:build,test", "test=^build,^test", "a#test", "a#build")
	waitsAre(t, "a=b:build b=a:build", "build=^build", "a#build", "b#build")
	waitsAre(t, "a=b:build b=a:build", "build=^build", "b#build", "a#build")
}

func TestWaitsForOneTaskOnce(t *testing.T) {
	waitsAre(t, "a:build,test", "test=build,a#build", "a#test", "a#build")
	waitsAre(t, "a:build,test", "test=build,build,build", "a#test", "a#build")
	waitsAre(t, "a=b:build b:build", "build=^build,b#build", "a#build", "b#build")
	waitsAre(t, "a=b,c:build b:build c:build", "build=c#build,^build,c#build,^build", "a#build", "b#build c#build")
	waitsAre(t, "a=b,b,b:build b:build", "build=^build", "a#build", "b#build")
	waitsAre(t, "a=a:build,test", "test=build,^build,a#build", "a#test", "a#build")
}

// TestWaitsAscend: whatever the order of On, of Uses and of packs.
func TestWaitsAscend(t *testing.T) {
	eachOrder([]string{"lint", "^build", "d#gen", "a#gen"}, func(on []string) {
		waitsAre(t, "a=b,c:build,gen,lint,test b:build c:build d:gen", "test="+strings.Join(on, ","), "a#test", "a#gen a#lint b#build c#build d#gen")
	})
	eachOrder([]string{"b", "c", "d", "e"}, func(uses []string) {
		waitsAre(t, "a="+strings.Join(uses, ",")+":build b:build c:build d:build e:build", "build=^build", "a#build", "b#build c#build d#build e#build")
	})
	eachOrder([]string{"a=b,c:build", "b:build", "c:build", "d:build"}, func(work []string) {
		waitsAre(t, strings.Join(work, " "), "build=^build,d#build", "a#build", "b#build c#build d#build")
	})
	// Texts ascend, not names: `#` is less than each byte of a name.
	waitsAre(t, "a=a-,a0,aa:x,x-,xx a-:x a0:x aa:x z:y", "y=aa#x,a0#x,a-#x,a#xx", "z#y", "a#xx a-#x a0#x aa#x")
	waitsAre(t, "a:x,x-,x0,xx z:y", "y=a#xx,a#x0,a#x-,a#x", "z#y", "a#x a#x- a#x0 a#xx")
}

func TestWaitsOfAllForms(t *testing.T) {
	const work = "a:build,test b=a:build,gen,test c=a,b:build,test d:build,gen"
	const rules = "build=^build,gen test=build,^test,d#gen"
	for of, want := range map[string]string{
		"a#build": "",
		"a#test":  "a#build d#gen",
		"b#build": "a#build b#gen",
		"b#gen":   "",
		"b#test":  "a#test b#build d#gen",
		"c#build": "a#build b#build",
		"c#test":  "a#test b#test c#build d#gen",
		"d#build": "d#gen",
		"d#gen":   "",
	} {
		waitsAre(t, work, rules, of, want)
	}
}

func TestWaitsWithoutARule(t *testing.T) {
	const work = "a=b:build,test b:build,test"
	for _, rules := range []string{"", "test=build,^build", "b=^build", "buil=^build builds=^build", "build", "build= test=^test"} {
		waitsAre(t, work, rules, "a#build", "")
	}
	if got := impl.WaitsFor(workOf(work), []impl.Rule{}, "a", "build"); len(got) != 0 {
		t.Errorf("by no rules it waits for %q", got)
	}
	// What a rule tells beside its On is not looked at.
	r := fullRule()
	r.On = nil
	if got := impl.WaitsFor(workOf("test=a:test,mode a:test,mode"), []impl.Rule{r}, "test", "test"); len(got) != 0 {
		t.Errorf("by a rule without On it waits for %q", got)
	}
}

// TestWaitsOfWhatIsNone: the rule is told all the same, but nothing is a pack's own, or of its Uses, where there is no pack.
func TestWaitsOfWhatIsNone(t *testing.T) {
	waitsAre(t, "", "build=build,^build,a#build", "a#build", "")
	waitsAre(t, "b:build", "build=build,^build", "a#build", "")
	waitsAre(t, "b:build", "build=build,^build,b#build", "a#build", "b#build")
	// The pack has not this task.
	waitsAre(t, "a=b:test b:build", "build=^build,test", "a#build", "a#test b#build")
	waitsAre(t, "a=b b:build", "build=build,^build", "a#build", "b#build")
	waitsAre(t, "a=b b:build", "test=build,^build", "a#build", "")
	// Texts that are no names.
	waitsAre(t, "a:build b:build", "build=b#build", "#", "")
	waitsAre(t, "a:build b:build", "build=b#build", "#build", "b#build")
	waitsAre(t, "a:build b:build", "build=b#build", "a#", "")
	waitsAre(t, "a:build b:build", "build=b#build", "A#BUILD", "")
}

func TestWaitsOfUsesThatAreNone(t *testing.T) {
	waitsAre(t, "a=q:build", "build=^build", "a#build", "")
	waitsAre(t, "a=b,q,x:build b:build", "build=^build", "a#build", "b#build")
	waitsAre(t, "a=q:build,test b:build", "build=^build,^test,q#build,b#build", "a#build", "b#build")
}

// TestWaitsOfTwoOfOneName: of packs, and of rules, the first counts.
func TestWaitsOfTwoOfOneName(t *testing.T) {
	waitsAre(t, "a=b:build a=c:build b:build c:build", "build=^build", "a#build", "b#build")
	waitsAre(t, "a=c:build a=b:build b:build c:build", "build=^build", "a#build", "c#build")
	waitsAre(t, "a:build b:gen b:build", "build=b#gen,b#build", "a#build", "b#gen")
	waitsAre(t, "a=b:build b b:build", "build=^build", "a#build", "")
	waitsAre(t, "a:test a:build", "test=build", "a#test", "")
	waitsAre(t, "a:build,build,test,test", "test=build,test", "a#test", "a#build")
	waitsAre(t, "a:build,gen b:build", "build=gen build=b#build", "a#build", "a#gen")
	waitsAre(t, "a:build,gen b:build", "build build=b#build", "a#build", "")
}

// TestWaitsByRulesThatAreWrong: what is none of the forms means nothing.
func TestWaitsByRulesThatAreWrong(t *testing.T) {
	for _, on := range []string{"^", "^^build", "^a#build", "^b#build", "#build", "b#", "#", "##", "b##build", "b#build#", "b#build#x", "b#^build", "B#build", "b #build", " build", "build ", "*", "b/build", "^ build", "^*"} {
		l := workOf("a=b:build,test b:build")
		if got := impl.WaitsFor(l, []impl.Rule{{Task: "test", On: []string{on}}}, "a", "test"); len(got) != 0 {
			t.Errorf("by %q it waits for %q", on, got)
		}
		if got := impl.WaitsFor(l, []impl.Rule{{Task: "test", On: []string{on, "^build", on}}}, "a", "test"); !slices.Equal(got, []string{"b#build"}) {
			t.Errorf("by %q and another one it waits for %q", on, got)
		}
	}
	// More texts of On than there may be.
	waitsAre(t, "a:t,u,v,w,x,y,z", "t=z,y,x,w,v,u", "a#t", "a#u a#v a#w a#x a#y a#z")
	// Rules that do not ascend, and more of them than there may be.
	waitsAre(t, "a:t,u", "z y x w v t=u", "a#t", "a#u")
	// The zero ones.
	for _, rules := range [][]impl.Rule{{{}}, {{On: []string{""}}}, {{On: []string{"", "^", "#"}}}} {
		if got := impl.WaitsFor([]impl.Pack{{}}, rules, "", ""); len(got) != 0 {
			t.Errorf("of zero ones it waits for %q", got)
		}
	}
}

func TestGreatWaits(t *testing.T) {
	const n = 100000
	names := manyNames(n)
	l := manyPacks(names, func(i int) []string {
		if i == 0 {
			return names
		}
		return nil
	})
	var want []string
	for i := range l {
		l[i].Cmds = []impl.Cmd{cmd("build", "x")}
		want = append(want, names[i]+"#build")
	}
	rule := []impl.Rule{{Task: "build", On: slices.Repeat([]string{"^build", "build"}, n)}}
	if got := impl.WaitsFor(l, rule, names[0], "build"); !slices.Equal(got, want[1:]) {
		t.Errorf("it waits for %d", len(got))
	}
	rule[0].On = want
	if got := impl.WaitsFor(l, rule, names[1], "build"); !slices.Equal(got, slices.Delete(slices.Clone(want), 1, 2)) {
		t.Errorf("told one by one it waits for %d", len(got))
	}
}

// anyWork has up to 6 right packs, each of some of few tasks, that use some of those ahead, or any.
func anyWork(r *rand.Rand) []impl.Pack {
	ring, n := r.Intn(2) == 0, min(mostPacks, r.Intn(2*mostPacks))
	l := make([]impl.Pack, n)
	for i := range l {
		l[i].Name = oneByte('a' + i)
		for k := range n {
			if k != i && (k < i || ring) && len(l[i].Uses) < mostUses && r.Intn(2) == 0 {
				l[i].Uses = append(l[i].Uses, oneByte('a'+k))
			}
		}
		for _, task := range []string{"t", "u", "v", "w"} {
			if r.Intn(4) > 0 {
				l[i].Cmds = append(l[i].Cmds, cmd(task, "log "+task))
			}
		}
	}
	return l
}

// anyRulesOn are right ones of few tasks.
func anyRulesOn(r *rand.Rand) []impl.Rule {
	var out []impl.Rule
	for _, task := range []string{"t", "u", "v", "w", "x"} {
		if r.Intn(6) == 0 {
			continue
		}
		rule := impl.Rule{Task: task, Keep: r.Intn(2) == 0}
		for range r.Intn(mostOns + 1) {
			on := []string{"t", "u", "v", "w", "x"}[r.Intn(5)]
			switch r.Intn(3) {
			case 0:
				on = "^" + on
			case 1:
				on = oneByte('a'+r.Intn(7)) + "#" + on
			}
			rule.On = append(rule.On, on)
		}
		out = append(out, rule)
	}
	return out
}

func TestManyWaits(t *testing.T) {
	r := rand.New(rand.NewSource(1301))
	long := map[int]int{}
	for range 4000 {
		l, rules := anyWork(r), anyRulesOn(r)
		for _, pack := range []string{"a", "b", "c", "d", "e", "f", "g"} {
			for _, task := range []string{"t", "u", "v", "w", "x"} {
				got, want := impl.WaitsFor(l, rules, pack, task), othersWaits(l, rules, pack, task)
				if !slices.Equal(got, want) {
					t.Fatalf("in %v by %v %s#%s waits for %q, not for %q", l, rules, pack, task, got, want)
				}
				long[len(got)]++
			}
		}
	}
	for n := range 5 {
		if long[n] < 300 {
			t.Errorf("waits by how many there are: %v", long)
		}
	}
}
