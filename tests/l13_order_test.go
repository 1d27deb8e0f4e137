package tests

import (
	"math/rand"
	"slices"
	"strings"
	"testing"

	"loop.example/g00464/impl"
)

// taskRingIs asks for TaskRing of a plan told as of planTold; what is wanted is told with blanks between.
func taskRingIs(t *testing.T, told, want string) {
	t.Helper()
	taskRingOf(t, planTold(told), strings.Fields(want))
}

func taskRingOf(t *testing.T, p impl.Plan, want []string) {
	t.Helper()
	if got := impl.TaskRing(p); !slices.Equal(got, want) {
		t.Errorf("the ring of %q is %q, not %q", p, got, want)
	}
	if got := othersRing(asPacks(p)); !slices.Equal(got, want) {
		t.Errorf("the test's own ring of %q is %q, not %q", p, got, want)
	}
}

// othersTaskOrder takes again and again the first of Tasks whose Deps, as far as they are Tasks, are taken.
func othersTaskOrder(p impl.Plan) ([]string, bool) {
	l := asPacks(p)
	var out []string
	for range l {
		next := slices.IndexFunc(l, func(task impl.Pack) bool {
			waits := slices.ContainsFunc(task.Uses, func(dep string) bool {
				return slices.Contains(p.Tasks, dep) && !slices.Contains(out, dep)
			})
			return !waits && !slices.Contains(out, task.Name)
		})
		if next < 0 {
			return nil, false
		}
		out = append(out, l[next].Name)
	}
	return out, true
}

func taskOrderIs(t *testing.T, told, want string) {
	t.Helper()
	taskOrderOf(t, planTold(told), strings.Fields(want), true)
}

func noTaskOrder(t *testing.T, told string) {
	t.Helper()
	taskOrderOf(t, planTold(told), nil, false)
}

func taskOrderOf(t *testing.T, p impl.Plan, want []string, ok bool) {
	t.Helper()
	if got, is := impl.TaskOrder(p); is != ok || !slices.Equal(got, want) {
		t.Errorf("the order of %q is %q, %v, not %q, %v", p, got, is, want, ok)
	}
	if got, is := othersTaskOrder(p); is != ok || !slices.Equal(got, want) {
		t.Errorf("the test's own order of %q is %q, %v, not %q, %v", p, got, is, want, ok)
	}
}

func TestNoTaskRing(t *testing.T) {
	for _, told := range []string{
		"", "a#b", "a#b b#b", "a#b b#b=a#b", "a#b=b#b b#b", "a#b b#b=a#b c#b=b#b", "a#b=b#b,c#b b#b=c#b c#b", "a#x a#y=a#x b#x=a#x b#y=a#y,b#x", "a#b=q#b", "a#b=b#a b#b=a#a",
		// Of wrong plans, too.
		"a#b a#b", "a#b=b#b a#b b#b", "b=a a", "a=q,q",
	} {
		taskRingIs(t, told, "")
	}
	taskRingOf(t, impl.Plan{}, nil)
	taskRingOf(t, impl.Plan{Tasks: []string{}, Deps: [][]string{}}, nil)
}

func TestTaskRingOfOne(t *testing.T) {
	taskRingIs(t, "a#b=a#b", "a#b")
	taskRingIs(t, "a#b b#b=b#b c#b", "b#b")
	taskRingIs(t, "a#b=b#b b#b=b#b", "b#b")
	taskRingIs(t, "a#b b#b=a#b,b#b,c#b c#b", "b#b")
	taskRingIs(t, "a#b=a#b,b#b b#b=a#b", "a#b")
	taskRingIs(t, "a#b=b#b b#b=a#b,b#b", "a#b b#b")
}

func TestTaskRingOfTwo(t *testing.T) {
	taskRingIs(t, "a#b=b#b b#b=a#b", "a#b b#b")
	taskRingIs(t, "a#x=a#y a#y=a#x", "a#x a#y")
	taskRingIs(t, "a#b b#b=c#b c#b=b#b", "b#b c#b")
	taskRingIs(t, "a#b=c#b b#b c#b=a#b,b#b", "a#b c#b")
}

func TestTaskRingOfThree(t *testing.T) {
	taskRingIs(t, "a#b=b#b b#b=c#b c#b=a#b", "a#b b#b c#b")
	taskRingIs(t, "a#b=c#b b#b=a#b c#b=b#b", "a#b c#b b#b")
	taskRingIs(t, "a#b b#b=d#b c#b=b#b d#b=c#b", "b#b d#b c#b")
	taskRingIs(t, "a#x=b#y b#y=c#z c#z=a#x", "a#x b#y c#z")
	// A short cut, by the first way that is that short.
	taskRingIs(t, "a#b=b#b,c#b b#b=c#b c#b=a#b", "a#b c#b")
	taskRingIs(t, "a#b=b#b,c#b b#b=d#b c#b=d#b d#b=a#b", "a#b b#b d#b")
	taskRingIs(t, "a#b=c#b,b#b b#b=d#b c#b=d#b d#b=a#b", "a#b c#b d#b")
}

// TestTaskRingThatOneOnlyLeadsTo: who leads to it is not in it, though it be the first.
func TestTaskRingThatOneOnlyLeadsTo(t *testing.T) {
	taskRingIs(t, "a#b=b#b b#b=c#b c#b=b#b", "b#b c#b")
	taskRingIs(t, "a#b=c#b b#b=a#b c#b=d#b d#b=c#b", "c#b d#b")
	taskRingIs(t, "a#b=c#b b#b=c#b c#b=b#b", "b#b c#b")
	taskRingIs(t, "a#b=b#b b#b=c#b c#b=d#b d#b=d#b", "d#b")
	taskRingIs(t, "a#b b#b=a#b,c#b c#b=b#b", "b#b c#b")
}

func TestTwoTaskRings(t *testing.T) {
	taskRingIs(t, "a#b=b#b b#b=a#b c#b=d#b d#b=c#b", "a#b b#b")
	taskRingIs(t, "a#b=c#b b#b=d#b c#b=a#b d#b=b#b", "a#b c#b")
	taskRingIs(t, "a#b=b#b b#b=c#b c#b=a#b d#b=d#b", "a#b b#b c#b")
	taskRingIs(t, "a#b=d#b b#b=b#b c#b=d#b d#b=a#b", "a#b d#b")
	taskRingIs(t, "a#b=c#b b#b=c#b c#b=a#b,b#b", "a#b c#b")
	// In the order of Tasks, be they ascending or not.
	taskRingIs(t, "c#b=d#b d#b=c#b a#b=b#b b#b=a#b", "c#b d#b")
	taskRingIs(t, "b#b=a#b a#b=b#b", "b#b a#b")
}

func TestTaskOrderOfNone(t *testing.T) {
	taskOrderIs(t, "", "")
	taskOrderOf(t, impl.Plan{}, nil, true)
	taskOrderOf(t, impl.Plan{Tasks: []string{}, Deps: [][]string{}}, nil, true)
	taskOrderOf(t, impl.Plan{Deps: [][]string{{"a#b"}}}, nil, true)
}

func TestTaskOrderOfChains(t *testing.T) {
	taskOrderIs(t, "a#b", "a#b")
	taskOrderIs(t, "a#b b#b=a#b c#b=b#b", "a#b b#b c#b")
	taskOrderIs(t, "a#b=b#b b#b=c#b c#b", "c#b b#b a#b")
	taskOrderIs(t, "a#b=c#b b#b c#b=b#b", "b#b c#b a#b")
	taskOrderIs(t, "a#x=a#y a#y=b#x b#x=b#y b#y", "b#y b#x a#y a#x")
	// Each task waits for nothing.
	taskOrderIs(t, "a#b b#b c#b", "a#b b#b c#b")
	taskOrderIs(t, "c#b a#b b#b", "c#b a#b b#b")
}

func TestTaskOrderOfWhatWaitsForTwo(t *testing.T) {
	taskOrderIs(t, "a#b b#b c#b=a#b,b#b", "a#b b#b c#b")
	taskOrderIs(t, "a#b=b#b,c#b b#b c#b", "b#b c#b a#b")
	taskOrderIs(t, "a#b=b#b,c#b b#b=c#b c#b", "c#b b#b a#b")
	taskOrderIs(t, "a#b=b#b,d#b b#b c#b d#b e#b", "b#b c#b d#b a#b e#b")
	taskOrderIs(t, "a#b=d#b b#b=d#b c#b=a#b,b#b d#b", "d#b a#b b#b c#b")
	// Always the first that can be next, also where it has just become so.
	taskOrderIs(t, "a#b=c#b b#b c#b d#b", "b#b c#b a#b d#b")
	taskOrderIs(t, "a#b=e#b b#b=d#b c#b d#b e#b f#b", "c#b d#b b#b e#b a#b f#b")
	taskOrderIs(t, "a#b=b#b b#b=e#b c#b d#b e#b f#b", "c#b d#b e#b b#b a#b f#b")
}

func TestNoTaskOrderInARing(t *testing.T) {
	for _, told := range []string{
		"a#b=a#b", "a#b=a#b b#b", "a#b=b#b b#b=a#b", "a#b b#b=c#b c#b=b#b", "a#b=b#b b#b=c#b c#b=a#b", "a#b=b#b b#b=c#b c#b=b#b", "a#b b#b=a#b,b#b c#b=b#b", "a#b=b#b b#b=a#b c#b=d#b d#b=c#b", "a#b b#b c#b d#b e#b=e#b",
	} {
		noTaskOrder(t, told)
	}
}

// TestTaskOrderOfWrongPlans: a Dep that is no task of it does not count, and there is no order of two of one text.
func TestTaskOrderOfWrongPlans(t *testing.T) {
	taskOrderIs(t, "a#b=q#b b#b", "a#b b#b")
	taskOrderIs(t, "a#b=b#b,q#b,x b#b=A", "b#b a#b")
	taskOrderIs(t, "a#b=b#b,b#b b#b", "b#b a#b")
	taskOrderIs(t, "x y=x A= 0=y", "x y A 0")
	noTaskOrder(t, "a#b a#b")
	noTaskOrder(t, "a#b b#b a#b")
	noTaskOrder(t, "a#b=b#b a#b b#b")
	noTaskOrder(t, "a#b=q a#b=q")
	taskOrderOf(t, impl.Plan{Tasks: []string{""}}, []string{""}, true)
	taskOrderOf(t, impl.Plan{Tasks: []string{"", ""}}, nil, false)
	taskOrderOf(t, impl.Plan{Tasks: []string{""}, Deps: [][]string{{""}}}, nil, false)
	taskRingIs(t, "a a=a", "a")
	taskRingIs(t, "a=b a=c b c=a", "a c")
}

// TestPlansWithMoreOrFewerDeps: what is missing is empty, what is too many is not looked at.
func TestPlansWithMoreOrFewerDeps(t *testing.T) {
	ring := planTold("a#b=b#b b#b=c#b c#b=a#b")
	taskRingOf(t, ring, []string{"a#b", "b#b", "c#b"})
	taskOrderOf(t, ring, nil, false)
	for n, want := range []string{"a#b b#b c#b", "b#b a#b c#b", "c#b b#b a#b"} {
		fewer := impl.Plan{Tasks: ring.Tasks, Deps: ring.Deps[:n]}
		taskRingOf(t, fewer, nil)
		taskOrderOf(t, fewer, strings.Fields(want), true)
	}
	more := planTold("a#b b#b=a#b")
	more.Deps = append(more.Deps, []string{"a#b", "b#b", "c#b"}, []string{"c#b"})
	taskRingOf(t, more, nil)
	taskOrderOf(t, more, []string{"a#b", "b#b"}, true)
	taskRingOf(t, impl.Plan{Deps: [][]string{{"a#b"}, {""}}}, nil)
}

// TestTasksOfAnyBytes: TaskRing and TaskOrder ask not whether they are tasks.
func TestTasksOfAnyBytes(t *testing.T) {
	long := strings.Repeat("x", 100000)
	p := impl.Plan{Tasks: []string{"", "\xff", long}, Deps: [][]string{{"\xff", long + "y"}, {long}, {" "}}}
	taskRingOf(t, p, nil)
	taskOrderOf(t, p, []string{long, "\xff", ""}, true)
	p.Deps[2] = []string{"", ""}
	taskRingOf(t, p, []string{"", "\xff", long})
	taskOrderOf(t, p, nil, false)
}

// taskAnswersAsOthers holds both against the test's own, and against those of packs that lean like it.
func taskAnswersAsOthers(t *testing.T, p impl.Plan) (ring []string, ok bool) {
	t.Helper()
	l := asPacks(p)
	ring = impl.TaskRing(p)
	if want := impl.Ring(l); !slices.Equal(ring, want) || len(ring) > 0 && !isRing(l, ring) {
		t.Fatalf("the ring of %q is %q, not %q", p, ring, want)
	}
	want, is := othersTaskOrder(p)
	taskOrderOf(t, p, want, is)
	if order, ok := impl.Order(l); ok != is || !slices.Equal(order, want) {
		t.Fatalf("the order of packs that lean like %q is %q, %v", p, order, ok)
	}
	if t.Failed() {
		t.FailNow()
	}
	return ring, is
}

func TestAllPlansOfFewTasks(t *testing.T) {
	ask := func(l []impl.Pack) {
		p := planOfPacks(l)
		taskRingOf(t, p, othersRing(l))
		taskAnswersAsOthers(t, p)
	}
	for _, tasks := range [][]string{{"a#b"}, {"a#b", "b#b"}, {"a#b", "b#b", "c#b"}, {"b#b", "a#b", "b#b"}} {
		eachLeaning(tasks, []string{"a#b", "b#b", "c#b"}, ask)
		eachLeaning(tasks, []string{"c#b", "q#b", "a#b"}, ask)
	}
}

// anyPlanToOrder has up to 16 tasks, half of them with a ring, to which others lead, or which leads to others.
func anyPlanToOrder(r *rand.Rand) impl.Plan {
	n := r.Intn(mostTasks + 1)
	p := impl.Plan{Tasks: numberedPlan(n).Tasks, Deps: make([][]string, n)}
	waits := func(i, k int) {
		if !slices.Contains(p.Deps[i], p.Tasks[k]) {
			p.Deps[i] = append(p.Deps[i], p.Tasks[k])
		}
	}
	at := r.Perm(n)
	for i := range n {
		for k := range i {
			if r.Intn(n) < 2 {
				waits(at[i], at[k])
			}
		}
	}
	if n > 0 && r.Intn(2) == 0 {
		in := at[:1+r.Intn(min(n, 6))]
		for i := range in {
			waits(in[i], in[(i+1)%len(in)])
		}
	}
	for _, deps := range p.Deps {
		slices.Sort(deps)
	}
	return p
}

func TestManyPlansInOrder(t *testing.T) {
	r := rand.New(rand.NewSource(1304))
	right, long := 0, map[int]int{}
	const tries = 8000
	for range tries {
		p := anyPlanToOrder(r)
		if !impl.PlanOk(p) {
			t.Fatalf("%q is not right", p)
		}
		ring, ok := taskAnswersAsOthers(t, p)
		if ok == (len(ring) > 0) {
			t.Fatalf("of %q there is an order: %v, the ring is %q", p, ok, ring)
		}
		if ok {
			right++
		}
		long[len(ring)]++
	}
	if right < tries/5 || right > tries*4/5 || long[1] < 100 || long[2] < 100 || long[3] < 100 || long[4] < 100 {
		t.Errorf("of %d plans %d had an order; rings by their length: %v", tries, right, long)
	}
}

func TestGreatPlansInOrder(t *testing.T) {
	const n = 200000
	p := impl.Plan{Tasks: manyNames(n), Deps: make([][]string, n)}
	for i := range n - 1 {
		p.Deps[i] = p.Tasks[i+1 : i+2]
	}
	back := slices.Clone(p.Tasks)
	slices.Reverse(back)
	if got, ok := impl.TaskOrder(p); !ok || !slices.Equal(got, back) || len(impl.TaskRing(p)) != 0 {
		t.Errorf("the order of a chain: %v", ok)
	}
	p.Deps[n-1] = p.Tasks[n/2 : n/2+1]
	if got := impl.TaskRing(p); !slices.Equal(got, p.Tasks[n/2:]) {
		t.Errorf("the ring of a chain that leads back has %d", len(got))
	}
	if got, ok := impl.TaskOrder(p); ok || len(got) != 0 {
		t.Errorf("there is an order of a chain that leads back")
	}
}
