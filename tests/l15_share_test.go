package tests

import (
	"slices"
	"testing"

	"loop.example/g00464/impl"
)

// An actAsk is what Act and Make are asked of.
type actAsk struct {
	j impl.Job
	m impl.Made
	s string
}

// An actAnswer is what they and ActOk answer.
type actAnswer struct {
	actOk, did, could bool
	done, made        impl.Made
}

func answerOfActs(a actAsk) actAnswer {
	var x actAnswer
	x.actOk = impl.ActOk(a.s)
	x.done, x.did = impl.Act(a.j, a.m, a.s)
	x.made, x.could = impl.Make(a.j)
	return x
}

func actAnswersAlike(a, b actAnswer) bool {
	return a.actOk == b.actOk && a.did == b.did && a.could == b.could && madesAlike(a.done, b.done) && madesAlike(a.made, b.made)
}

func cloneMade(m impl.Made) impl.Made {
	m.Outs = slices.Clone(m.Outs)
	return m
}

func cloneJob(j impl.Job) impl.Job {
	j.Acts, j.Ins, j.Envs, j.Deps = slices.Clone(j.Acts), slices.Clone(j.Ins), slices.Clone(j.Envs), slices.Clone(j.Deps)
	for i, m := range j.Deps {
		j.Deps[i] = cloneMade(m)
	}
	return j
}

func jobsAlike(a, b impl.Job) bool {
	return a.Name == b.Name && slices.Equal(a.Acts, b.Acts) && filesAlike(a.Ins, b.Ins) && slices.Equal(a.Envs, b.Envs) && slices.EqualFunc(a.Deps, b.Deps, madesAlike)
}

func asksOfActsAlike(a, b actAsk) bool {
	return jobsAlike(a.j, b.j) && madesAlike(a.m, b.m) && a.s == b.s
}

func madeWithRoom(m impl.Made) impl.Made {
	m.Outs = slices.Clone(m.Outs[:cap(m.Outs)])
	return m
}

// actAskWithRoom has all of a, its spare room as if it were a part of it.
func actAskWithRoom(a actAsk) actAsk {
	j := a.j
	j.Acts, j.Ins, j.Envs = slices.Clone(j.Acts[:cap(j.Acts)]), slices.Clone(j.Ins[:cap(j.Ins)]), slices.Clone(j.Envs[:cap(j.Envs)])
	j.Deps = slices.Clone(j.Deps[:cap(j.Deps)])
	for i, m := range j.Deps {
		j.Deps[i] = madeWithRoom(m)
	}
	return actAsk{j, madeWithRoom(a.m), a.s}
}

func looseMade(m impl.Made) (impl.Made, func()) {
	task, turnTask := looseText(m.Task)
	outs, turnOuts := looseFiles(m.Outs)
	log, turnLog := looseText(m.Log)
	return impl.Made{Task: task, Outs: outs, Log: log}, func() {
		turnTask()
		turnOuts()
		turnLog()
	}
}

// looseActs has l over memory that can be turned; behind it stands an act that could be done.
func looseActs(l []string) ([]string, func()) {
	texts, turn := looseList(l)
	out := slices.Repeat([]string{"put spare > spare"}, len(l)+3)
	copy(out, texts)
	return out[:len(l)], turn
}

func looseEnvs(l []impl.Env) ([]impl.Env, func()) {
	out := slices.Repeat([]impl.Env{{Name: "spare", Val: "room"}}, len(l)+3)
	var turns []func()
	for i, e := range l {
		name, turnName := looseText(e.Name)
		val, turnVal := looseText(e.Val)
		out[i] = impl.Env{Name: name, Val: val}
		turns = append(turns, turnName, turnVal)
	}
	return out[:len(l)], func() {
		for _, turn := range turns {
			turn()
		}
		clear(out)
	}
}

func looseMades(l []impl.Made) ([]impl.Made, func()) {
	out := slices.Repeat([]impl.Made{{Task: "spare#x", Outs: filesOf("o=spare")}}, len(l)+3)
	var turns []func()
	for i, m := range l {
		loose, turn := looseMade(m)
		out[i] = loose
		turns = append(turns, turn)
	}
	return out[:len(l)], func() {
		for _, turn := range turns {
			turn()
		}
		clear(out)
	}
}

// looseActAsk has a over memory that can be turned, and spare room behind its lists, with what would be found there.
func looseActAsk(a actAsk) (actAsk, func()) {
	var turns []func()
	turned := func(turn func()) { turns = append(turns, turn) }
	var out actAsk
	var turn func()
	out.j.Name, turn = looseText(a.j.Name)
	turned(turn)
	out.j.Acts, turn = looseActs(a.j.Acts)
	turned(turn)
	out.j.Ins, turn = looseFiles(a.j.Ins)
	turned(turn)
	out.j.Envs, turn = looseEnvs(a.j.Envs)
	turned(turn)
	out.j.Deps, turn = looseMades(a.j.Deps)
	turned(turn)
	out.m, turn = looseMade(a.m)
	turned(turn)
	out.s, turn = looseText(a.s)
	turned(turn)
	return out, func() {
		for _, turn := range turns {
			turn()
		}
	}
}

// actsToShare are right ones and wrong ones; those of `spare` would find what lies behind the lists.
func actsToShare() []string {
	return []string{"put a > o", "put a b > p", "put new > o", "cat a/x > o", "cat c > z", "cat a/x a/y c > o", "cat b/z > o", "env mode > o", "env way > a", "use a#build o > o", "use a#build p > q", "use c#build r > r", "log x", "log x y z", "fail", "", "what", "cat none > o", "cat spare > o", "cat a/x spare > o", "env spare > o", "use spare#x o > o", "use a#build spare > o", "put spare > spare", "put  a > o"}
}

func actAsksToShare() []actAsk {
	var out []actAsk
	mades := []impl.Made{{}, madeTold("", "x\n"), madeTold("o=1", ""), madeTold("a=1;o=2;z=3", "x\ny\n"), madeTold("a=;b=;c=;d=;e=;o=", "x"), madeTold("a=;b=;c=;d=;e=;f=;o=", ""), madeTold("o=1;a=2", ""), madeTold("a=1;spare=2", "")}
	acts := actsToShare()
	for i, s := range acts {
		for k, m := range mades {
			j := jobToDo()
			j.Acts = []string{s, acts[(i+k)%len(acts)], acts[(i+3*k+1)%len(acts)]}[:1+k%3]
			out = append(out, actAsk{j, m, s})
		}
		out = append(out, actAsk{impl.Job{}, madeTold("o=1", "x\n"), s}, actAsk{impl.Job{Name: "a#b", Acts: []string{s}}, impl.Made{}, s})
	}
	return out
}

func TestJobsAreLeftAlone(t *testing.T) {
	for _, in := range actAsksToShare() {
		want := answerOfActs(actAsk{cloneJob(in.j), cloneMade(in.m), in.s})
		a, _ := looseActAsk(in)
		before := actAskWithRoom(a)
		got := answerOfActs(a)
		if !actAnswersAlike(got, want) {
			t.Errorf("what is made of %v hangs on the room behind: %v, not %v", in, got, want)
		}
		scribbleFiles(got.done.Outs)
		scribbleFiles(got.made.Outs)
		if !asksOfActsAlike(actAskWithRoom(a), before) || !asksOfActsAlike(a, in) {
			t.Errorf("%v, or the room behind, is written into", in)
		}
	}
}

func TestAnswersOfActsShareNothing(t *testing.T) {
	filled := map[bool]int{}
	for _, in := range actAsksToShare() {
		want := answerOfActs(actAsk{cloneJob(in.j), cloneMade(in.m), in.s})
		a, turn := looseActAsk(in)
		got, again := answerOfActs(a), answerOfActs(a)
		turn()
		if !actAnswersAlike(got, want) {
			t.Errorf("what is made of %v shares its memory: %v, not %v", in, got, want)
		}
		if len(got.done.Outs) > 0 {
			filled[got.did]++
		}
		scribbleFiles(got.done.Outs)
		if !filesAlike(got.made.Outs, want.made.Outs) {
			t.Errorf("what is made of %v lies over what is done: %v", in, got)
		}
		scribbleFiles(got.made.Outs)
		if !actAnswersAlike(again, want) || !actAnswersAlike(answerOfActs(in), want) {
			t.Errorf("two answers of %v lie over each other", in)
		}
	}
	if filled[true] < 60 || filled[false] < 60 {
		t.Errorf("so many were done, and so many refused, that held outs: %v", filled)
	}
}

// TestActsOneBehindTheOtherShareNothing: what was made ahead stays as it was when more is made of it.
func TestActsOneBehindTheOtherShareNothing(t *testing.T) {
	for _, first := range actsToShare() {
		for _, next := range actsToShare() {
			j := jobToDo()
			m, _ := impl.Act(j, madeTold("b=1;p=2", "x\n"), first)
			kept := cloneMade(m)
			a, _ := impl.Act(j, m, next)
			b, _ := impl.Act(j, m, next)
			scribbleFiles(a.Outs)
			if !madesAlike(m, kept) {
				t.Errorf("%q behind %q writes into what was made ahead: %v", next, first, m)
			}
			if want, _ := othersAct(j, kept, next); !madesAlike(b, want) {
				t.Errorf("%q twice behind %q lie over each other: %v", next, first, b)
			}
		}
	}
}

// TestJobsThatShareTheirLists: lists of one argument may lie over each other, and are told apart by their length.
func TestJobsThatShareTheirLists(t *testing.T) {
	all := filesOf("a=1 b=2 c=3 d=4")
	j := impl.Job{Name: "x#y", Acts: []string{"cat a b > o", "use p#q b > p", "use r#s a > a"}, Ins: all[:2], Deps: []impl.Made{{Task: "p#q", Outs: all[1:3]}, {Task: "r#s", Outs: all[:1]}}}
	m := impl.Made{Task: "x#y", Outs: all[:3]}
	if got, ok := impl.Make(j); !ok || !filesAlike(got.Outs, filesOf("a=1 o=12 p=2")) {
		t.Errorf("made is %v, %v", got, ok)
	}
	for s, want := range map[string]string{"put n > bb": "a=1 b=2 bb=n c=3", "put n > a": "a=n b=2 c=3", "put n > d": "a=1 b=2 c=3 d=n", "cat b > c": "a=1 b=2 c=2", "use p#q c > a": "a=3 b=2 c=3"} {
		if got, ok := actedAsOthers(t, j, m, s); !ok || !filesAlike(got.Outs, filesOf(want)) {
			t.Errorf("%q makes %v, %v", s, got, ok)
		}
	}
	for _, s := range []string{"cat c > o", "use p#q a > o", "use p#q d > o", "use r#s b > o"} {
		refused(t, j, m, s)
	}
	if !filesAlike(all, filesOf("a=1 b=2 c=3 d=4")) {
		t.Errorf("the list that is shared is written into: %v", all)
	}
}

// TestActsAreKeptNowhere: what was asked ahead does not count, whatever it was.
func TestActsAreKeptNowhere(t *testing.T) {
	asks := actAsksToShare()
	var first []actAnswer
	for _, a := range asks {
		first = append(first, answerOfActs(a))
	}
	for i := len(asks) - 1; i >= 0; i-- {
		if got := answerOfActs(asks[i]); !actAnswersAlike(got, first[i]) {
			t.Errorf("asked again of %v there is %v, not %v", asks[i], got, first[i])
		}
	}
}
