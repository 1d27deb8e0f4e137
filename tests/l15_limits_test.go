package tests

import (
	"slices"
	"strings"
	"testing"

	"loop.example/g00464/impl"
)

// wordsOfSize tells n bytes of words with blanks between: one long one, many short ones.
func wordsOfSize(n int) []string {
	out := []string{strings.Repeat("x", n)}
	if n >= 3 {
		out = append(out, "a "+strings.Repeat("x", n-2), strings.Repeat("x", n-2)+" >")
		if n%2 == 1 {
			out = append(out, strings.Repeat("a ", n/2)+"a")
		}
	}
	return out
}

// actsOfSize tells acts, with the Job that they want, whose text has n bytes.
func actsOfSize(n int) map[string]impl.Job {
	text := strings.Repeat("t", n)
	out := map[string]impl.Job{
		"cat a > o": {Ins: []impl.File{{Path: "a", Text: text}}}, "env a > o": {Envs: []impl.Env{{Name: "a", Val: text}}},
		"use a#b p > o":       {Deps: []impl.Made{{Task: "a#b", Outs: []impl.File{{Path: "p", Text: text}}}}},
		"cat a b > o":         {Ins: []impl.File{{Path: "a", Text: text[:n/2]}, {Path: "b", Text: text[n/2:]}}},
		"cat a b c > o":       {Ins: []impl.File{{Path: "a", Text: text[:n/3]}, {Path: "b", Text: text[n/3 : n/2]}, {Path: "c", Text: text[n/2:]}}},
		"cat none a none > o": {Ins: []impl.File{{Path: "a", Text: text}, {Path: "none"}}},
	}
	if n%2 == 0 {
		out["cat half half > o"] = impl.Job{Ins: []impl.File{{Path: "half", Text: text[:n/2]}}}
	}
	if n%3 == 0 {
		out["cat part part part > o"] = impl.Job{Ins: []impl.File{{Path: "part", Text: text[:n/3]}}}
	}
	for _, words := range wordsOfSize(n) {
		if n > 0 {
			out["put "+words+" > o"] = impl.Job{}
		}
	}
	return out
}

// TestTextsOfSixty: a Text that has 60 bytes is made, one of 61 is not, and what is there in its place stays.
func TestTextsOfSixty(t *testing.T) {
	for n := range 2*mostFileText + 5 {
		for s, j := range actsOfSize(n) {
			for _, outs := range []string{"", "o=old", "a=1;z=2", "a=1;o=old;z=2"} {
				m := madeTold(outs, "x\n")
				got, ok := actedAsOthers(t, j, m, s)
				if ok != (n <= mostFileText) {
					t.Errorf("%q of a Text of %d is %v", s, n, ok)
				}
				if text, there := firstOf(got.Outs, "o"); ok && (!there || len(text) != n) {
					t.Errorf("%q of a Text of %d makes one of %d", s, n, len(text))
				}
			}
		}
	}
}

// TestTextsOfSixtyInBytes: it is bytes that count, not signs.
func TestTextsOfSixtyInBytes(t *testing.T) {
	for _, z := range []struct {
		text string
		ok   bool
	}{{strings.Repeat("é", 30), true}, {strings.Repeat("é", 30) + "x", false}, {strings.Repeat("\x00", 60), true}, {strings.Repeat("\n", 61), false}, {strings.Repeat("\xff", 60), true}, {strings.Repeat("\xff", 61), false}} {
		j := impl.Job{Envs: []impl.Env{{Name: "a", Val: z.text}}, Ins: []impl.File{{Path: "a", Text: z.text}}}
		for _, s := range []string{"env a > o", "cat a > o", "put " + z.text + " > o"} {
			if got, ok := actedAsOthers(t, j, impl.Made{}, s); ok != z.ok {
				t.Errorf("%q makes %v, %v", s, got, ok)
			}
		}
	}
}

// TestSixOuts: a sixth one is made, a seventh is not; one that is there may be made anew where there are six.
func TestSixOuts(t *testing.T) {
	for n := range mostOuts + 1 {
		m := impl.Made{Task: "b#build", Log: "x\n"}
		for i := range n {
			m.Outs = append(m.Outs, impl.File{Path: "f" + oneByte('b'+2*i), Text: "old"})
		}
		for _, act := range []string{"put new", "cat c", "cat b/z b/z", "env mode", "env way", "use a#build o", "use a#build p"} {
			for i := range 2*n + 1 {
				out := "f" + oneByte('a'+i)
				got, ok := actedAsOthers(t, jobToDo(), m, act+" > "+out)
				is := i%2 == 1
				if ok != (is || n < mostOuts) {
					t.Errorf("%q into %q of %d outs is %v", act, out, n, ok)
				}
				more := 1
				if is || !ok {
					more = 0
				}
				if len(got.Outs) != n+more {
					t.Errorf("%q into %q of %d outs makes %d", act, out, n, len(got.Outs))
				}
				madePromised(t, got)
			}
		}
		if _, ok := actedAsOthers(t, jobToDo(), m, "log a"); !ok {
			t.Errorf("with %d outs there is no more to log", n)
		}
	}
}

// TestLogsOfTwoHundred: by what is there, and by what comes to it, the byte 10 counted.
func TestLogsOfTwoHundred(t *testing.T) {
	for there := range mostLog + 1 {
		m := madeTold("o=1", strings.Repeat("l", there))
		for more := 1; more < mostLog+3; more++ {
			for i, words := range wordsOfSize(more) {
				if i > 0 && there%10 > 0 || strings.HasPrefix(words, "> ") {
					continue
				}
				got, ok := impl.Act(impl.Job{}, m, "log "+words)
				if ok != (there+more+1 <= mostLog) {
					t.Errorf("of %d bytes and %d more the Log is %v", there, more, ok)
				}
				if want := m.Log + words + "\n"; ok && (got.Log != want || !filesAlike(got.Outs, m.Outs)) || !ok && !madesAlike(got, m) {
					t.Errorf("of %d bytes and %d more there is %v", there, more, got)
				}
			}
		}
	}
	refused(t, impl.Job{}, madeTold("o=1", ""), "log "+strings.Repeat("x", mostLog))
	refused(t, impl.Job{}, madeTold("o=1", strings.Repeat("l", mostLog)), "log x")
	refused(t, impl.Job{}, madeTold("o=1", strings.Repeat("l", mostLog-1)), "log x")
	refused(t, impl.Job{}, madeTold("", ""), "log "+strings.Repeat("é", mostLog/2))
	if got, ok := actedAsOthers(t, impl.Job{}, madeTold("", ""), "log "+strings.Repeat("é", mostLog/2-1)+"x"); !ok || len(got.Log) != mostLog {
		t.Errorf("of 199 bytes and the last one there is %v, %v", got, ok)
	}
	if got, ok := actedAsOthers(t, impl.Job{}, madeTold("o=1", strings.Repeat("l", mostLog-2)), "log x"); !ok || len(got.Log) != mostLog {
		t.Errorf("of 198 bytes and two more there is %v, %v", got, ok)
	}
	// What fills the Log does not hold up outs, nor do outs hold up the Log.
	full := madeTold("a=;b=;c=;d=;e=;f=", strings.Repeat("l", mostLog))
	if _, ok := actedAsOthers(t, jobToDo(), full, "put a > a"); !ok {
		t.Error("with a full Log there is no more to put")
	}
}

// wrongMades are what no task makes.
func wrongMades() []impl.Made {
	long := strings.Repeat("t", mostFileText+1)
	out := []impl.Made{
		madeTold("b=1;a=2", ""), madeTold("a=1;a=2", ""), madeTold("o=1;o=2", ""), madeTold("z=1;o=2;a=3", ""), madeTold("a=1;c=2;b=3", "x\n"),
		madeTold("=x", ""), madeTold("A=1", ""), madeTold("a=1;~=2", ""), madeTold("a=1;/=2", ""), madeTold("a/b=1", ""), madeTold("a/b=1;o=2;p/q/r/s=3", ""), madeTold("a/b/c/d/e=1", ""),
		madeTold("a="+long, ""), madeTold("o="+long, ""), madeTold("a=1;o="+long+";z=2", ""), madeTold("o=1;z="+long, ""),
		madeTold("o=1", strings.Repeat("l", mostLog+1)), madeTold("", strings.Repeat("l", 1000)), madeTold("", "\x00\xff"),
		{Outs: numbered(mostOuts + 1)}, {Outs: numbered(mostFiles)}, {Outs: numbered(mostFiles + 1)}, {Outs: numbered(200)},
		{Task: "no task", Outs: filesOf("o=1")}, {},
	}
	for n := mostOuts; n < mostOuts+4; n++ {
		m := madeTold("", "")
		for i := range n {
			m.Outs = append(m.Outs, impl.File{Path: "o" + oneByte('a'+i), Text: "x"})
		}
		out = append(out, m)
		m.Outs = append(slices.Clone(m.Outs), impl.File{Path: "z"})
		m.Outs = slices.Insert(m.Outs, 0, impl.File{Path: "o"})
		out = append(out, m)
	}
	return out
}

// TestActsOnWhatIsMadeWrong: an act looks at what it names alone: log at the Log, the others at the outs that there would be.
func TestActsOnWhatIsMadeWrong(t *testing.T) {
	acts := append(actsAlone(), "log a b", "put a > z", "put a > ~", "cat a/x a/y > o", "cat a/x > a", "cat none > o", "env mode > o", "env way > b", "use a#build o > o", "use b#build o > q", "what", "")
	done := 0
	for _, m := range wrongMades() {
		for _, s := range acts {
			if _, ok := actedAsOthers(t, jobToDo(), m, s); ok {
				done++
			}
		}
		if _, ok := impl.Act(jobToDo(), m, "log a"); ok != (len(m.Log)+2 <= mostLog) {
			t.Errorf("to %v %v is logged", m, ok)
		}
	}
	if done < 50 {
		t.Error("only", done, "were done")
	}
	// What is wrong in the place of an out goes with it.
	long := strings.Repeat("t", mostFileText+1)
	if got, ok := impl.Act(jobToDo(), madeTold("a=1;o="+long, ""), "put new > o"); !ok || !madesAlike(got, madeTold("a=1;o=new", "")) {
		t.Errorf("a Text that is too long is not made anew: %v, %v", got, ok)
	}
	refused(t, jobToDo(), madeTold("a="+long+";o=1", ""), "put new > o")
	refused(t, jobToDo(), madeTold("b=1;a=1", ""), "put new > a")
	refused(t, jobToDo(), madeTold("o=1;o=1", ""), "put new > o")
	// Of seven one that is there is not made anew: there would be seven still.
	refused(t, jobToDo(), madeTold("a=;b=;c=;d=;e=;f=;g=", ""), "put new > a")
}

// TestActsOfAWrongJob: of several as good the first is taken; what is not named is not looked at.
func TestActsOfAWrongJob(t *testing.T) {
	j := impl.Job{
		Name: "no task",
		Acts: []string{"what", "", "\x00"},
		Ins:  filesOf("z=last b=first b=second a=behind A=big a/b/c/d/e=deep"),
		Envs: []impl.Env{{Name: "way", Val: "first"}, {Name: "mode", Val: "m"}, {Name: "way", Val: "second"}, {Name: "Way", Val: "\x00\n\xff"}, {Val: "none"}},
		Deps: []impl.Made{
			{Task: "q#x", Outs: filesOf("o=first o=second p=behind a=ahead")}, {Task: "a#x", Outs: filesOf("o=other")},
			{Task: "q#x", Outs: filesOf("o=later r=later")}, {Task: "one", Outs: filesOf("o=one a/b=two O=three")}, {Outs: filesOf("o=none")},
		},
	}
	for s, text := range map[string]string{
		"cat b > f": "first", "cat b b > f": "firstfirst", "cat a > f": "behind", "cat z a b > f": "lastbehindfirst", "cat A > f": "big", "cat a/b/c/d/e > f": "deep",
		"env way > f": "first", "env mode > f": "m", "env Way > f": "\x00\n\xff",
		"use q#x o > f": "first", "use q#x p > f": "behind", "use q#x a > f": "ahead", "use a#x o > f": "other", "use one o > f": "one", "use one a/b > f": "two", "use one O > f": "three",
		"put x > f": "x",
	} {
		got, ok := actedAsOthers(t, j, madeTold("", ""), s)
		if !ok || !madesAlike(got, madeTold("f="+text, "")) {
			t.Errorf("%q makes %v, %v, not %q", s, got, ok, text)
		}
	}
	// What the first of a task has not made is not there, though a later one has it.
	for _, s := range []string{"use q#x r > f", "use  o > f", "env  > f", "cat B > f", "use two o > f"} {
		refused(t, j, madeTold("", ""), s)
	}
	if m, ok := impl.Make(j); ok || !madesAlike(m, impl.Made{Task: "no task"}) {
		t.Errorf("of wrong acts is made %v, %v", m, ok)
	}
}

// TestGreatActs: very long ones, of very many words, and of very much that there is.
func TestGreatActs(t *testing.T) {
	const n = 1000000
	long, many := strings.Repeat("x", n), strings.Repeat(" x", n)
	j := impl.Job{
		Name: long,
		Ins:  []impl.File{{Path: "a", Text: long}, {Path: long, Text: "short"}},
		Envs: []impl.Env{{Name: "a", Val: long}, {Name: long, Val: "short"}},
		Deps: []impl.Made{{Task: long, Outs: []impl.File{{Path: long, Text: "short"}, {Path: "a", Text: long}}, Log: long}},
	}
	m := madeTold("o=1", "x\n")
	for _, s := range []string{"put " + long + " > o", "put" + many + " > o", "put a > " + long, "cat a > o", "cat a a a > o", "cat" + many + " > o", "env a > o", "use " + long + " a > o", "log " + long, "log" + many, "fail" + many, long, many, strings.Repeat(" ", n), strings.Repeat("> ", n) + "o", strings.Repeat("put a > o ", n/10), "log" + many + " > o"} {
		if got, ok := impl.Act(j, m, s); ok || !madesAlike(got, m) {
			t.Errorf("%.20q of %d bytes is done: %.100v", s, len(s), got)
		}
	}
	for _, s := range []string{"cat " + long + " > o", "env " + long + " > o", "use " + long + " " + long + " > o"} {
		if got, ok := impl.Act(j, m, s); !ok || !madesAlike(got, madeTold("o=short", "x\n")) {
			t.Errorf("%.20q of %d bytes makes %.100v, %v", s, len(s), got, ok)
		}
	}
	if !impl.ActOk("put"+many+" > o") || !impl.ActOk("log"+many) || impl.ActOk("cat"+many+" > o") {
		t.Error("acts of very many words")
	}
}

// TestGreatJobs: very many acts of a Job of a long Name, and of very many sources.
func TestGreatJobs(t *testing.T) {
	const n = 100000
	j := impl.Job{Name: strings.Repeat("n", n), Acts: slices.Repeat([]string{"put a > o", "put b > p", "env e > o"}, n), Envs: []impl.Env{{Name: "e", Val: "last"}}}
	want := impl.Made{Task: j.Name, Outs: filesOf("o=last p=b")}
	if m, ok := impl.Make(j); !ok || !madesAlike(m, want) {
		t.Errorf("of very many acts is made %.100v, %v", m, ok)
	}
	j.Acts = slices.Repeat([]string{"log x"}, n)
	if m, ok := impl.Make(j); ok || m.Log != strings.Repeat("x\n", mostLog/2) {
		t.Errorf("of very many logs is made %.300v, %v", m, ok)
	}
	j = impl.Job{Name: "a#b", Acts: []string{"cat f0 f99999 > o", "env f7 > p", "use f8 o > q"}}
	for i := range n {
		name := "f" + impl.NumText(i)
		j.Ins = append(j.Ins, impl.File{Path: name, Text: name})
		j.Envs = append(j.Envs, impl.Env{Name: name, Val: name})
		j.Deps = append(j.Deps, impl.Made{Task: name, Outs: []impl.File{{Path: "o", Text: name}}})
	}
	if m, ok := impl.Make(j); !ok || !madesAlike(m, impl.Made{Task: "a#b", Outs: filesOf("o=f0f99999 p=f7 q=f8")}) {
		t.Errorf("of very many sources is made %v, %v", m, ok)
	}
}
