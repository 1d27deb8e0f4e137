package tests

import (
	"fmt"
	"math/rand"
	"slices"
	"strings"
	"testing"

	"loop.example/g00464/impl"
)

const mostPacks = 6

// packsOf makes packs of texts as `a=b,c d=`: a name, and its Uses.
func packsOf(told string) []impl.Pack {
	var out []impl.Pack
	for _, s := range strings.Fields(told) {
		name, uses, _ := strings.Cut(s, "=")
		p := impl.Pack{Name: name}
		if uses != "" {
			p.Uses = strings.Split(uses, ",")
		}
		out = append(out, p)
	}
	return out
}

// othersPacksOk asks of each two packs of l how they stand to each other.
func othersPacksOk(l []impl.Pack) bool {
	ok := len(l) <= mostPacks
	for i, p := range l {
		ok = ok && othersPackOk(p)
		for _, q := range l[:i] {
			ok = ok && q.Name < p.Name
		}
		for _, name := range p.Uses {
			there := 0
			for _, q := range l {
				if q.Name == name && q.Name != p.Name {
					there++
				}
			}
			ok = ok && there == 1
		}
	}
	return ok
}

func packsOrNot(t *testing.T, l []impl.Pack, right bool) {
	t.Helper()
	if impl.PacksOk(l) != right || othersPacksOk(l) != right {
		t.Errorf("of %q it is told: %v", l, !right)
	}
}

func TestPacksOk(t *testing.T) {
	packsOrNot(t, nil, true)
	packsOrNot(t, []impl.Pack{}, true)
	for told, right := range map[string]bool{
		"a":                             true,
		"a b":                           true,
		"a a- a0 aa":                    true,
		"a=b b":                         true,
		"a b=a":                         true,
		"a=b b=a":                       true, // a ring of two
		"a=b b=c c=a":                   true,
		"a=b,c b=a,c c=a,b":             true,
		"a b=a,c c":                     true,
		"a=b,c,d,e b c d e":             true,
		"a b c d e f":                   true,
		"a=b,c,d,e b=f c=f d=f e=f f=a": true,
		"a b c d e f g":                 false,
		"a b c d e f g h i j":           false,
		"b a":                           false,
		"a a":                           false,
		"a b b":                         false,
		"a a b":                         false,
		"a b a":                         false,
		"a c b d":                       false,
		"aa a":                          false,
		"a0 a-":                         false,
		"a=a":                           false,
		"a=a b":                         false,
		"a=a,b b":                       false,
		"a=b b=b":                       false,
		"a b=a,b":                       false,
		"a=b":                           false,
		"a=b c":                         false,
		"a=b,c b":                       false,
		"a=b,c c":                       false,
		"a b=a c=d":                     false,
		"a b=a c=a,d":                   false,
		"a=ab aa":                       false,
		"a=a- a0":                       false,
		"a=b,c,d,e,f b c d e f":         false, // five of Uses
		"a=c,b b c":                     false, // Uses that do not ascend
		"a=b,b b":                       false,
		"A":                             false,
		"a b_":                          false,
		"A a":                           false,
		"0 a":                           false,
		"a abcdefghij":                  true,
		"a abcdefghijk":                 false,
		"a=abcdefghij abcdefghij":       true,
		"a=abcdefghijk abcdefghijk":     false,
		"a=B b":                         false,
	} {
		packsOrNot(t, packsOf(told), right)
	}
	packsOrNot(t, []impl.Pack{{}}, false)
	packsOrNot(t, []impl.Pack{{}, {Name: "a"}}, false)
	packsOrNot(t, []impl.Pack{{Name: "a", Uses: []string{""}}}, false)
	packsOrNot(t, []impl.Pack{{}, {Name: "a", Uses: []string{""}}}, false)
}

func TestHowManyPacks(t *testing.T) {
	var l []impl.Pack
	for n := range 30 {
		packsOrNot(t, l, n <= mostPacks)
		l = append(l, impl.Pack{Name: fmt.Sprintf("p%02d", n)})
	}
	if impl.PacksOk(slices.Repeat(packsOf("a"), 1000000)) {
		t.Error("a million packs are right")
	}
}

func TestOrderOfPacks(t *testing.T) {
	eachOrder([]string{"a", "b=a", "c=a,b", "d"}, func(told []string) {
		packsOrNot(t, packsOf(strings.Join(told, " ")), slices.IsSorted(told))
	})
}

// TestOneWrongPackAmongOthers: each of them is to be right.
func TestOneWrongPackAmongOthers(t *testing.T) {
	turns := map[string]func(*impl.Pack){
		"nothing":              func(p *impl.Pack) {},
		"a need":               func(p *impl.Pack) { p.Needs = []impl.Need{need("zz", "^1")} },
		"a task":               func(p *impl.Pack) { p.Cmds = []impl.Cmd{cmd("zz", "x")} },
		"wrong: a use":         func(p *impl.Pack) { p.Uses = []string{"zz"} },
		"wrong: its own":       func(p *impl.Pack) { p.Uses = []string{p.Name} },
		"wrong: a range":       func(p *impl.Pack) { p.Needs = []impl.Need{need("b", "x")} },
		"wrong: a long range":  func(p *impl.Pack) { p.Needs = []impl.Need{need("b", strings.Repeat(" ", mostRangeText)+"1")} },
		"wrong: needs' order":  func(p *impl.Pack) { p.Needs = []impl.Need{need("c", "1"), need("b", "1")} },
		"wrong: no acts":       func(p *impl.Pack) { p.Cmds = []impl.Cmd{cmd("b")} },
		"wrong: an act":        func(p *impl.Pack) { p.Cmds = []impl.Cmd{cmd("b", "\n")} },
		"wrong: a long act":    func(p *impl.Pack) { p.Cmds = []impl.Cmd{cmd("b", strings.Repeat("x", mostActText+1))} },
		"wrong: a task's name": func(p *impl.Pack) { p.Cmds = []impl.Cmd{cmd("B", "x")} },
		"wrong: tasks' order":  func(p *impl.Pack) { p.Cmds = []impl.Cmd{cmd("b", "x"), cmd("b", "x")} },
	}
	for what, turn := range turns {
		for n := 1; n <= mostPacks; n++ {
			for i := range n {
				l := packsOf("a b=a c=a,b d e=d f")[:n]
				turn(&l[i])
				packsOrNot(t, l, !strings.HasPrefix(what, "wrong"))
			}
		}
	}
}

// TestUsesThatAreDropped: without any pack that is used the rest is not right.
func TestUsesThatAreDropped(t *testing.T) {
	l := packsOf("a=b,c b=d c=d d=e e=a f=a")
	packsOrNot(t, l, true)
	for i := range l {
		packsOrNot(t, slices.Delete(slices.Clone(l), i, i+1), l[i].Name == "f")
	}
}

func TestFindPack(t *testing.T) {
	for told, places := range map[string]map[string]int{
		"":                {"": -1, "a": -1},
		"a":               {"a": 0, "": -1, "b": -1, "A": -1, "aa": -1, "a ": -1},
		"a=b b c":         {"a": 0, "b": 1, "c": 2, "d": -1, "0": -1, "bb": -1, "=": -1},
		"a b c d e f":     {"a": 0, "f": 5, "e": 4, "g": -1},
		"a b c d e f g h": {"a": 0, "g": 6, "h": 7, "i": -1},
		"c b a":           {"a": 2, "b": 1, "c": 0, "d": -1},
		"a a":             {"a": 0},
		"b a b a c":       {"a": 1, "b": 0, "c": 4},
		"A 0 a_b":         {"A": 0, "0": 1, "a_b": 2, "a": -1},
		"a=a a=b":         {"a": 0, "b": -1},
		"=x a":            {"": 0, "a": 1, "x": -1},
	} {
		for name, want := range places {
			if got := impl.FindPack(packsOf(told), name); got != want {
				t.Errorf("of %q %q stands at %d", told, name, got)
			}
		}
	}
	long := strings.Repeat("x", 100000)
	if impl.FindPack([]impl.Pack{{}, {Name: long}}, long) != 1 || impl.FindPack([]impl.Pack{{}, {Name: long}}, long+"x") != -1 || impl.FindPack(nil, "") != -1 {
		t.Error("a long name")
	}
	// What a pack names beside its Name is not looked at.
	if got := impl.FindPack([]impl.Pack{withUses("x"), fullPack(), {Name: "lib"}, {Name: "build"}}, "build"); got != 3 {
		t.Errorf("a task is taken for a pack: %d", got)
	}
}

func TestManyLists(t *testing.T) {
	r := rand.New(rand.NewSource(77))
	names := []string{"a", "b", "c", "d", "e", "f", "g"}
	right := 0
	for range 20000 {
		var l []impl.Pack
		there := names[:r.Intn(len(names)+1)]
		for _, name := range there {
			p := impl.Pack{Name: name}
			for _, other := range there {
				if r.Intn(4) == 0 && (other != name || r.Intn(10) == 0) {
					p.Uses = append(p.Uses, other)
				}
			}
			l = append(l, p)
		}
		if n := len(l); n > 0 && r.Intn(3) == 0 {
			i, j := r.Intn(n), r.Intn(n)
			l[i], l[j] = l[j], l[i]
		}
		if n := len(l); n > 0 && r.Intn(3) == 0 {
			i := r.Intn(n)
			l = slices.Delete(l, i, i+1)
		}
		ok := othersPacksOk(l)
		packsOrNot(t, l, ok)
		if ok {
			right++
		}
		for i, p := range l {
			if got := impl.FindPack(l, p.Name); got != i {
				t.Errorf("of %q %q stands at %d", l, p.Name, got)
			}
		}
		if t.Failed() {
			t.FailNow()
		}
	}
	if right < 4000 || right > 18000 {
		t.Errorf("%d lists were right", right)
	}
}
