package tests

import (
	"maps"
	"math/rand"
	"slices"
	"strings"
	"testing"

	"loop.example/g00464/impl"
)

// usesNamed are the Uses of all packs of this Name, one behind the other.
func usesNamed(l []impl.Pack, name string) []string {
	var out []string
	for _, p := range l {
		if p.Name == name {
			out = append(out, p.Uses...)
		}
	}
	return out
}

// namesIn are all Names, and all that is used, ascending.
func namesIn(l []impl.Pack) []string {
	m := map[string]bool{}
	for _, p := range l {
		m[p.Name] = true
		for _, name := range p.Uses {
			m[name] = true
		}
	}
	return slices.Sorted(maps.Keys(m))
}

// A leaning tells of two names whether the second is reached from the first by Uses.
type leaning map[[2]string]bool

// leaningOf begins with what is used, and adds ways over each name in turn.
func leaningOf(l []impl.Pack) leaning {
	m, names := leaning{}, namesIn(l)
	for _, p := range l {
		for _, name := range p.Uses {
			m[[2]string{p.Name, name}] = true
		}
	}
	for _, over := range names {
		for _, a := range names {
			for _, b := range names {
				if m[[2]string{a, over}] && m[[2]string{over, b}] {
					m[[2]string{a, b}] = true
				}
			}
		}
	}
	return m
}

func (m leaning) deepUses(name string) []string {
	var out []string
	for pair := range m {
		if pair[0] == name {
			out = append(out, pair[1])
		}
	}
	slices.Sort(out)
	return out
}

func (m leaning) deepUsedBy(name string) []string {
	var out []string
	for pair := range m {
		if pair[1] == name {
			out = append(out, pair[0])
		}
	}
	slices.Sort(out)
	return out
}

func othersUsedBy(l []impl.Pack, name string) []string {
	var out []string
	for _, user := range namesIn(l) {
		if slices.Contains(usesNamed(l, user), name) {
			out = append(out, user)
		}
	}
	return out
}

// leansAsOthersTell holds all that is told of each name of l, and of such as are none, against the others.
func leansAsOthersTell(t *testing.T, l []impl.Pack) {
	t.Helper()
	m := leaningOf(l)
	for _, name := range append(namesIn(l), "q", "", "aa", "A") {
		if got, want := impl.UsedBy(l, name), othersUsedBy(l, name); !slices.Equal(got, want) {
			t.Errorf("of %q %q is used by %q, not by %q", l, name, got, want)
		}
		if got, want := impl.DeepUses(l, name), m.deepUses(name); !slices.Equal(got, want) {
			t.Errorf("of %q %q uses, near and far, %q, not %q", l, name, got, want)
		}
		if got, want := impl.DeepUsedBy(l, name), m.deepUsedBy(name); !slices.Equal(got, want) {
			t.Errorf("of %q %q is used, near and far, by %q, not by %q", l, name, got, want)
		}
	}
}

// usersAre asks for UsedBy; what is wanted is told with blanks between.
func usersAre(t *testing.T, told, name, want string) {
	t.Helper()
	if got := impl.UsedBy(packsOf(told), name); !slices.Equal(got, strings.Fields(want)) {
		t.Errorf("of %s %q is used by %q, not by %s", told, name, got, want)
	}
	leansAsOthersTell(t, packsOf(told))
}

func TestUsedBy(t *testing.T) {
	// Nothing uses it.
	usersAre(t, "", "a", "")
	usersAre(t, "a", "a", "")
	usersAre(t, "a=b b", "a", "")
	usersAre(t, "a b c d", "c", "")
	// One does.
	usersAre(t, "a=b b", "b", "a")
	usersAre(t, "a b=a c", "a", "b")
	usersAre(t, "a=b,c,d b c=d d", "c", "a")
	// It uses what is asked for as its first, in the middle, as its last.
	usersAre(t, "a=b,c,d b c d", "b", "a")
	usersAre(t, "a=b,c,d b c d", "c", "a")
	usersAre(t, "a=b,c,d b c d", "d", "a")
	// All do.
	usersAre(t, "a b=a c=a d=a", "a", "b c d")
	usersAre(t, "a=a b=a c=a,b d=a", "a", "a b c d")
	usersAre(t, "a=d b=d c=a,b,d d", "d", "a b c")
	// Only those that use it themselves.
	usersAre(t, "a=b b=c c=d d", "d", "c")
	usersAre(t, "a=b b=c c=a", "a", "c")
}

func TestUsedByOfWhatIsNone(t *testing.T) {
	usersAre(t, "a=b b", "q", "")
	usersAre(t, "a=b b", "", "")
	usersAre(t, "a=b b", "A", "")
	usersAre(t, "a=bb b=b- c=b0", "b-", "b")
	usersAre(t, "a=bb ab=b- abc=xb", "b", "")
	// It is used, though it is none of l.
	usersAre(t, "a=q b=a,q c=b", "q", "a b")
	usersAre(t, "a=q", "q", "a")
}

// TestUsersAscend: whatever the order of the packs.
func TestUsersAscend(t *testing.T) {
	usersAre(t, "d=a c=a b=a a", "a", "b c d")
	usersAre(t, "c=x a=x b=x", "x", "a b c")
	usersAre(t, "ab=x a0=x a-=x a=x aa=x", "x", "a a- a0 aa ab")
	usersAre(t, "b=x A=x a=x 0=x ab=x ~=x", "x", "0 A a ab b ~")
	eachOrder([]string{"a=d", "b=d", "c", "d=d"}, func(told []string) {
		usersAre(t, strings.Join(told, " "), "d", "a b d")
	})
}

func TestUsedByItself(t *testing.T) {
	usersAre(t, "a=a", "a", "a")
	usersAre(t, "a=a b", "b", "")
	usersAre(t, "a=a,b b=b", "b", "a b")
	usersAre(t, "b=b a=b", "b", "a b")
}

func TestUsedByNamesThatAreThereTwice(t *testing.T) {
	// Uses that have it twice.
	usersAre(t, "a=b,b b", "b", "a")
	usersAre(t, "a=b,c,b,b b c=b,b", "b", "a c")
	usersAre(t, "a=a,a", "a", "a")
	// Uses that do not ascend.
	usersAre(t, "a=d,c,b b c d", "b", "a")
	// Two packs of one Name: it is told once, whichever uses it.
	usersAre(t, "a=x a=x", "x", "a")
	usersAre(t, "a=x a", "x", "a")
	usersAre(t, "a a=x", "x", "a")
	usersAre(t, "a=x b=x a=y,x", "x", "a b")
	usersAre(t, "a=x b=x a=y,x", "y", "a")
}

// deepAre asks for DeepUses; what is wanted is told with blanks between.
func deepAre(t *testing.T, told, name, want string) {
	t.Helper()
	if got := impl.DeepUses(packsOf(told), name); !slices.Equal(got, strings.Fields(want)) {
		t.Errorf("of %s %q uses, near and far, %q, not %s", told, name, got, want)
	}
	leansAsOthersTell(t, packsOf(told))
}

// deepUsersAre asks for DeepUsedBy.
func deepUsersAre(t *testing.T, told, name, want string) {
	t.Helper()
	if got := impl.DeepUsedBy(packsOf(told), name); !slices.Equal(got, strings.Fields(want)) {
		t.Errorf("of %s %q is used, near and far, by %q, not by %s", told, name, got, want)
	}
	leansAsOthersTell(t, packsOf(told))
}

func TestDeepOfWhatIsNone(t *testing.T) {
	for _, told := range []string{"", "a", "a=b b", "a=b b=a", "a=a", "a=qq b=q0"} {
		for _, name := range []string{"q", "", "A", "aa"} {
			deepAre(t, told, name, "")
			deepUsersAre(t, told, name, "")
		}
	}
}

func TestDeepOfWhatLeadsNowhere(t *testing.T) {
	deepAre(t, "a", "a", "")
	deepUsersAre(t, "a", "a", "")
	deepAre(t, "a b=a c=b", "a", "")
	deepUsersAre(t, "a b=a c=b", "c", "")
	// Rings elsewhere.
	deepAre(t, "a b=c c=b", "a", "")
	deepUsersAre(t, "a b=c c=b", "a", "")
	deepAre(t, "a b=a,b", "a", "")
	deepUsersAre(t, "a=b b=b", "a", "")
}

func TestDeepOverAChain(t *testing.T) {
	const told = "a=b b=c c=d d=e e"
	all := "abcde"
	for i, c := range all {
		behind, ahead := strings.Split(all[i+1:], ""), strings.Split(all[:i], "")
		deepAre(t, told, string(c), strings.Join(behind, " "))
		deepUsersAre(t, told, string(c), strings.Join(ahead, " "))
	}
	// In each order of the packs, and against that of the names.
	eachOrder([]string{"a=c", "c=b", "b=d", "d"}, func(l []string) {
		deepAre(t, strings.Join(l, " "), "a", "b c d")
		deepAre(t, strings.Join(l, " "), "b", "d")
		deepUsersAre(t, strings.Join(l, " "), "d", "a b c")
		deepUsersAre(t, strings.Join(l, " "), "b", "a c")
	})
}

func TestDeepByTwoWays(t *testing.T) {
	const told = "a=b,c b=d c=d d=e e"
	deepAre(t, told, "a", "b c d e")
	deepUsersAre(t, told, "d", "a b c")
	deepUsersAre(t, told, "e", "a b c d")
	// A short way and a long one.
	deepAre(t, "a=b,d b=c c=d d", "a", "b c d")
	deepAre(t, "a=d,b b=c c=d d", "a", "b c d")
	deepUsersAre(t, "a=b,d b=c c=d d", "d", "a b c")
	deepAre(t, "a=b,b,c,b b c=b", "a", "b c")
	deepUsersAre(t, "a=b,b,c,b b c=b", "b", "a c")
}

// TestDeepInARing: who is in it is there itself, who only leads to it is not.
func TestDeepInARing(t *testing.T) {
	for _, name := range []string{"a", "b", "c"} {
		deepAre(t, "a=b b=c c=a", name, "a b c")
		deepUsersAre(t, "a=b b=c c=a", name, "a b c")
	}
	deepAre(t, "a=b b=c c=b", "a", "b c")
	deepAre(t, "a=b b=c c=b", "b", "b c")
	deepUsersAre(t, "a=b b=c c=b", "b", "a b c")
	deepUsersAre(t, "a=b b=c c=b", "a", "")
	// A ring that leads away: it uses a, which is in none.
	deepAre(t, "a b=c c=a,b", "b", "a b c")
	deepAre(t, "a b=c c=a,b", "a", "")
	deepUsersAre(t, "a b=c c=a,b", "a", "b c")
	deepUsersAre(t, "a b=c c=a,b", "c", "b c")
	// Between two rings.
	deepAre(t, "a=b b=a,c c=d d=e e=d", "c", "d e")
	deepUsersAre(t, "a=b b=a,c c=d d=e e=d", "c", "a b")
	deepAre(t, "a=b b=a,c c=d d=e e=d", "a", "a b c d e")
	deepUsersAre(t, "a=b b=a,c c=d d=e e=d", "e", "a b c d e")
	// Two rings that meet in c.
	deepAre(t, "a=c b=c c=a,b", "a", "a b c")
}

func TestDeepByItself(t *testing.T) {
	deepAre(t, "a=a", "a", "a")
	deepUsersAre(t, "a=a", "a", "a")
	deepAre(t, "a=a,b b", "a", "a b")
	deepUsersAre(t, "a=a,b b", "a", "a")
	deepUsersAre(t, "a=a,b b", "b", "a")
	deepAre(t, "a=b b=b", "a", "b")
	deepUsersAre(t, "a=b b=b", "b", "a b")
	deepAre(t, "a b=b", "a", "")
	deepAre(t, "a=b,a b=c c=c", "b", "c")
}

// TestDeepOfUsesThatAreNone: they are reached, and lead no further; who uses them is told of them, too.
func TestDeepOfUsesThatAreNone(t *testing.T) {
	deepAre(t, "a=q", "a", "q")
	deepAre(t, "a=b,q b=x", "a", "b q x")
	deepAre(t, "a=b,q b=x", "q", "")
	deepUsersAre(t, "a=b,q b=x", "q", "a")
	deepUsersAre(t, "a=b,q b=x", "x", "a b")
	deepUsersAre(t, "a=b,q b=x", "a", "")
	deepAre(t, "a=b b=a,q", "a", "a b q")
	deepUsersAre(t, "a=b b=a,q", "q", "a b")
}

// TestDeepOfTwoOfOneName: what either of them uses is reached.
func TestDeepOfTwoOfOneName(t *testing.T) {
	deepAre(t, "a=b a=c b c=d d", "a", "b c d")
	deepAre(t, "a=c a b=a c", "b", "a c")
	deepAre(t, "a a=c b=a c", "b", "a c")
	deepUsersAre(t, "a a=c b=a c", "c", "a b")
	deepUsersAre(t, "a=b a=c b c", "c", "a")
	deepAre(t, "a a=a", "a", "a")
	deepUsersAre(t, "b=a a a=b", "b", "a b")
}

// TestOrderOfUsesDoesNotCount: what is reached ascends.
func TestOrderOfUsesDoesNotCount(t *testing.T) {
	deepAre(t, "a=z,c,b z=y y b c=~,0", "a", "0 b c y z ~")
	deepUsersAre(t, "z=x y=z x a=y,x b- b=z", "x", "a b y z")
	deepAre(t, "a=a0,a-,aa,ab a0=a", "a", "a a- a0 aa ab")
}

func TestNamesOfAnyBytes(t *testing.T) {
	long := strings.Repeat("x", 100000)
	l := []impl.Pack{
		{Name: "", Uses: []string{"\xff", long}},
		{Name: "\xff", Uses: []string{"\x00", " "}},
		{Name: long, Uses: []string{long + "y", ""}},
		{Name: " ", Uses: []string{" a", "\xff"}},
	}
	leansAsOthersTell(t, l)
	if got := impl.DeepUses(l, ""); !slices.Equal(got, []string{"", "\x00", " ", " a", long, long + "y", "\xff"}) {
		t.Errorf("what nothing uses: %d", len(got))
	}
	if got := impl.DeepUsedBy(l, " a"); !slices.Equal(got, []string{"", " ", long, "\xff"}) {
		t.Errorf("what uses ' a': %d", len(got))
	}
	if got := impl.UsedBy(l, ""); !slices.Equal(got, []string{long}) {
		t.Errorf("who uses nothing: %d", len(got))
	}
}

// eachLeaning calls do with all packs of these names in this order, whose Uses are any of used.
func eachLeaning(names, used []string, do func([]impl.Pack)) {
	l := make([]impl.Pack, len(names))
	var from func(i int)
	from = func(i int) {
		if i == len(names) {
			do(l)
			return
		}
		for bits := range 1 << len(used) {
			l[i] = impl.Pack{Name: names[i]}
			for k, name := range used {
				if bits>>k&1 == 1 {
					l[i].Uses = append(l[i].Uses, name)
				}
			}
			from(i + 1)
		}
	}
	from(0)
}

func TestAllLeaningsOfFew(t *testing.T) {
	for _, names := range [][]string{nil, {"a"}, {"a", "b"}, {"b", "a"}, {"a", "a"}, {"a", "b", "c"}, {"c", "a", "b"}, {"b", "a", "b"}} {
		eachLeaning(names, []string{"c", "a", "b", "q"}, func(l []impl.Pack) {
			leansAsOthersTell(t, l)
			if t.Failed() {
				t.FailNow()
			}
		})
	}
}

// anyLeaning has up to 6 packs of few names, whose Uses are in any order; some of them are of one Name, use themselves, what is none, or one name twice.
func anyLeaning(r *rand.Rand) []impl.Pack {
	names := []string{"a", "b", "c", "d", "e", "f", "g", "h"}
	r.Shuffle(len(names), func(i, k int) { names[i], names[k] = names[k], names[i] })
	l := make([]impl.Pack, r.Intn(7))
	most := 1 + r.Intn(3)
	for i := range l {
		l[i].Name = names[i]
		for range r.Intn(most + 1) {
			if k := r.Intn(len(l) + r.Intn(2)); k != i || r.Intn(8) == 0 {
				l[i].Uses = append(l[i].Uses, names[k])
			}
		}
	}
	if len(l) > 0 && r.Intn(6) == 0 {
		l[r.Intn(len(l))].Name = l[r.Intn(len(l))].Name
	}
	return l
}

// TestManyLeanings: besides, what DeepUses reaches reaches back by DeepUsedBy, and the other way round.
func TestManyLeanings(t *testing.T) {
	r := rand.New(rand.NewSource(111))
	in, out := 0, 0
	for range 20000 {
		l := anyLeaning(r)
		leansAsOthersTell(t, l)
		names := namesIn(l)
		for _, a := range names {
			uses, users := impl.DeepUses(l, a), impl.DeepUsedBy(l, a)
			for _, b := range names {
				if slices.Contains(uses, b) != slices.Contains(impl.DeepUsedBy(l, b), a) || slices.Contains(users, b) != slices.Contains(impl.DeepUses(l, b), a) {
					t.Errorf("of %q %q reaches %q, but not back", l, a, b)
				}
			}
			if slices.Contains(uses, a) {
				in++
			} else if len(uses) > 0 {
				out++
			}
		}
		if t.Failed() {
			t.FailNow()
		}
	}
	if in < 5000 || out < 5000 {
		t.Errorf("%d names were in a ring, %d were not", in, out)
	}
}
