package tests

import (
	"math/rand"
	"slices"
	"strings"
	"testing"

	"loop.example/g00464/impl"
)

// othersRing tries all ways of one name, then of two, and so on, by the order of Uses.
func othersRing(l []impl.Pack) []string {
	m := leaningOf(l)
	for _, p := range l {
		for long := 1; m[[2]string{p.Name, p.Name}]; long++ {
			if way := wayRound(l, []string{p.Name}, long); way != nil {
				return way
			}
		}
	}
	return nil
}

// wayRound goes on from way to one of so many names whose last one uses its first.
func wayRound(l []impl.Pack, way []string, long int) []string {
	uses := usesNamed(l, way[len(way)-1])
	if len(way) == long {
		if slices.Contains(uses, way[0]) {
			return way
		}
		return nil
	}
	for _, name := range uses {
		if out := wayRound(l, append(slices.Clip(way), name), long); out != nil {
			return out
		}
	}
	return nil
}

// ringIs asks for Ring; what is wanted is told with blanks between.
func ringIs(t *testing.T, told, want string) {
	t.Helper()
	l := packsOf(told)
	if got := impl.Ring(l); !slices.Equal(got, strings.Fields(want)) {
		t.Errorf("the ring of %s is %q, not %s", told, got, want)
	}
	if got := othersRing(l); !slices.Equal(got, strings.Fields(want)) {
		t.Errorf("the test's own ring of %s is %q, not %s", told, got, want)
	}
}

func TestNoRing(t *testing.T) {
	for _, told := range []string{
		"", "a", "a b c", "a=b b", "a b=a", "a=b b=c c=d d", "d=c c=b b=a a", "a=b,c b=d c=d d", "a=b,c,d b=c,d c=d d", "a=q", "a=q b=a,q", "a=b,b b", "a a", "a=b a=b b", "a=c b=c c=d,e d=e e", "a=aa aa=a-",
	} {
		ringIs(t, told, "")
	}
	if got := impl.Ring(nil); len(got) != 0 {
		t.Errorf("the ring of no packs is %q", got)
	}
}

func TestRingOfOne(t *testing.T) {
	ringIs(t, "a=a", "a")
	ringIs(t, "a b=b", "b")
	ringIs(t, "a=a b=b", "a")
	ringIs(t, "b=b a=a", "b")
	ringIs(t, "a=b b=b", "b")
	ringIs(t, "a=a,a", "a")
	ringIs(t, "a=q,a", "a")
	// Its own ring is the shortest, wherever it stands among its Uses.
	ringIs(t, "a=b,a b=a", "a")
	ringIs(t, "a=a,b b=a", "a")
	ringIs(t, "a=b,c,a,d b=a c=a d=a", "a")
	// That of another one is not: a is the first.
	ringIs(t, "a=b b=a,b", "a b")
	ringIs(t, "a=b b=b,c c=a", "a b c")
}

func TestRingOfMore(t *testing.T) {
	ringIs(t, "a=b b=a", "a b")
	ringIs(t, "b=a a=b", "b a")
	ringIs(t, "a=b b=c c=a", "a b c")
	ringIs(t, "a=c c=b b=a", "a c b")
	ringIs(t, "c=b b=a a=c", "c b a")
	ringIs(t, "a=b b=c c=d d=e e=f f=a", "a b c d e f")
	ringIs(t, "a=f f=e e=d d=c c=b b=a", "a f e d c b")
	// Uses that are none of l lead nowhere.
	ringIs(t, "a=q,b b=x,a", "a b")
	ringIs(t, "a=0,b,q b=0,a,q", "a b")
	// In each order of the packs it begins with the first.
	eachOrder([]string{"a=b", "b=c", "c=d", "d=a"}, func(told []string) {
		i := strings.Index("abcdabc", told[0][:1])
		ringIs(t, strings.Join(told, " "), strings.Join(strings.Split("abcdabc"[i:i+4], ""), " "))
	})
}

// TestLeadsToARing: who only leads to a ring is not in it.
func TestLeadsToARing(t *testing.T) {
	ringIs(t, "a=b b=c c=b", "b c")
	ringIs(t, "a=b b=c c=d d=c", "c d")
	ringIs(t, "a=c b=c c=d d=e e=c", "c d e")
	ringIs(t, "a=b,c b=c c=b", "b c")
	ringIs(t, "a=c,b b=c c=b", "b c")
	ringIs(t, "a=d b=d c=d d=d", "d")
	// Where the ring is reached first by one that stands behind in l, the first of l counts all the same.
	ringIs(t, "a=c b=c c=b", "b c")
	ringIs(t, "x=b a=b b=a", "a b")
	ringIs(t, "x=c c=b a=c b=a", "c b a")
	ringIs(t, "x=c b=a c=b a=c", "b a c")
	// Who is led to by a ring alone is not in it, either.
	ringIs(t, "a b=a,c c=b", "b c")
	ringIs(t, "a=q b=a,c c=b", "b c")
	ringIs(t, "a=d b=c c=a,b d", "b c")
	// Between two rings: a leads to d, and is led to by b.
	ringIs(t, "a=d b=c c=a,b d=d", "b c")
	ringIs(t, "a=d d=d b=c c=a,b", "d")
}

func TestTwoRings(t *testing.T) {
	ringIs(t, "a=b b=a c=d d=c", "a b")
	ringIs(t, "c=d d=c a=b b=a", "c d")
	ringIs(t, "c=d a=b d=c b=a", "c d")
	ringIs(t, "a=b b=c c=a d=e e=d", "a b c")
	ringIs(t, "d=e a=b b=c c=a e=d", "d e")
	// A shorter one further behind does not count.
	ringIs(t, "a=b b=c c=a d=d", "a b c")
	ringIs(t, "a=b b=c c=a,c", "a b c")
	ringIs(t, "a=b b=b,c c=a", "a b c")
	// Two that lead to each other one way: that of the first, though it leads to the other.
	ringIs(t, "a=b b=a,c c=d d=c", "a b")
	ringIs(t, "c=d d=c a=b b=a,c", "c d")
	// Two that meet in c.
	ringIs(t, "a=c b=c c=a,b", "a c")
	ringIs(t, "b=c a=c c=a,b", "b c")
	ringIs(t, "c=b,a a=c b=c", "c b")
	ringIs(t, "c=a,b a=c b=c", "c a")
}

func TestWaysRoundOfOneLength(t *testing.T) {
	ringIs(t, "a=b,c b=a c=a", "a b")
	ringIs(t, "a=c,b b=a c=a", "a c")
	ringIs(t, "a=c,b c=a b=a", "a c")
	ringIs(t, "a=b,c b=d c=d d=a", "a b d")
	ringIs(t, "a=c,b b=d c=d d=a", "a c d")
	ringIs(t, "a=b b=c,d c=a d=a", "a b c")
	ringIs(t, "a=b b=d,c c=a d=a", "a b d")
	// The first step counts ahead of the second one.
	ringIs(t, "a=b,c b=e c=d d=a e=a", "a b e")
	ringIs(t, "a=c,b b=d c=e d=a e=a", "a c e")
	ringIs(t, "a=b,c b=f,e c=d,e d=a e=a f=a", "a b f")
	ringIs(t, "a=b,c b=f,e c=d,e d=a e=a f", "a b e")
	ringIs(t, "a=b,c b=f c=d,e d e=a f", "a c e")
	// The order of l does not count for the steps, but for where it begins.
	ringIs(t, "d=a c=d b=d a=c,b", "d a c")
	ringIs(t, "d=a c=d b=d a=b,c", "d a b")
}

func TestWaysRoundOfUnlikeLength(t *testing.T) {
	ringIs(t, "a=b,c b=c c=a", "a c")
	ringIs(t, "a=b,d b=c c=d d=a", "a d")
	ringIs(t, "a=b b=c,d c=d d=a", "a b d")
	ringIs(t, "a=b,e b=c c=d d=a e=d", "a e d")
	ringIs(t, "a=b,e b=c c=d d=e e=a", "a e")
	// The longer one is found first by whoever goes as deep as can be.
	ringIs(t, "a=b b=c c=d,a d=e e=a", "a b c")
	ringIs(t, "a=b b=c,e c=d d=e e=a", "a b e")
	ringIs(t, "a=b,c,d b=c c=d d=e e=a", "a d e")
	ringIs(t, "a=b,c b=e,d c=d d=a e=d", "a b d")
	// A short way to the end of l leads to no ring of a.
	ringIs(t, "a=e,b b=c c=a e=e", "a b c")
	ringIs(t, "a=b,c b=b c=d d=a", "a c d")
}

// TestRingOfTwoOfOneName: what either uses is used by this Name, and each is the first.
func TestRingOfTwoOfOneName(t *testing.T) {
	ringIs(t, "a a=a", "a")
	ringIs(t, "a=a a", "a")
	ringIs(t, "a=b a=c b c=a", "a c")
	ringIs(t, "b=a a a=b", "b a")
	ringIs(t, "a=c a=b b=a c=a", "a c")
	ringIs(t, "a=b b b=c c=a", "a b c")
}

// isRing asks what a ring is by its words: each uses the next one, the last one the first, and none is there twice.
func isRing(l []impl.Pack, ring []string) bool {
	for i, name := range ring {
		if !slices.Contains(usesNamed(l, name), ring[(i+1)%len(ring)]) || slices.Contains(ring[:i], name) {
			return false
		}
	}
	return len(ring) > 0
}

func ringAsOthersTell(t *testing.T, l []impl.Pack) []string {
	t.Helper()
	got := impl.Ring(l)
	if want := othersRing(l); !slices.Equal(got, want) {
		t.Fatalf("the ring of %q is %q, not %q", l, got, want)
	}
	if len(got) > 0 && !isRing(l, got) {
		t.Fatalf("%q is no ring of %q", got, l)
	}
	for _, p := range l {
		if slices.Contains(impl.DeepUses(l, p.Name), p.Name) {
			if len(got) == 0 || got[0] != p.Name {
				t.Fatalf("of %q %q is the first that is reached from itself, but the ring is %q", l, p.Name, got)
			}
			return got
		}
	}
	if len(got) > 0 {
		t.Fatalf("none of %q is reached from itself, but the ring is %q", l, got)
	}
	return got
}

func TestAllRingsOfFew(t *testing.T) {
	for _, names := range [][]string{{"a"}, {"b", "a"}, {"a", "b", "c"}, {"c", "a", "b"}, {"b", "a", "b"}} {
		for _, used := range [][]string{{"a", "b", "c", "q"}, {"c", "b", "a"}, {"b", "q", "c", "a"}} {
			eachLeaning(names, used, func(l []impl.Pack) { ringAsOthersTell(t, l) })
		}
	}
	eachLeaning([]string{"b", "d", "a", "c"}, []string{"c", "a", "d", "b"}, func(l []impl.Pack) { ringAsOthersTell(t, l) })
}

// anyRound has up to 7 packs, of which some are in one ring, and few ways besides; so it is often long.
func anyRound(r *rand.Rand) []impl.Pack {
	l := make([]impl.Pack, 1+r.Intn(7))
	for i := range l {
		l[i].Name = oneByte('a' + i)
	}
	in := r.Perm(len(l))[:1+r.Intn(len(l))]
	for k, i := range in {
		l[i].Uses = append(l[i].Uses, l[in[(k+1)%len(in)]].Name)
	}
	for range r.Intn(len(l) + 1) {
		i := r.Intn(len(l))
		l[i].Uses = slices.Insert(l[i].Uses, r.Intn(len(l[i].Uses)+1), l[r.Intn(len(l))].Name)
	}
	return l
}

func TestManyRings(t *testing.T) {
	r := rand.New(rand.NewSource(112))
	long := map[int]int{}
	for range 20000 {
		long[len(ringAsOthersTell(t, anyLeaning(r)))]++
		long[len(ringAsOthersTell(t, anyRound(r)))]++
	}
	for n := range 7 {
		if long[n] < 300 {
			t.Errorf("rings by their length: %v", long)
		}
	}
}
