package tests

import (
	"math/rand"
	"slices"
	"strings"
	"testing"

	"loop.example/g00464/impl"
)

// behindUses asks of places of l, in an order, whether each is behind all its Uses that are packs of l.
func behindUses(l []impl.Pack, order []int) bool {
	for at, i := range order {
		for _, k := range order[at:] {
			if slices.Contains(l[i].Uses, l[k].Name) {
				return false
			}
		}
	}
	return true
}

// eachPermutation goes through the orders of n places, from that in which they ascend on, until do is true.
func eachPermutation(n int, do func([]int) bool) bool {
	var from func(order []int) bool
	from = func(order []int) bool {
		if len(order) == n {
			return do(order)
		}
		for i := range n {
			if !slices.Contains(order, i) && from(append(slices.Clip(order), i)) {
				return true
			}
		}
		return false
	}
	return from(nil)
}

// othersOrder is the first of all orders in which each is behind its Uses.
func othersOrder(l []impl.Pack) ([]string, bool) {
	for i, p := range l {
		if impl.FindPack(l, p.Name) != i {
			return nil, false
		}
	}
	var out []string
	ok := eachPermutation(len(l), func(order []int) bool {
		if !behindUses(l, order) {
			return false
		}
		for _, i := range order {
			out = append(out, l[i].Name)
		}
		return true
	})
	return out, ok
}

// orderIs asks for Order, and that it is true; what is wanted is told with blanks between.
func orderIs(t *testing.T, told, want string) {
	t.Helper()
	orderOrNone(t, packsOf(told), strings.Fields(want), true)
}

func noOrder(t *testing.T, told string) {
	t.Helper()
	orderOrNone(t, packsOf(told), nil, false)
}

func orderOrNone(t *testing.T, l []impl.Pack, want []string, ok bool) {
	t.Helper()
	if got, is := impl.Order(l); is != ok || !slices.Equal(got, want) {
		t.Errorf("the order of %q is %q, %v, not %q, %v", l, got, is, want, ok)
	}
	if got, is := othersOrder(l); is != ok || !slices.Equal(got, want) {
		t.Errorf("the test's own order of %q is %q, %v, not %q, %v", l, got, is, want, ok)
	}
}

func TestOrderOfFewPacks(t *testing.T) {
	orderOrNone(t, nil, nil, true)
	orderOrNone(t, []impl.Pack{}, nil, true)
	orderOrNone(t, []impl.Pack{{}}, []string{""}, true)
	orderIs(t, "a", "a")
	orderIs(t, "Q", "Q")
	orderIs(t, "a b", "a b")
	orderIs(t, "b a", "b a")
}

func TestOrderOfPacksThatAreInOrder(t *testing.T) {
	orderIs(t, "a b=a c=b d=c", "a b c d")
	orderIs(t, "a b=a c=a,b d=a,b,c", "a b c d")
	orderIs(t, "d c=d b=c a=b", "d c b a")
	orderIs(t, "a b c=a,b d e=c,d", "a b c d e")
	orderIs(t, "z y x w v u t s", "z y x w v u t s")
}

func TestOrderOfPacksThatAreNot(t *testing.T) {
	orderIs(t, "a=b b=c c=d d", "d c b a")
	orderIs(t, "a=b b", "b a")
	orderIs(t, "a=b,c b=c c", "c b a")
	orderIs(t, "a=c,d b=a c=d d", "d c a b")
	orderIs(t, "e=a d=e c=d b=c a", "a e d c b")
	orderIs(t, "a=f b=e c=d d=b e=a f", "f a e b d c")
	// In each order of l there is just one.
	eachOrder([]string{"a=b,c,d", "b=c,d", "c=d", "d"}, func(told []string) {
		orderIs(t, strings.Join(told, " "), "d c b a")
	})
}

// TestOrderOfSeveralThatCanBeNext: always the first of l, also where it could be next only since the one ahead.
func TestOrderOfSeveralThatCanBeNext(t *testing.T) {
	orderIs(t, "b a c", "b a c")
	orderIs(t, "a=c b c d", "b c a d")
	orderIs(t, "a=d b c d e", "b c d a e")
	orderIs(t, "a=c b=c c d", "c a b d")
	orderIs(t, "b=c a=c c d", "c b a d")
	orderIs(t, "a=c b=d c d", "c a d b")
	orderIs(t, "a=d b=c c d", "c b d a")
	orderIs(t, "a=b,e b c d e", "b c d e a")
	orderIs(t, "a=e b=d c d e f", "c d b e a f")
	// Two are free at once by one: the first of them, then the other one.
	orderIs(t, "b=x c=x a=x x d", "x b c a d")
	// One is free that frees one that is still further ahead.
	orderIs(t, "a=b b=e c d e f", "c d e b a f")
	orderIs(t, "a=c b=q c=d d=e e f", "b e d c a f")
	// One is freed behind, while there is another one ahead of it.
	orderIs(t, "a e=a b c", "a e b c")
	orderIs(t, "x=a a b e=a c", "a x b e c")
}

func TestOrderOfUsesThatAreNone(t *testing.T) {
	orderIs(t, "a=q", "a")
	orderIs(t, "a=q b", "a b")
	orderIs(t, "a=b,q b=x", "b a")
	orderIs(t, "a=q,b,x b=0,c,q c=x", "c b a")
	orderIs(t, "a=x b=x c=x", "a b c")
	orderIs(t, "a=aa,A,a- b=bb", "a b")
	noOrder(t, "a=q,b b=x,a")
}

func TestOrderOfUsesThatAreThereTwice(t *testing.T) {
	orderIs(t, "a=b,b b", "b a")
	orderIs(t, "a=b,c,b,c,c b=c,c c d", "c b a d")
	orderIs(t, "a=d,c,b b d c", "b d c a")
	orderIs(t, "a=q,q b", "a b")
}

func TestNoOrderInARing(t *testing.T) {
	noOrder(t, "a=a")
	noOrder(t, "a=a b")
	noOrder(t, "b a=a")
	noOrder(t, "a=b,a b")
	noOrder(t, "a=a,a")
	noOrder(t, "a=b b=a")
	noOrder(t, "a=b b=c c=a")
	noOrder(t, "a b=c c=b")
	noOrder(t, "a=b b=a c d e")
	noOrder(t, "a=b b=c c=d d=e e=f f=a")
	noOrder(t, "a=b b=c c=d d=e e=f f=e")
	// Others only lead to it, or are led to by it.
	noOrder(t, "a=b b=c c=b")
	noOrder(t, "a=c b=a c=d d=c")
	noOrder(t, "a b=a,c c=b")
	noOrder(t, "a b=b,a c=a")
	noOrder(t, "a=b b=b")
	noOrder(t, "a b c d=a,b,c,e e=d")
}

func TestNoOrderOfTwoOfOneName(t *testing.T) {
	noOrder(t, "a a")
	noOrder(t, "a b a")
	noOrder(t, "b a a")
	noOrder(t, "a a a")
	// Of like Uses, and of unlike ones.
	noOrder(t, "a=b a=b b")
	noOrder(t, "a=q a=q")
	noOrder(t, "a=b a b")
	noOrder(t, "a a=b b")
	noOrder(t, "a=b b a=c c")
	noOrder(t, "a a=a")
	noOrder(t, "c=a a b a=b")
	orderOrNone(t, []impl.Pack{{}, {}}, nil, false)
	orderOrNone(t, []impl.Pack{{}, {Name: "a"}, {}}, nil, false)
	// Other parts of packs tell them not apart.
	one, other := fullPack(), withCmds(cmd("a", "x"))
	one.Uses, other.Uses, other.Name = nil, nil, one.Name
	orderOrNone(t, []impl.Pack{one, other}, nil, false)
}

// TestOrderLooksAtUsesAlone: not at Needs or tasks.
func TestOrderLooksAtUsesAlone(t *testing.T) {
	a, b := impl.Pack{Name: "a", Needs: []impl.Need{need("b", "*")}, Cmds: []impl.Cmd{cmd("b", "b")}}, impl.Pack{Name: "b", Needs: []impl.Need{need("a", "*")}}
	orderOrNone(t, []impl.Pack{a, b}, []string{"a", "b"}, true)
	orderOrNone(t, []impl.Pack{b, a}, []string{"b", "a"}, true)
	if len(impl.Ring([]impl.Pack{a, b})) != 0 || len(impl.UsedBy([]impl.Pack{a, b}, "b")) != 0 || len(impl.DeepUses([]impl.Pack{a, b}, "a")) != 0 || len(impl.DeepUsedBy([]impl.Pack{a, b}, "a")) != 0 {
		t.Error("Needs are taken for Uses")
	}
}

// orderPromised holds Order against the promise: each behind all its Uses, all Names once, the first of l that can be next; false just where there is a Ring, or two of one Name.
func orderPromised(t *testing.T, l []impl.Pack) bool {
	t.Helper()
	got, ok := impl.Order(l)
	twice := false
	for i, p := range l {
		twice = twice || slices.ContainsFunc(l[:i], func(q impl.Pack) bool { return q.Name == p.Name })
	}
	if ok == (twice || len(impl.Ring(l)) > 0) || !ok && len(got) > 0 || ok && len(got) != len(l) {
		t.Fatalf("the order of %q is %q, %v, the ring %q", l, got, ok, impl.Ring(l))
	}
	done := map[string]bool{}
	for _, name := range got {
		first := slices.IndexFunc(l, func(p impl.Pack) bool {
			waits := slices.ContainsFunc(p.Uses, func(use string) bool { return !done[use] && impl.FindPack(l, use) >= 0 })
			return !done[p.Name] && !waits
		})
		if first < 0 || l[first].Name != name {
			t.Fatalf("in the order %q of %q %q is not the first that can be next", got, l, name)
		}
		done[name] = true
	}
	return ok
}

func TestAllOrdersOfFew(t *testing.T) {
	ask := func(l []impl.Pack) {
		orderPromised(t, l)
		want, ok := othersOrder(l)
		orderOrNone(t, l, want, ok)
		if t.Failed() {
			t.FailNow()
		}
	}
	for _, names := range [][]string{{"a"}, {"b", "a"}, {"a", "b", "c"}, {"c", "a", "b"}, {"b", "a", "b"}} {
		eachLeaning(names, []string{"c", "a", "b", "q"}, ask)
	}
	eachLeaning([]string{"b", "d", "a", "c"}, []string{"c", "a", "d", "b"}, ask)
}

func TestManyOrders(t *testing.T) {
	r := rand.New(rand.NewSource(113))
	right := 0
	for range 10000 {
		l := anyLeaning(r)
		want, ok := othersOrder(l)
		orderOrNone(t, l, want, ok)
		if orderPromised(t, l) && len(l) > 2 {
			right++
		}
		if t.Failed() {
			t.FailNow()
		}
	}
	if right < 2000 || right > 8000 {
		t.Errorf("%d orders of more than two were right", right)
	}
}

// TestOrdersOfManyPacks: up to 40, without a ring but now and then.
func TestOrdersOfManyPacks(t *testing.T) {
	r := rand.New(rand.NewSource(114))
	right, wrong := 0, 0
	for range 2000 {
		n := 7 + r.Intn(34)
		l := make([]impl.Pack, n)
		for i, at := range r.Perm(n) {
			l[at].Name = "p" + oneByte('0'+i)
			for range r.Intn(4) {
				if i > 0 {
					l[at].Uses = append(l[at].Uses, "p"+oneByte('0'+r.Intn(i)))
				}
			}
			if r.Intn(30) == 0 {
				l[at].Uses = append(l[at].Uses, "p"+oneByte('0'+r.Intn(n)))
			}
		}
		if orderPromised(t, l) {
			right++
		} else {
			wrong++
		}
	}
	if right < 500 || wrong < 100 {
		t.Errorf("%d were right, %d wrong", right, wrong)
	}
}
