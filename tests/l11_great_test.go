package tests

import (
	"fmt"
	"slices"
	"testing"

	"loop.example/g00464/impl"
)

// manyNames are n names that ascend.
func manyNames(n int) []string {
	var out []string
	for i := range n {
		out = append(out, fmt.Sprintf("p%06d", i))
	}
	return out
}

// manyPacks have these names, and Uses by their place.
func manyPacks(names []string, uses func(i int) []string) []impl.Pack {
	var out []impl.Pack
	for i, name := range names {
		out = append(out, impl.Pack{Name: name, Uses: uses(i)})
	}
	return out
}

// TestGreatLeaningsOfAllOnAll: each of many packs uses all others.
func TestGreatLeaningsOfAllOnAll(t *testing.T) {
	names := manyNames(1000)
	l := manyPacks(names, func(i int) []string { return slices.Delete(slices.Clone(names), i, i+1) })
	for _, name := range []string{names[0], names[500], names[999]} {
		others := slices.DeleteFunc(slices.Clone(names), func(s string) bool { return s == name })
		if !slices.Equal(impl.UsedBy(l, name), others) || !slices.Equal(impl.DeepUses(l, name), names) || !slices.Equal(impl.DeepUsedBy(l, name), names) {
			t.Errorf("what is told of %q", name)
		}
	}
	if got := impl.Ring(l); !slices.Equal(got, names[:2]) {
		t.Errorf("the ring is %q", got)
	}
	if got, ok := impl.Order(l); ok || len(got) != 0 {
		t.Errorf("there is an order of %d", len(got))
	}
	// All use themselves, too.
	for i := range l {
		l[i].Uses = names
	}
	if got := impl.Ring(l); !slices.Equal(got, names[:1]) || !slices.Equal(impl.UsedBy(l, names[7]), names) {
		t.Errorf("the ring of what uses itself is %q", got)
	}
}

// TestGreatLeaningsOfAllAhead: each of many packs uses all ahead of it, or all behind it.
func TestGreatLeaningsOfAllAhead(t *testing.T) {
	names := manyNames(1000)
	ahead := manyPacks(names, func(i int) []string { return names[:i] })
	behind := manyPacks(names, func(i int) []string { return names[i+1:] })
	back := slices.Clone(names)
	slices.Reverse(back)
	if got, ok := impl.Order(ahead); !ok || !slices.Equal(got, names) || len(impl.Ring(ahead)) != 0 {
		t.Errorf("the order of those that use what is ahead: %v", ok)
	}
	if got, ok := impl.Order(behind); !ok || !slices.Equal(got, back) || len(impl.Ring(behind)) != 0 {
		t.Errorf("the order of those that use what is behind: %v", ok)
	}
	if !slices.Equal(impl.DeepUses(ahead, names[400]), names[:400]) || !slices.Equal(impl.DeepUsedBy(ahead, names[400]), names[401:]) {
		t.Error("what is reached of those that use what is ahead")
	}
	if !slices.Equal(impl.DeepUses(behind, names[400]), names[401:]) || !slices.Equal(impl.DeepUsedBy(behind, names[400]), names[:400]) {
		t.Error("what is reached of those that use what is behind")
	}
}

// TestGreatChains: a long way, which ends, leads back, or leads to a ring that only its last ones are in.
func TestGreatChains(t *testing.T) {
	const n = 200000
	names := manyNames(n)
	chain := func(to int) []impl.Pack {
		l := manyPacks(names, func(i int) []string { return names[i+1 : min(i+2, n)] })
		if to < n {
			l[n-1].Uses = names[to : to+1]
		}
		return l
	}
	back := slices.Clone(names)
	slices.Reverse(back)
	if got, ok := impl.Order(chain(n)); !ok || !slices.Equal(got, back) || len(impl.Ring(chain(n))) != 0 {
		t.Errorf("the order of a chain: %v", ok)
	}
	if !slices.Equal(impl.DeepUses(chain(n), names[0]), names[1:]) || !slices.Equal(impl.DeepUsedBy(chain(n), names[n-1]), names[:n-1]) {
		t.Error("what is reached over a chain")
	}
	for _, to := range []int{0, 1, n / 2, n - 2, n - 1} {
		l := chain(to)
		if got := impl.Ring(l); !slices.Equal(got, names[to:]) {
			t.Errorf("the ring from %d on begins with %q, and has %d", to, got[:min(3, len(got))], len(got))
		}
		if got, ok := impl.Order(l); ok || len(got) != 0 {
			t.Errorf("there is an order where all lead to a ring from %d on", to)
		}
	}
}

func TestGreatListsOfFewNames(t *testing.T) {
	const n = 200000
	uses := slices.Repeat([]string{"b", "c", "b"}, n)
	l := []impl.Pack{{Name: "a", Uses: uses}, {Name: "b", Uses: []string{"c"}}, {Name: "c"}}
	orderOrNone(t, l, []string{"c", "b", "a"}, true)
	leansAsOthersTell(t, l)
	same := slices.Repeat([]impl.Pack{{Name: "a", Uses: []string{"b"}}, {Name: "b"}}, n)
	if got, ok := impl.Order(same); ok || len(got) != 0 || len(impl.Ring(same)) != 0 || !slices.Equal(impl.UsedBy(same, "b"), []string{"a"}) || !slices.Equal(impl.DeepUses(same, "a"), []string{"b"}) {
		t.Errorf("many packs of two names: %q, %v", got, ok)
	}
	apart := manyPacks(manyNames(n), func(int) []string { return nil })
	if got, ok := impl.Order(apart); !ok || !slices.Equal(got, manyNames(n)) || len(impl.Ring(apart)) != 0 {
		t.Errorf("the order of many packs that use nothing: %v", ok)
	}
}

// TestGreatOrderThatGoesBack: each pack of the second half makes one of the first half the next.
func TestGreatOrderThatGoesBack(t *testing.T) {
	const half = 10000
	names := manyNames(2 * half)
	l := manyPacks(names, func(i int) []string {
		if i < half {
			return names[half+i : half+i+1]
		}
		return nil
	})
	var want []string
	for i := range half {
		want = append(want, names[half+i], names[i])
	}
	if got, ok := impl.Order(l); !ok || !slices.Equal(got, want) {
		t.Errorf("the order begins with %q", got[:min(4, len(got))])
	}
}
