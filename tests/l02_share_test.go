package tests

import (
	"slices"
	"testing"

	"loop.example/g00464/impl"
)

// looseVal has v with its texts over bytes that can be turned, and its lists with spare room behind them.
func looseVal(v impl.Val) (impl.Val, func()) {
	s, turnText := looseText(v.S)
	keys, turnKeys := looseList(v.Keys)
	turns := []func(){turnText, turnKeys}
	out := impl.Val{K: v.K, N: v.N, S: s, Keys: roomyTexts(keys), L: make([]impl.Val, len(v.L), len(v.L)+5)}
	for i := range v.L {
		x, turn := looseVal(v.L[i])
		out.L[i], turns = x, append(turns, turn)
	}
	room := out.L[len(out.L):cap(out.L)]
	for i := range room {
		room[i] = textVal("spare")
	}
	turns = append(turns, func() {
		for i := range out.L {
			out.L[i] = textVal("turned")
		}
		for i := range out.Keys {
			out.Keys[i] = "turned"
		}
	})
	return out, func() {
		for _, turn := range turns {
			turn()
		}
	}
}

// withRoom has all of v, its spare room as if it were a part of it.
func withRoom(v impl.Val) impl.Val {
	v.L, v.Keys = slices.Clone(v.L[:cap(v.L)]), slices.Clone(v.Keys[:cap(v.Keys)])
	for i := range v.L {
		v.L[i] = withRoom(v.L[i])
	}
	return v
}

func looseVals(t *testing.T) []impl.Val {
	return []impl.Val{
		nullVal(), textVal("hello"), listVal(), mapVal(nil),
		must(t, `{"a":[null,true,-7,"text"],"b":{"c":"deep","d":["x"]},"c":"y","d":{}}`),
		must(t, `[{"k":"v"},["a","b"],"c"]`),
		{K: 9, S: "wrong", L: []impl.Val{textVal("x")}, Keys: []string{"b", "a"}},
		mapVal([]string{"b", "a"}, textVal("x"), textVal("y")),
	}
}

func TestValuesAreLeftAlone(t *testing.T) {
	for _, in := range looseVals(t) {
		a, _ := looseVal(in)
		b, _ := looseVal(in)
		before := withRoom(a)
		impl.ValOk(a)
		impl.ValText(a)
		if !impl.SameVal(a, b) {
			t.Errorf("%v is not the same with other room", in)
		}
		for _, key := range []string{"a", "b", "d", "spare", "none"} {
			x, ok := impl.AtKey(a, key)
			if ok && key == "spare" {
				t.Errorf("the spare room of %v is handed out", in)
			}
			scribble(x)
		}
		if !alike(withRoom(a), before) || !alike(withRoom(b), before) {
			t.Errorf("%v is written into", in)
		}
	}
}

// scribble writes into all of v, and into the room behind its lists.
func scribble(v impl.Val) {
	l, keys := v.L[:cap(v.L)], v.Keys[:cap(v.Keys)]
	for i := range l {
		scribble(l[i])
		l[i] = textVal("scribble")
	}
	for i := range keys {
		keys[i] = "scribble"
	}
}

func TestAnswersOfValuesShareNothing(t *testing.T) {
	for _, in := range looseVals(t) {
		v, turn := looseVal(in)
		text, a, b := impl.ValText(v), valAt(v, "a"), valAt(v, "b")
		wantA, wantB := deepCopy(valAt(in, "a")), deepCopy(valAt(in, "b"))
		turn()
		if text != impl.ValText(in) || !alike(a, wantA) || !alike(b, wantB) {
			t.Errorf("answers of %v share its memory: %q %v %v", in, text, a, b)
		}
	}
}

func valAt(v impl.Val, key string) impl.Val {
	x, _ := impl.AtKey(v, key)
	return x
}

func TestReadValuesShareNothing(t *testing.T) {
	text := `{"key":["one","two",{"k":"v"}],"\u0041":"a\nb","n":[1,[2]]}`
	s, turn := looseText(text)
	v, ok := impl.ParseVal(s)
	turn()
	if !ok || !alike(v, must(t, text)) {
		t.Errorf("what is read shares its text: %v", v)
	}
}

func TestListsOfOneAnswerShareNothing(t *testing.T) {
	text := `{"a":[[1,2],[3,4],[]],"b":{"c":[5],"d":{"e":6}},"f":[]}`
	whole := mapVal([]string{"v"}, must(t, text))
	for _, read := range []func() impl.Val{
		func() impl.Val { return must(t, text) },
		func() impl.Val { return valAt(whole, "v") },
	} {
		want := read()
		for i := range want.L {
			got := read()
			scribble(got.L[i])
			for j := range want.L {
				if i != j && !alike(got.L[j], want.L[j]) {
					t.Errorf("the lists of %d lie over those of %d", i, j)
				}
			}
			if !slices.Equal(got.Keys, want.Keys) {
				t.Errorf("the lists of %d lie over the keys", i)
			}
		}
	}
}
