package tests

import (
	"slices"
	"testing"

	"loop.example/g00464/impl"
)

// looseCmp has c with the version over memory that can be turned.
func looseCmp(c impl.Cmp) (impl.Cmp, func()) {
	v, turn := looseVer(c.V)
	return impl.Cmp{Op: c.Op, V: v}, turn
}

// looseRange has r over memory that can be turned, and spare room behind its lists: behind each a Cmp that never holds, behind all a list that takes everything.
func looseRange(r [][]impl.Cmp) ([][]impl.Cmp, func()) {
	never, always := impl.Cmp{Op: impl.CmpLess}, []impl.Cmp{{Op: impl.CmpFrom}}
	out := slices.Repeat([][]impl.Cmp{always}, len(r)+3)
	var turns []func()
	for i, cmps := range r {
		out[i] = slices.Repeat([]impl.Cmp{never}, len(cmps)+3)
		for k := range cmps {
			c, turn := looseCmp(cmps[k])
			out[i][k], turns = c, append(turns, turn)
		}
		out[i] = out[i][:len(cmps)]
	}
	out = out[:len(r)]
	return out, func() {
		for _, turn := range turns {
			turn()
		}
		for i := range out {
			for k := range out[i] {
				out[i][k] = impl.Cmp{Op: 9, V: preVer("turned")}
			}
		}
	}
}

// rangeWithRoom has all of r, its spare room as if it were a part of it.
func rangeWithRoom(r [][]impl.Cmp) [][]impl.Cmp {
	out := slices.Clone(r[:cap(r)])
	for i := range out {
		out[i] = slices.Clone(out[i][:cap(out[i])])
		for k, c := range out[i] {
			out[i][k].V.Pre = slices.Clone(c.V.Pre[:cap(c.V.Pre)])
		}
	}
	return out
}

// looseRanges are right ones and wrong ones.
func looseRanges(t *testing.T) [][][]impl.Cmp {
	return [][][]impl.Cmp{
		nil, {{}}, {{}, {}}, rangeOf(t, "same 1.2.3"), rangeOf(t, "from 1.2.3-a less 2.0.0-0 or same 1.2.3-10.b"), rangeOf(t, "from 0.0.0 or more 1.0.0 upto 1.2.3-a.b.c less 2.0.0 or less 1.0.0 or same 9999.9999.9999"),
		{{{Op: 5, V: ver(1, 2, 3, "a")}}, {{Op: -1, V: ver(-1, 0, 0, "", "\xff")}, {Op: impl.CmpFrom, V: ver(1, 2, 3, "a", "b", "c", "d")}}},
	}
}

func TestRangesAreLeftAlone(t *testing.T) {
	for _, in := range looseRanges(t) {
		for _, of := range looseVers() {
			r, _ := looseRange(in)
			v, _ := looseVer(of)
			wholeR, wholePre := rangeWithRoom(r), slices.Clone(v.Pre[:cap(v.Pre)])
			if impl.InRange(r, v) != impl.InRange(in, of) || impl.RangeText(r) != impl.RangeText(in) {
				t.Errorf("%v takes others, or is told otherwise, with room behind its lists", in)
			}
			for i := range r {
				for k := range r[i] {
					if impl.CmpOk(r[i][k], v) != impl.CmpOk(in[i][k], of) {
						t.Errorf("%v takes others with room behind its Pre", in[i][k])
					}
				}
			}
			if !rangeAlike(rangeWithRoom(r), wholeR) || !slices.Equal(v.Pre[:cap(v.Pre)], wholePre) {
				t.Errorf("%v or %v is written into", in, of)
			}
		}
	}
}

func TestToldRangesShareNothing(t *testing.T) {
	for _, in := range looseRanges(t) {
		r, turn := looseRange(in)
		s := impl.RangeText(r)
		turn()
		if s != impl.RangeText(in) {
			t.Errorf("the text of %v shares its memory: %q", in, s)
		}
	}
}

func rangesToRead() map[string]string {
	return map[string]string{
		"1.2.3":                            "same 1.2.3",
		" 1.2.3-abcdefgh.10.x ":            "same 1.2.3-abcdefgh.10.x",
		"^1.2.3-a ~1.x || *":               "from 1.2.3-a less 2.0.0-0 from 1.0.0 less 2.0.0-0 or from 0.0.0",
		"1.2.3-a.b - 2.0.0-a.b||1||<=1||2": "from 1.2.3-a.b upto 2.0.0-a.b or from 1.0.0 less 2.0.0-0 or less 2.0.0-0 or from 2.0.0 less 3.0.0-0",
		"=1.0.0-a >1.0.0-a <1.0.0-a 1.0.0-a || =1.0.0-a >1.0.0-a": "same 1.0.0-a more 1.0.0-a less 1.0.0-a same 1.0.0-a or same 1.0.0-a more 1.0.0-a",
	}
}

func TestReadRangesShareNothing(t *testing.T) {
	for text, want := range rangesToRead() {
		s, turn := looseText(text)
		r, ok := impl.ParseRange(s)
		if s != text {
			t.Errorf("%q is written into", text)
		}
		turn()
		if !ok || !rangeAlike(r, rangeOf(t, want)) {
			t.Errorf("what is read of %q shares its memory: %v", text, r)
		}
	}
}

func scribbleTexts(l []string) {
	l = l[:cap(l)]
	for i := range l {
		l[i] = "scribble"
	}
}

// TestListsOfOneRangeShareNothing writes into one list of an answer at a time, and into the room behind it.
func TestListsOfOneRangeShareNothing(t *testing.T) {
	for text, told := range rangesToRead() {
		want := rangeOf(t, told)
		for i := range want {
			for k := range want[i] {
				r := readRange(t, text)
				scribbleTexts(r[i][k].V.Pre)
				r[i][k] = want[i][k]
				if !rangeAlike(r, want) {
					t.Errorf("the Pre of %d, %d of %q lies over another one: %v", i, k, text, r)
				}
			}
			r := readRange(t, text)
			cmps := r[i][:cap(r[i])]
			for k := range cmps {
				cmps[k] = impl.Cmp{Op: 9, V: preVer("scribble")}
			}
			r[i] = want[i]
			if !rangeAlike(r, want) {
				t.Errorf("the list %d of %q lies over another one: %v", i, text, r)
			}
		}
	}
}

func TestReadRangesShareNothingWithEachOther(t *testing.T) {
	for text, want := range rangesToRead() {
		first := readRange(t, text)
		for i := range first {
			for k := range first[i] {
				scribbleTexts(first[i][k].V.Pre)
				first[i][k] = impl.Cmp{Op: 9}
			}
			first[i] = nil
		}
		rightRange(t, text, want)
	}
}
