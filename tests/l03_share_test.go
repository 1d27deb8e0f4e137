package tests

import (
	"slices"
	"testing"

	"loop.example/g00464/impl"
)

// looseVer has v with its texts over bytes that can be turned, and spare room behind its Pre.
func looseVer(v impl.Ver) (impl.Ver, func()) {
	pre, turn := looseList(v.Pre)
	v.Pre = roomyTexts(pre)
	return v, func() {
		turn()
		for i := range v.Pre {
			v.Pre[i] = "turned"
		}
	}
}

// looseVers are right ones and wrong ones.
func looseVers() []impl.Ver {
	return []impl.Ver{
		ver(0, 0, 0), ver(1, 2, 3), ver(1, 2, 3, "a"), ver(1, 2, 3, "10", "b-"), ver(1, 2, 3, "10", "b", "abcdefgh"), ver(9999, 9999, 9999, "0"),
		ver(-1, 0, 0, "a"), ver(0, 0, 10000), ver(1, 2, 3, ""), ver(1, 2, 3, "01"), ver(1, 2, 3, "a", "b", "c", "d"), ver(1, 2, 3, "b", "\xff"),
	}
}

func TestVersionsAreLeftAlone(t *testing.T) {
	for _, in := range looseVers() {
		for _, other := range looseVers() {
			a, _ := looseVer(in)
			b, _ := looseVer(other)
			wholeA, wholeB := slices.Clone(a.Pre[:cap(a.Pre)]), slices.Clone(b.Pre[:cap(b.Pre)])
			if impl.VerOk(a) != impl.VerOk(in) || impl.VerText(a) != impl.VerText(in) {
				t.Errorf("%#v is another one with room behind it", in)
			}
			if impl.LessVer(a, b) != impl.LessVer(in, other) || impl.SameVer(a, b) != impl.SameVer(in, other) {
				t.Errorf("%#v and %#v are others with room behind them", in, other)
			}
			if !slices.Equal(a.Pre[:cap(a.Pre)], wholeA) || !slices.Equal(b.Pre[:cap(b.Pre)], wholeB) {
				t.Errorf("%#v or %#v is written into", in, other)
			}
		}
	}
}

// TestRoomBehindPreIsNotRead: one list lies over a part of the other.
func TestRoomBehindPreIsNotRead(t *testing.T) {
	whole := []string{"a", "b", "c", "d", ""}
	for n := range mostPre + 1 {
		v := preVer(whole[:n]...)
		if !impl.VerOk(v) || !impl.SameVer(v, preVer(slices.Clone(whole[:n])...)) {
			t.Errorf("%#v is not right", v)
		}
		longer := preVer(whole[:n+1]...)
		if impl.SameVer(v, longer) || impl.LessVer(v, longer) != (n > 0) || impl.LessVer(longer, v) != (n == 0) {
			t.Errorf("%#v and %#v", v, longer)
		}
	}
}

func TestToldVersionsShareNothing(t *testing.T) {
	for _, in := range looseVers() {
		v, turn := looseVer(in)
		s := impl.VerText(v)
		turn()
		if s != impl.VerText(in) {
			t.Errorf("the text of %#v shares its memory: %#v", in, s)
		}
	}
}

func TestReadVersionsShareNothing(t *testing.T) {
	for _, text := range []string{"1.2.3", "1.2.3-a", "1.2.3-rc-1.10.x", "9999.0.1-abcdefgh.12345678.--------"} {
		want, _ := impl.ParseVer(text)
		want.Pre = slices.Clone(want.Pre)
		s, turn := looseText(text)
		v, ok := impl.ParseVer(s)
		if s != text {
			t.Errorf("%#v is written into", text)
		}
		turn()
		if !ok || !verAlike(v, want) {
			t.Errorf("what is read of %#v shares its memory: %#v", text, v)
		}
	}
}

// TestReadVersionsShareNothingWithEachOther writes into all of one answer, and into the room behind it.
func TestReadVersionsShareNothingWithEachOther(t *testing.T) {
	const text = "1.2.3-a.10.b"
	first, _ := impl.ParseVer(text)
	for i := range first.Pre[:cap(first.Pre)] {
		first.Pre[:cap(first.Pre)][i] = "scribble"
	}
	if again, ok := impl.ParseVer(text); !ok || !verAlike(again, preVer("a", "10", "b")) || impl.VerText(again) != text {
		t.Errorf("%#v is read anew as %#v", text, again)
	}
}
