package tests

import (
	"bytes"
	"slices"
	"strings"
	"testing"
	"unsafe"

	"loop.example/g00464/impl"
)

// A loose text lies over bytes that the test can turn afterwards: an answer that shares its memory turns with them.
func looseText(s string) (string, func()) {
	room := []byte(s)
	return unsafe.String(unsafe.SliceData(room), len(room)), func() {
		for i := range room {
			room[i] ^= 0x55
		}
	}
}

func looseList(l []string) ([]string, func()) {
	var out []string
	var turns []func()
	for _, s := range l {
		x, turn := looseText(s)
		out, turns = append(out, x), append(turns, turn)
	}
	return out, func() {
		for _, turn := range turns {
			turn()
		}
	}
}

// roomy has b with spare room behind it that is told from what a function would write.
func roomy(b []byte) []byte {
	all := bytes.Repeat([]byte{0xaa}, len(b)+40)
	copy(all, b)
	return all[:len(b)]
}

func roomyTexts(l []string) []string {
	all := slices.Repeat([]string{"spare"}, len(l)+10)
	copy(all, l)
	return all[:len(l)]
}

func TestAnswersOfTextsShareNothing(t *testing.T) {
	s, turn := looseText("ab,cd,,ef")
	split, whole := impl.Split(s, ','), impl.Split(s, ';')
	turn()
	if !slices.Equal(split, []string{"ab", "cd", "", "ef"}) || !slices.Equal(whole, []string{"ab,cd,,ef"}) {
		t.Errorf("Split shares: %q %q", split, whole)
	}
	l, turn := looseList([]string{"bb", "aa", "bb"})
	by, turnBy := looseText("--")
	sorted, joined, one := impl.Sorted(l), impl.Join(l, by), impl.Join(l[:1], by)
	blank, between := impl.Join([]string{"", l[0]}, ""), impl.Join([]string{"", ""}, by)
	turn()
	turnBy()
	if !slices.Equal(sorted, []string{"aa", "bb"}) {
		t.Errorf("Sorted shares: %q", sorted)
	}
	if joined != "bb--aa--bb" || one != "bb" || blank != "bb" || between != "--" {
		t.Errorf("Join shares: %q %q %q %q", joined, one, blank, between)
	}
}

func TestAnswersOfListsShareNothing(t *testing.T) {
	for _, in := range [][]string{{"a", "b"}, {"b", "a", "a"}, {"a"}} {
		l := roomyTexts(in)
		got := impl.Sorted(l)
		want := slices.Clone(got)
		for i := range l[:cap(l)] {
			l[:cap(l)][i] = "turned"
		}
		if !slices.Equal(got, want) {
			t.Errorf("Sorted of %q shares: %q", in, got)
		}
	}
}

func TestListsAreLeftAlone(t *testing.T) {
	for _, in := range [][]string{nil, {""}, {"a", "b"}, {"b", "a", "a", "", "b"}} {
		l := roomyTexts(in)
		before := slices.Clone(l[:cap(l)])
		sorted := impl.Sorted(l)
		joined := impl.Join(l, ",")
		if slices.Contains(sorted, "spare") || strings.Contains(joined, "spare") {
			t.Errorf("the spare room of %q is handed out: %q %q", in, sorted, joined)
		}
		sorted = sorted[:cap(sorted)]
		for i := range sorted {
			sorted[i] = "turned"
		}
		if !slices.Equal(l[:cap(l)], before) {
			t.Errorf("%q is written into: %q", in, l[:cap(l)])
		}
	}
}

func TestBytesAreLeftAlone(t *testing.T) {
	for _, in := range []string{"", "\x09", "\x00\x02hi"} {
		for _, s := range []string{"", "x", strings.Repeat("x", 38), strings.Repeat("x", mostText), strings.Repeat("x", mostText+1)} {
			b := roomy([]byte(in))
			before := bytes.Clone(b[:cap(b)])
			got := impl.PutText(b, s)
			want := bytes.Clone(got)
			if !bytes.Equal(b[:cap(b)], before) {
				t.Errorf("PutText writes into %q or behind it", in)
			}
			for i := range b[:cap(b)] {
				b[:cap(b)][i] ^= 0x55
			}
			if !bytes.Equal(got, want) {
				t.Errorf("PutText of %q shares its bytes", in)
			}
			for i := range got[:cap(got)] {
				got[:cap(got)][i] = 0x11
			}
			for i := range before {
				if b[:cap(b)][i] != before[i]^0x55 {
					t.Fatalf("what PutText answers of %q lies over it", in)
				}
			}
		}
	}
}

func TestGotTextSharesNothing(t *testing.T) {
	b := roomy([]byte("\x00\x05hello\x00\x09"))
	before := bytes.Clone(b[:cap(b)])
	s, next, ok := impl.GetText(b, 0)
	if !bytes.Equal(b[:cap(b)], before) {
		t.Error("GetText writes into its bytes")
	}
	if x, n, found := impl.GetText(b, next); x != "" || n != 0 || found {
		t.Errorf("GetText reads the spare room: %q %d %v", x, n, found)
	}
	for i := range b[:cap(b)] {
		b[:cap(b)][i] ^= 0x55
	}
	if s != "hello" || next != 7 || !ok {
		t.Errorf("GetText shares: %q %d %v", s, next, ok)
	}
}

func TestPutTextHoldsItsOwnText(t *testing.T) {
	s, turn := looseText("hello")
	b := impl.PutText(nil, s)
	turn()
	if string(b) != "\x00\x05hello" {
		t.Errorf("PutText shares its text: %q", b)
	}
}
