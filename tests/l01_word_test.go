package tests

import (
	"bytes"
	"math"
	"slices"
	"strings"
	"testing"

	"loop.example/g00464/impl"
)

const (
	smallLetters = "abcdefghijklmnopqrstuvwxyz"
	digits       = "0123456789"
	mostText     = 60000
	mostNum      = 9999999
)

func oneByte(c int) string { return string([]byte{byte(c)}) }

func TestNameOfEachByte(t *testing.T) {
	for c := range 256 {
		first := strings.Contains(smallLetters, oneByte(c))
		later := strings.Contains(smallLetters+digits+"-", oneByte(c))
		if impl.NameOk(oneByte(c)) != first || impl.NameOk(oneByte(c)+"a") != first {
			t.Error("first byte", c)
		}
		if impl.NameOk("a"+oneByte(c)) != later || impl.NameOk("abcdefghi"+oneByte(c)) != later || impl.NameOk("a"+oneByte(c)+"z") != later {
			t.Error("later byte", c)
		}
	}
}

func TestNameLength(t *testing.T) {
	for n := range 30 {
		if impl.NameOk(strings.Repeat("a", n)) != (1 <= n && n <= 10) {
			t.Error("name of", n)
		}
	}
}

func TestPlainOfEachByte(t *testing.T) {
	for c := range 256 {
		plain := 32 <= c && c <= 126
		for _, s := range []string{oneByte(c), "a" + oneByte(c), oneByte(c) + "a"} {
			if impl.PlainOk(s, 2) != plain {
				t.Error("plain byte", c)
			}
		}
	}
}

func TestPlainLength(t *testing.T) {
	for n := range 12 {
		s := strings.Repeat("~", n)
		if !impl.PlainOk(s, n) || !impl.PlainOk(s, math.MaxInt) || impl.PlainOk(s, n-1) || impl.PlainOk(s, math.MinInt) {
			t.Error("plain text of", n)
		}
	}
	if !impl.PlainOk("", 0) || impl.PlainOk("", -1) {
		t.Error("plain text of nothing")
	}
}

func TestNumText(t *testing.T) {
	for n, s := range map[int]string{
		0: "0", 1: "1", 9: "9", 10: "10", 99: "99", 100: "100", 1000000: "1000000", mostNum: "9999999", mostNum + 1: "10000000",
		math.MaxInt: "9223372036854775807", -1: "0", -10: "0", math.MinInt: "0",
	} {
		if x := impl.NumText(n); x != s {
			t.Errorf("%d is told as %q", n, x)
		}
	}
}

func TestNumbersComeBack(t *testing.T) {
	check := func(n int) {
		s := impl.NumText(n)
		for _, most := range []int{n, n + 1, mostNum, math.MaxInt} {
			if x, ok := impl.ParseNum(s, most); !ok || x != n {
				t.Error(n, "with most", most, "came back as", x, ok)
			}
		}
		if x, ok := impl.ParseNum(s, n-1); ok || x != 0 {
			t.Error(n, "is one past the most, and came back as", x, ok)
		}
		if x, ok := impl.ParseNum("0"+s, mostNum); ok || x != 0 {
			t.Error(n, "with a nought ahead came back as", x, ok)
		}
	}
	for n := 0; n <= mostNum; n += 991 {
		check(n)
	}
	for n := 1; n <= mostNum; n *= 10 {
		check(n - 1)
		check(n)
		check(n + 1)
	}
	check(mostNum)
}

func TestWrongNumbers(t *testing.T) {
	for _, s := range []string{
		"", " ", "00", "01", "007", "0000000", "0000001", "00000000", "10000000", "12345678", "99999999999999999999999",
		"-1", "-0", "+1", "+0", " 1", "1 ", "1\n", "1_0", "0x1", "1e3", "1.", "1.0", "a", "1a", "a1", "/", ":", "1/", "1:", "\x00", "1\x00", "\xff", "\xd9\xa1",
	} {
		for _, most := range []int{0, 1, 100, mostNum, math.MaxInt, -1, math.MinInt} {
			if x, ok := impl.ParseNum(s, most); ok || x != 0 {
				t.Errorf("%q with most %d is %d, %v", s, most, x, ok)
			}
		}
	}
	for _, most := range []int{-1, math.MinInt} {
		if x, ok := impl.ParseNum("0", most); ok || x != 0 {
			t.Error("0 with most", most, "is", x, ok)
		}
	}
}

func TestNumberOfEachByte(t *testing.T) {
	for c := range 256 {
		digit := strings.Contains(digits, oneByte(c))
		if x, ok := impl.ParseNum(oneByte(c), 9); ok != digit || digit && x != c-'0' || !digit && x != 0 {
			t.Error("byte", c, "is", x, ok)
		}
		if x, ok := impl.ParseNum("1"+oneByte(c), 99); ok != digit || digit && x != 10+c-'0' || !digit && x != 0 {
			t.Error("1 and byte", c, "is", x, ok)
		}
	}
}

func TestSplit(t *testing.T) {
	for _, c := range []struct {
		s    string
		by   byte
		want []string
	}{
		{"", ',', []string{""}},
		{",", ',', []string{"", ""}},
		{",,", ',', []string{"", "", ""}},
		{"a", ',', []string{"a"}},
		{"a,b", ',', []string{"a", "b"}},
		{",a,,b,", ',', []string{"", "a", "", "b", ""}},
		{"a,b", ';', []string{"a,b"}},
		{"a\x00b", 0, []string{"a", "b"}},
		{"a\xffb\xff", 0xff, []string{"a", "b", ""}},
		{"\xc3\xa9\xe9", 0xa9, []string{"\xc3", "\xe9"}},
		{"\xc3\xa9\xe9", 0xe9, []string{"\xc3\xa9", ""}},
	} {
		if l := impl.Split(c.s, c.by); !slices.Equal(l, c.want) {
			t.Errorf("%q by %q is %q", c.s, c.by, l)
		}
	}
}

// TestSplitAndJoin goes through all texts of up to 6 bytes of three.
func TestSplitAndJoin(t *testing.T) {
	texts := []string{""}
	for from := 0; len(texts[from]) < 6; from++ {
		for _, c := range []string{"a", ",", "\xff"} {
			texts = append(texts, texts[from]+c)
		}
	}
	for _, s := range texts {
		for _, by := range []string{",", "\xff", "x"} {
			l := impl.Split(s, by[0])
			if len(l) != strings.Count(s, by)+1 || impl.Join(l, by) != s || strings.Contains(strings.Join(l, ""), by) {
				t.Fatalf("%q by %q is %q", s, by, l)
			}
		}
	}
}

func TestJoin(t *testing.T) {
	for _, c := range []struct {
		l    []string
		by   string
		want string
	}{
		{nil, ",", ""},
		{[]string{}, ",", ""},
		{[]string{""}, ",", ""},
		{[]string{"", ""}, ",", ","},
		{[]string{"a"}, ",", "a"},
		{[]string{"a", "b"}, "", "ab"},
		{[]string{"a", "", "b"}, " || ", "a ||  || b"},
		{[]string{"\xff", "\x00"}, "\xc3", "\xff\xc3\x00"},
	} {
		if s := impl.Join(c.l, c.by); s != c.want {
			t.Errorf("%q by %q is %q", c.l, c.by, s)
		}
	}
}

func TestSorted(t *testing.T) {
	for _, c := range []struct{ l, want []string }{
		{nil, nil},
		{[]string{}, nil},
		{[]string{""}, []string{""}},
		{[]string{"", "", ""}, []string{""}},
		{[]string{"b", "a", "b", "a"}, []string{"a", "b"}},
		{[]string{"ab", "a", "abc", "b", ""}, []string{"", "a", "ab", "abc", "b"}},
		{[]string{"a10", "a9", "A", "a", "Z"}, []string{"A", "Z", "a", "a10", "a9"}},
		{[]string{"\xff", "\xc3\xa9", "z", "\x00", "a\x00", "a"}, []string{"\x00", "a", "a\x00", "z", "\xc3\xa9", "\xff"}},
	} {
		if l := impl.Sorted(c.l); !slices.Equal(l, c.want) {
			t.Errorf("%q in order is %q", c.l, l)
		}
	}
}

// TestSortedOfMany goes through all lists of up to 5 out of four texts.
func TestSortedOfMany(t *testing.T) {
	words := []string{"b", "", "ab", "a"}
	lists := [][]string{nil}
	for from := 0; len(lists[from]) < 5; from++ {
		for _, w := range words {
			lists = append(lists, append(slices.Clone(lists[from]), w))
		}
	}
	for _, l := range lists {
		got := impl.Sorted(l)
		for i := 1; i < len(got); i++ {
			if got[i-1] >= got[i] {
				t.Fatalf("%q in order is %q", l, got)
			}
		}
		for _, w := range words {
			if slices.Contains(l, w) != slices.Contains(got, w) {
				t.Fatalf("%q in order is %q", l, got)
			}
		}
	}
}

func TestPutText(t *testing.T) {
	for _, c := range []struct{ b, s, want string }{
		{"", "", "\x00\x00"},
		{"", "a", "\x00\x01a"},
		{"\x09\x08", "hi", "\x09\x08\x00\x02hi"},
		{"", "\xff\x00", "\x00\x02\xff\x00"},
	} {
		if b := impl.PutText([]byte(c.b), c.s); string(b) != c.want {
			t.Errorf("%q behind %q is %q", c.s, c.b, b)
		}
	}
	if b := impl.PutText(nil, strings.Repeat("x", 258)); b[0] != 1 || b[1] != 2 || len(b) != 260 {
		t.Error("the higher byte is not first:", b[0], b[1], len(b))
	}
}

func TestPutTextTooLong(t *testing.T) {
	for _, n := range []int{mostText + 1, 65535, 65536, 65537, 131072} {
		if b := impl.PutText([]byte{7, 8}, strings.Repeat("x", n)); !bytes.Equal(b, []byte{7, 8}) {
			t.Error("of a text of", n, "there are", len(b))
		}
		if b := impl.PutText(nil, strings.Repeat("x", n)); len(b) != 0 {
			t.Error("of a text of", n, "behind nothing there are", len(b))
		}
	}
}

func TestTextsComeBack(t *testing.T) {
	var texts []string
	for _, n := range []int{0, 1, 2, 3, 127, 128, 254, 255, 256, 257, 511, 512, 59999, mostText} {
		s := make([]byte, n)
		for i := range s {
			s[i] = byte(i*7 + n)
		}
		texts = append(texts, string(s))
	}
	var b []byte
	for _, s := range texts {
		b = impl.PutText(b, s)
	}
	at := 0
	for _, s := range texts {
		x, next, ok := impl.GetText(b, at)
		if !ok || x != s || next != at+2+len(s) {
			t.Fatal("a text of", len(s), "at", at, "came back with", len(x), next, ok)
		}
		at = next
	}
	if at != len(b) {
		t.Error("read", at, "of", len(b))
	}
}

func noText(t *testing.T, b []byte, at int) {
	t.Helper()
	if s, next, ok := impl.GetText(b, at); s != "" || next != 0 || ok {
		t.Error("at", at, "of", len(b), "stands", len(s), next, ok)
	}
}

func TestGetTextPlaces(t *testing.T) {
	b := impl.PutText(impl.PutText(nil, "ab"), "")
	for _, at := range []int{-1, -2, -len(b), math.MinInt, math.MinInt + 1, len(b) - 1, len(b), len(b) + 1, math.MaxInt, math.MaxInt - 1, math.MaxInt - 2} {
		noText(t, b, at)
		noText(t, nil, at)
	}
	noText(t, nil, 0)
	if s, next, ok := impl.GetText(b, len(b)-2); s != "" || next != len(b) || !ok {
		t.Error("the last place that can be:", s, next, ok)
	}
}

func TestGetTextCut(t *testing.T) {
	b := impl.PutText(nil, strings.Repeat("x", 300))
	for n := range len(b) {
		noText(t, b[:n], 0) // what is cut off still stands in the spare room
	}
	long := impl.PutText(nil, strings.Repeat("x", mostText))
	noText(t, long[:len(long)-1], 0)
}

func TestGetTextTooLong(t *testing.T) {
	b := make([]byte, 2+65535)
	for _, n := range []int{mostText + 1, 65535} {
		b[0], b[1] = byte(n>>8), byte(n)
		noText(t, b, 0)
	}
	b[0], b[1] = mostText>>8, mostText&255
	if s, next, ok := impl.GetText(b, 0); len(s) != mostText || next != 2+mostText || !ok {
		t.Error("the longest text:", len(s), next, ok)
	}
}

// TestGetTextOfAll goes through all lists of up to 5 bytes out of four.
func TestGetTextOfAll(t *testing.T) {
	lists := [][]byte{nil}
	for from := 0; len(lists[from]) < 5; from++ {
		for _, c := range []byte{0, 1, 2, 255} {
			lists = append(lists, append(slices.Clone(lists[from]), c))
		}
	}
	for _, b := range lists {
		for at := -2; at < len(b)+3; at++ {
			s, next, ok := impl.GetText(b, at)
			if !ok {
				if s != "" || next != 0 {
					t.Fatal(b, at, s, next)
				}
				continue
			}
			if next > len(b) || string(impl.PutText(b[:at], s)) != string(b[:next]) {
				t.Fatal(b, at, s, next)
			}
		}
		if len(b) >= 2 && b[0] == 0 && int(b[1]) <= len(b)-2 {
			if _, _, ok := impl.GetText(b, 0); !ok {
				t.Fatal(b, "is a text")
			}
		}
	}
}
