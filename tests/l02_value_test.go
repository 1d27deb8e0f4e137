package tests

import (
	"bytes"
	"encoding/json"
	"math"
	"math/rand"
	"slices"
	"strconv"
	"strings"
	"testing"

	"loop.example/g00464/impl"
)

const (
	mostValNum   = 999999
	mostValText  = 60
	mostValDeep  = 6
	mostValCount = 80
)

func nullVal() impl.Val              { return impl.Val{} }
func boolVal(n int) impl.Val         { return impl.Val{K: impl.VBool, N: n} }
func numVal(n int) impl.Val          { return impl.Val{K: impl.VNum, N: n} }
func textVal(s string) impl.Val      { return impl.Val{K: impl.VText, S: s} }
func listVal(l ...impl.Val) impl.Val { return impl.Val{K: impl.VList, L: l} }
func nulls(n int) []impl.Val         { return make([]impl.Val, n) }
func isValByte(c int) bool           { return 32 <= c && c <= 126 || c == 9 || c == 10 }
func nested(deep int, s string) string {
	return strings.Repeat("[", deep) + s + strings.Repeat("]", deep)
}

func mapVal(keys []string, l ...impl.Val) impl.Val {
	return impl.Val{K: impl.VMap, Keys: keys, L: l}
}

func boxed(v impl.Val, deep int) impl.Val {
	for range deep {
		v = listVal(v)
	}
	return v
}

// isZeroVal does not lean on SameVal, which is under test, too.
func isZeroVal(v impl.Val) bool {
	return v.K == 0 && v.N == 0 && v.S == "" && len(v.L) == 0 && len(v.Keys) == 0
}

func alike(a, b impl.Val) bool {
	if a.K != b.K || a.N != b.N || a.S != b.S || !slices.Equal(a.Keys, b.Keys) {
		return false
	}
	return slices.EqualFunc(a.L, b.L, alike)
}

func rightVal(t *testing.T, v impl.Val, text string) {
	t.Helper()
	if !impl.ValOk(v) {
		t.Errorf("%q is not right", text)
	}
	if s := impl.ValText(v); s != text {
		t.Errorf("%q is told as %q", text, s)
	}
	if x, ok := impl.ParseVal(text); !ok || !alike(x, v) {
		t.Errorf("%q came back as %v, %v", text, x, ok)
	}
}

func wrongVal(t *testing.T, v impl.Val) {
	t.Helper()
	if impl.ValOk(v) {
		t.Errorf("%v is right", v)
	}
	if s := impl.ValText(v); s != "" {
		t.Errorf("%v is told as %q", v, s)
	}
}

func readAs(t *testing.T, text string, v impl.Val) {
	t.Helper()
	if x, ok := impl.ParseVal(text); !ok || !alike(x, v) {
		t.Errorf("%q is read as %v, %v", text, x, ok)
	}
}

func notRead(t *testing.T, text string) {
	t.Helper()
	if x, ok := impl.ParseVal(text); ok || !isZeroVal(x) {
		t.Errorf("%q is read as %v, %v", text, x, ok)
	}
}

func TestValuesToldAndRead(t *testing.T) {
	for text, v := range map[string]impl.Val{
		"null":                               nullVal(),
		"false":                              boolVal(0),
		"true":                               boolVal(1),
		"0":                                  numVal(0),
		"7":                                  numVal(7),
		"-1":                                 numVal(-1),
		"-10":                                numVal(-10),
		`""`:                                 textVal(""),
		`"a b"`:                              textVal("a b"),
		`"\"\\\n\t"`:                         textVal("\"\\\n\t"),
		`"/'[]{},:u0041"`:                    textVal("/'[]{},:u0041"),
		`"\\u0041\\n"`:                       textVal(`\u0041\n`),
		"[]":                                 listVal(),
		"[null]":                             listVal(nullVal()),
		"[[],{},\"\"]":                       listVal(listVal(), mapVal(nil), textVal("")),
		"[1,1,1]":                            listVal(numVal(1), numVal(1), numVal(1)),
		"{}":                                 mapVal(nil),
		`{"":0}`:                             mapVal([]string{""}, numVal(0)),
		`{"\t":1,"\n":2," ":3,"a":4,"ab":5}`: mapVal([]string{"\t", "\n", " ", "a", "ab"}, numVal(1), numVal(2), numVal(3), numVal(4), numVal(5)),
		`{"A":[true],"a":{"A":null}}`:        mapVal([]string{"A", "a"}, listVal(boolVal(1)), mapVal([]string{"A"}, nullVal())),
	} {
		rightVal(t, v, text)
	}
}

func TestValNumbers(t *testing.T) {
	for _, n := range []int{-mostValNum, -mostValNum + 1, -100000, -9, -1, 0, 1, 9, 10, 99, 100, 100000, mostValNum - 1, mostValNum} {
		rightVal(t, numVal(n), strconv.Itoa(n))
		rightVal(t, listVal(numVal(n)), "["+strconv.Itoa(n)+"]")
	}
	for _, n := range []int{-mostValNum - 1, mostValNum + 1, 1000001, 9999999, -9999999, 10000000, 1 << 32, math.MaxInt, math.MinInt} {
		wrongVal(t, numVal(n))
		wrongVal(t, listVal(numVal(n)))
		notRead(t, strconv.Itoa(n))
		notRead(t, "["+strconv.Itoa(n)+"]")
	}
	for _, s := range []string{"-0", "00", "01", "-01", "-00", "007", "0000001", "+1", "--1", "- 1", "-\n1", "-", "-a", "1-", "1.", "1.0", ".5", "1e3", "0x1", "1_0", "1 0", "1a", "18446744073709551617"} {
		notRead(t, s)
		notRead(t, "["+s+"]")
		notRead(t, `{"a":`+s+"}")
	}
}

func TestValTextOfEachByte(t *testing.T) {
	for c := range 256 {
		s := oneByte(c)
		for _, s := range []string{s, "a" + s, s + "a"} {
			if impl.ValOk(textVal(s)) != isValByte(c) || impl.ValOk(mapVal([]string{s}, nullVal())) != isValByte(c) {
				t.Error("byte", c)
			}
			if !isValByte(c) {
				wrongVal(t, textVal(s))
				wrongVal(t, mapVal([]string{s}, nullVal()))
			} else if x, ok := impl.ParseVal(impl.ValText(textVal(s))); !ok || !alike(x, textVal(s)) {
				t.Error("byte", c, "came back as", x, ok)
			}
		}
		if raw := 32 <= c && c <= 126 && c != '"' && c != '\\'; raw {
			readAs(t, `"`+s+`"`, textVal(s))
			readAs(t, `{"`+s+`":0}`, mapVal([]string{s}, numVal(0)))
		} else {
			notRead(t, `"`+s+`"`)
			notRead(t, `{"`+s+`":0}`)
		}
	}
}

func TestValEscapes(t *testing.T) {
	for c := range 256 {
		text := `"\` + oneByte(c) + `"`
		switch c {
		case '"', '\\':
			readAs(t, text, textVal(oneByte(c)))
		case 'n':
			readAs(t, text, textVal("\n"))
		case 't':
			readAs(t, text, textVal("\t"))
		default:
			notRead(t, text)
		}
	}
}

func TestValBytesByTheirDigits(t *testing.T) {
	const base16 = "0123456789abcdef"
	for c := range 256 {
		low := string(base16[c/16]) + string(base16[c%16])
		mixed := strings.ToUpper(low[:1]) + low[1:]
		for _, d := range []string{low, strings.ToUpper(low), mixed} {
			if isValByte(c) {
				readAs(t, `"\u00`+d+`"`, textVal(oneByte(c)))
				readAs(t, `"x\u00`+d+`41"`, textVal("x"+oneByte(c)+"41"))
				readAs(t, `{"\u00`+d+`":1}`, mapVal([]string{oneByte(c)}, numVal(1)))
			} else {
				notRead(t, `"\u00`+d+`"`)
				notRead(t, `{"\u00`+d+`":1}`)
			}
		}
		digit := strings.Contains(base16+"ABCDEF", oneByte(c))
		for _, text := range []string{`"\u004` + oneByte(c) + `"`, `"\u00` + oneByte(c) + `1"`} {
			x, ok := impl.ParseVal(text)
			if !digit && (ok || !isZeroVal(x)) {
				t.Errorf("%q is read as %v", text, x)
			}
		}
	}
	for _, s := range []string{`\u`, `\u0`, `\u00`, `\u004`, `\u0141`, `\u1041`, `\u0 41`, `\u00 1`, `\u+041`, `\u00+1`, `\u00-1`, `\u000x`, `\U0041`, `\x41`, `\u00_1`} {
		notRead(t, `"`+s+`"`)
		notRead(t, `"`+s)
	}
}

func TestValTextLength(t *testing.T) {
	for _, unit := range []string{"x", "\n", "\\", "\""} {
		full := strings.Repeat(unit, mostValText)
		for _, v := range []impl.Val{textVal(full), mapVal([]string{full}, nullVal()), listVal(textVal(full))} {
			x, ok := impl.ParseVal(impl.ValText(v))
			if !impl.ValOk(v) || !ok || !alike(x, v) {
				t.Errorf("60 of %q: %v %v", unit, x, ok)
			}
		}
		wrongVal(t, textVal(full+unit))
		wrongVal(t, mapVal([]string{full + unit}, nullVal()))
		wrongVal(t, listVal(textVal(full+unit)))
	}
	for _, unit := range []string{"x", `\n`, `\\`, `\u0041`} {
		full := strings.Repeat(unit, mostValText)
		for _, shape := range []string{`"%"`, `["%"]`, `{"%":1}`, `{"a":"%"}`} {
			if _, ok := impl.ParseVal(strings.Replace(shape, "%", full, 1)); !ok {
				t.Errorf("60 of %q in %s are refused", unit, shape)
			}
			notRead(t, strings.Replace(shape, "%", full+unit, 1))
			notRead(t, strings.Replace(shape, "%", strings.Repeat(full, 3), 1))
		}
	}
}

func TestValDeep(t *testing.T) {
	for _, leaf := range []impl.Val{nullVal(), numVal(1), textVal("a"), listVal(), mapVal(nil)} {
		text := impl.ValText(leaf)
		for deep := range 10 {
			v := boxed(leaf, deep)
			if deep+1 <= mostValDeep {
				rightVal(t, v, nested(deep, text))
				continue
			}
			wrongVal(t, v)
			notRead(t, nested(deep, text))
		}
	}
	for _, s := range []string{`{"a":{"a":{"a":{"a":{"a":1}}}}}`, `{"a":{"a":{"a":{"a":{"a":{}}}}}}`} {
		if x, ok := impl.ParseVal(s); !ok || impl.ValText(x) != s {
			t.Error(s, "is refused")
		}
	}
	wrongVal(t, mapVal([]string{"a", "b"}, nullVal(), boxed(numVal(1), mostValDeep-1)))
	notRead(t, `{"a":{"a":{"a":{"a":{"a":[1]}}}}}`)
	notRead(t, `[1,{"a":`+nested(4, "1")+"}]")
	notRead(t, nested(mostValDeep, ","))
	notRead(t, strings.Repeat("[", 1000000))
	notRead(t, strings.Repeat(`{"a":`, 1000000))
	notRead(t, nested(1000000, ""))
}

func TestValCount(t *testing.T) {
	row := func(n int) string { return "[" + strings.TrimSuffix(strings.Repeat("null,", n), ",") + "]" }
	rightVal(t, listVal(nulls(mostValCount-1)...), row(mostValCount-1))
	wrongVal(t, listVal(nulls(mostValCount)...))
	notRead(t, row(mostValCount))
	wrongVal(t, listVal(nulls(100000)...))
	notRead(t, row(100000))
	notRead(t, strings.TrimSuffix(row(mostValCount-1), "]")+",]")
	// Two rows and what holds them: 1 + (1 + 38) + (1 + 39) are 80.
	rightVal(t, listVal(listVal(nulls(38)...), listVal(nulls(39)...)), "["+row(38)+","+row(39)+"]")
	wrongVal(t, listVal(listVal(nulls(39)...), listVal(nulls(39)...)))
	notRead(t, "["+row(39)+","+row(39)+"]")
	for _, n := range []int{mostValCount - 1, mostValCount, 1000} {
		var keys, fields []string
		for i := range n {
			keys = append(keys, strconv.Itoa(1000+i))
			fields = append(fields, `"`+keys[i]+`":null`)
		}
		v, text := mapVal(keys, nulls(n)...), "{"+strings.Join(fields, ",")+"}"
		if n < mostValCount {
			rightVal(t, v, text)
		} else {
			wrongVal(t, v)
			notRead(t, text)
		}
	}
}

func TestFieldsThatAKindDoesNotName(t *testing.T) {
	turns := map[string]func(*impl.Val){
		"N":    func(v *impl.Val) { v.N = 1 },
		"-N":   func(v *impl.Val) { v.N = -1 },
		"S":    func(v *impl.Val) { v.S = "a" },
		"L":    func(v *impl.Val) { v.L = nulls(1) },
		"Keys": func(v *impl.Val) { v.Keys = []string{"a"} },
		"both": func(v *impl.Val) { v.Keys, v.L = []string{"a"}, nulls(1) },
	}
	named := []string{impl.VNull: "", impl.VBool: " N ", impl.VNum: " N -N ", impl.VText: " S ", impl.VList: " L ", impl.VMap: " both "}
	for k := range 6 {
		for name, turn := range turns {
			v := impl.Val{K: k}
			turn(&v)
			if ok := strings.Contains(named[k], " "+name+" "); impl.ValOk(v) != ok {
				t.Error("kind", k, "with", name, "is", !ok)
			} else if !ok {
				wrongVal(t, v)
				wrongVal(t, listVal(nullVal(), v))
				wrongVal(t, mapVal([]string{"a", "b"}, nullVal(), v))
			}
		}
		if !impl.ValOk(impl.Val{K: k, L: []impl.Val{}, Keys: []string{}}) {
			t.Error("kind", k, "with empty lists is refused")
		}
	}
}

func TestWrongValues(t *testing.T) {
	for _, k := range []int{-1, 6, 7, 256, math.MaxInt, math.MinInt} {
		wrongVal(t, impl.Val{K: k})
	}
	for _, n := range []int{-1, 2, 3, 256, math.MaxInt, math.MinInt} {
		wrongVal(t, boolVal(n))
	}
	for _, v := range []impl.Val{
		mapVal([]string{"a"}), mapVal(nil, nullVal()), mapVal([]string{"a"}, nulls(2)...), mapVal([]string{"a", "b"}, nullVal()),
		mapVal([]string{"a", "a"}, nulls(2)...), mapVal([]string{"b", "a"}, nulls(2)...), mapVal([]string{"ab", "a"}, nulls(2)...),
		mapVal([]string{"", ""}, nulls(2)...), mapVal([]string{"a", "b", "b"}, nulls(3)...), mapVal([]string{"a", "c", "b"}, nulls(3)...),
		mapVal([]string{"a", "B"}, nulls(2)...),
	} {
		wrongVal(t, v)
		wrongVal(t, listVal(v))
		wrongVal(t, mapVal([]string{"k"}, v))
	}
}

func TestWrongTexts(t *testing.T) {
	for _, s := range []string{
		"", " ", "\n", "n", "nul", "nulll", "NULL", "Null", "tru", "truee", "True", "fals", "falsee", "null null", "true,", "undefined", "a", "'a'", "n ull",
		"[", "]", "[]]", "[[]", "[1", "[1,", "[1,]", "[,]", "[,1]", "[1,,2]", "[1 2]", "[1;2]", "(1)", "[1}", "[truefalse]", "[\"a\"\"b\"]", "[1]1", "[] []",
		"{", "}", "{}}", "{1}", "{1:2}", "{a:1}", `{"a"}`, `{"a":}`, `{"a":1`, `{"a":1,`, `{"a":1,}`, `{,}`, `{,"a":1}`, `{"a":1,,"b":2}`, `{"a":1 "b":2}`, `{"a" 1}`, `{"a"::1}`, `{"a",1}`,
		`{"a":1]`, `{:1}`, `{null:1}`, `{[]:1}`, `{"a":1}{}`, `{"a" "b":1}`, `{"a":1:2}`,
		`"`, `"a`, `a"`, `"a""`, `"a" "b"`, `"\"`, `"\`, `"\q"`, `"\ "`, "\"\t\"", "\"\n\"", "\"\r\"", "\"\\r\"", `"\/"`, "\"\\\n\"", "\"\x00\"", "\"\x7f\"", "\"\xc3\xa9\"",
		"1,", ",1", ":", ",", "//1", "1//", "/**/1", "\xef\xbb\xbf1", "1\x00", "\x001", "1\x0b", "1\x0c", "\xa01", "1\xc2\xa0",
	} {
		notRead(t, s)
	}
}

func TestKeysInAnyOrder(t *testing.T) {
	want := mapVal([]string{"", "a", "ab", "b"}, numVal(1), numVal(2), numVal(3), numVal(4))
	fields := []string{`"":1`, `"a":2`, `"ab":3`, `"b":4`}
	for _, order := range [][]int{{0, 1, 2, 3}, {3, 2, 1, 0}, {1, 3, 0, 2}, {2, 0, 3, 1}, {1, 0, 3, 2}, {0, 1, 3, 2}} {
		var l []string
		for _, i := range order {
			l = append(l, fields[i])
		}
		readAs(t, "{"+strings.Join(l, ",")+"}", want)
		readAs(t, "[{"+strings.Join(l, ",")+"}]", listVal(want))
	}
}

func TestKeysThatAreAlike(t *testing.T) {
	for _, s := range []string{
		`{"a":1,"a":1}`, `{"a":1,"a":2}`, `{"a":1,"b":2,"a":3}`, `{"b":0,"a":1,"c":2,"a":3}`, `{"":1,"":2}`, `{"a":1, "a" :1}`,
		`{"a":1,"\u0061":2}`, `{"\u0061":1,"a":2}`, `{"\u004a":1,"\u004A":2}`, `{"\n":1,"\u000a":2}`, `{"\t":1,"\u0009":2}`, `{"\"":1,"\u0022":2}`, `{"\\":1,"\u005C":2}`,
	} {
		notRead(t, s)
		notRead(t, "["+s+"]")
		notRead(t, `{"x":`+s+"}")
	}
	for _, s := range []string{`{"a":1,"A":2}`, `{"a":1,"a ":2}`, `{"a":{"a":{"a":1}}}`, `[{"a":1},{"a":1}]`, `{"a":"a","b":"a"}`, `{"n":1,"\n":2,"\\n":3}`} {
		if _, ok := impl.ParseVal(s); !ok {
			t.Error(s, "is refused")
		}
	}
}

func TestBlanksBetweenAnyTwo(t *testing.T) {
	signs := []string{"{", `"a b"`, ":", "[", "null", ",", "true", ",", "-12", ",", "0", ",", `""`, "]", ",", `"c"`, ":", "{", "}", ",", `"d"`, ":", "[", "]", "}"}
	want, ok := impl.ParseVal(strings.Join(signs, ""))
	if !ok || len(want.L) != 3 {
		t.Fatal("without blanks:", want, ok)
	}
	for _, blank := range []string{" ", "\t", "\n", "\r", "  ", "\r\n", " \t\n\r \t\n\r"} {
		readAs(t, blank+strings.Join(signs, blank)+blank, want)
		for i := range len(signs) + 1 {
			readAs(t, strings.Join(signs[:i], "")+blank+strings.Join(signs[i:], ""), want)
		}
		for _, s := range []string{"null", "true", "false", "-1", "[]", "{}", `"a"`} {
			readAs(t, blank+s+blank, must(t, s))
		}
		notRead(t, blank)
		notRead(t, "["+blank+"]"+blank+"]")
		notRead(t, "["+blank+","+blank+"]")
		notRead(t, "-"+blank+"1")
		notRead(t, "tr"+blank+"ue")
		notRead(t, "1"+blank+"2")
		notRead(t, `"\`+blank+`n"`)
	}
	for c := range 256 {
		if blank := c == 32 || c == 9 || c == 10 || c == 13; !blank && !strings.Contains(digits, oneByte(c)) {
			notRead(t, oneByte(c))
			notRead(t, "["+oneByte(c)+",1]")
			notRead(t, "[1,"+oneByte(c)+"true]")
			notRead(t, "true"+oneByte(c))
		} else if blank {
			readAs(t, "["+oneByte(c)+"1"+oneByte(c)+"]", listVal(numVal(1)))
		}
	}
	readAs(t, strings.Repeat(" ", 1000000)+"1"+strings.Repeat("\n", 1000000), numVal(1))
}

func must(t *testing.T, s string) impl.Val {
	t.Helper()
	v, ok := impl.ParseVal(s)
	if !ok {
		t.Fatalf("%q is not read", s)
	}
	return v
}

func TestTextsCutShort(t *testing.T) {
	text := `{"a":[null,true,false,-12,"x\"\\\n\t\u0041"],"b":{"c":{}},"d":[]}`
	must(t, text)
	for n := range len(text) {
		notRead(t, text[:n])
	}
	for c := range 256 {
		if c != 32 && c != 9 && c != 10 && c != 13 {
			notRead(t, text+oneByte(c))
		}
	}
}

func TestSameVal(t *testing.T) {
	all := []impl.Val{
		nullVal(), boolVal(0), boolVal(1), numVal(0), numVal(1), numVal(-1), textVal(""), textVal("a"), textVal("ab"), listVal(), listVal(nullVal()), listVal(nullVal(), nullVal()),
		listVal(numVal(1), numVal(2)), listVal(numVal(2), numVal(1)), listVal(numVal(1), numVal(3)), listVal(listVal()), listVal(mapVal(nil)), mapVal(nil),
		mapVal([]string{"a"}, nullVal()), mapVal([]string{"b"}, nullVal()), mapVal([]string{"a"}, numVal(0)), mapVal([]string{"a", "b"}, nulls(2)...),
		boxed(numVal(1), 5), boxed(numVal(2), 5), listVal(numVal(1), listVal(textVal("a"))), listVal(numVal(1), listVal(textVal("b"))),
		// These are not right, and yet are the same in all their parts, or not.
		{K: 9}, {K: -1}, {N: 1}, {S: "a"}, {Keys: []string{"a"}}, {Keys: []string{"b"}}, {L: nulls(1)}, {K: impl.VMap, Keys: []string{"a"}}, {K: impl.VMap, L: nulls(1)},
		mapVal([]string{"b", "a"}, nulls(2)...), mapVal([]string{"a", "a"}, nulls(2)...), numVal(math.MaxInt), boxed(numVal(1), 40), boxed(numVal(2), 40), boxed(numVal(1), 41),
		listVal(nulls(500)...), listVal(nulls(501)...), textVal(strings.Repeat("\x00", 100)),
	}
	for i, a := range all {
		for j, b := range all {
			if impl.SameVal(a, b) != (i == j) || impl.SameVal(a, deepCopy(b)) != (i == j) {
				t.Error(a, b, i == j)
			}
		}
	}
	if !impl.SameVal(impl.Val{L: []impl.Val{}, Keys: []string{}}, nullVal()) || !impl.SameVal(listVal(), impl.Val{K: impl.VList, L: []impl.Val{}}) {
		t.Error("an empty list and nil are not the same")
	}
}

func deepCopy(v impl.Val) impl.Val {
	v.Keys = slices.Clone(v.Keys)
	v.L = slices.Clone(v.L)
	for i := range v.L {
		v.L[i] = deepCopy(v.L[i])
	}
	return v
}

func TestValuesThatHoldThemselves(t *testing.T) {
	ring := func(n int, leaf impl.Val) impl.Val {
		l := make([]impl.Val, n)
		for i := range l {
			l[i] = listVal(l...)
			l[i].L = l
		}
		l[n-1] = leaf
		return listVal(l...)
	}
	a, b, c := ring(3, numVal(1)), ring(3, numVal(1)), ring(3, numVal(2))
	if !impl.SameVal(a, a) || !impl.SameVal(a, b) || impl.SameVal(a, c) || impl.SameVal(a, listVal()) {
		t.Error("values that hold themselves are not told apart")
	}
	k := mapVal([]string{"a"}, nullVal())
	k.L[0] = k
	for _, v := range []impl.Val{a, c, k} {
		wrongVal(t, v)
		if x, ok := impl.AtKey(v, "a"); ok || !isZeroVal(x) {
			t.Error("of a value that holds itself:", x.K, ok)
		}
	}
}

func TestGreatValues(t *testing.T) {
	deep, like, other := boxed(numVal(1), 1000000), boxed(numVal(1), 1000000), boxed(numVal(2), 1000000)
	if impl.ValOk(deep) || impl.ValText(deep) != "" || !impl.SameVal(deep, like) || impl.SameVal(deep, other) {
		t.Error("a very deep value")
	}
	shared := nullVal()
	for range 60 {
		shared = listVal(shared, shared)
	}
	if impl.ValOk(shared) || !impl.SameVal(shared, shared) {
		t.Error("a value that holds others many times")
	}
}

func TestAtKey(t *testing.T) {
	v := must(t, `{"b":[1,{"c":2}],"a":null,"":"x","ab":{"a":true}}`)
	for key, text := range map[string]string{"a": "null", "b": `[1,{"c":2}]`, "": `"x"`, "ab": `{"a":true}`} {
		if x, ok := impl.AtKey(v, key); !ok || impl.ValText(x) != text {
			t.Errorf("at %q stands %v, %v", key, x, ok)
		}
	}
	for _, key := range []string{"c", "A", "abc", "a ", " ", "\x00", "null", strings.Repeat("x", 100)} {
		if x, ok := impl.AtKey(v, key); ok || !isZeroVal(x) {
			t.Errorf("at %q stands %v, %v", key, x, ok)
		}
	}
	for _, v := range []impl.Val{
		nullVal(), boolVal(1), numVal(1), textVal("a"), listVal(), mapVal(nil), listVal(mapVal([]string{"a"}, numVal(1))),
		{K: impl.VList, Keys: []string{"a"}, L: []impl.Val{numVal(1)}}, {K: impl.VNull, Keys: []string{"a"}, L: []impl.Val{numVal(1)}}, {K: 9, Keys: []string{"a"}, L: []impl.Val{numVal(1)}},
		mapVal([]string{"a"}), mapVal([]string{"0", "a"}, numVal(1)), mapVal([]string{"b", "a"}, numVal(1), numVal(2)), mapVal([]string{"a", "a"}, numVal(1), numVal(2)),
		mapVal([]string{"a"}, numVal(mostValNum+1)), mapVal([]string{"a"}, boxed(numVal(1), mostValDeep-1)),
	} {
		if x, ok := impl.AtKey(v, "a"); ok || !isZeroVal(x) {
			t.Errorf("of %v at a stands %v, %v", v, x, ok)
		}
	}
	if x, ok := impl.AtKey(mapVal([]string{"a"}, boxed(numVal(1), mostValDeep-2)), "a"); !ok || !alike(x, boxed(numVal(1), mostValDeep-2)) {
		t.Error("at the deepest:", x, ok)
	}
}

func someVal(r *rand.Rand, deep int, left *int) impl.Val {
	*left--
	kinds := 6
	if deep >= mostValDeep {
		kinds = 4
	}
	switch k := r.Intn(kinds); k {
	case impl.VBool:
		return boolVal(r.Intn(2))
	case impl.VNum:
		return numVal(r.Intn(2*mostValNum+1) - mostValNum)
	case impl.VText:
		return textVal(someText(r))
	case impl.VList, impl.VMap:
		v := impl.Val{K: k}
		for range r.Intn(6) {
			if *left > 0 {
				v.L = append(v.L, someVal(r, deep+1, left))
				v.Keys = append(v.Keys, someText(r))
			}
		}
		slices.Sort(v.Keys)
		if k == impl.VList || len(slices.Compact(slices.Clone(v.Keys))) < len(v.L) {
			v.K, v.Keys = impl.VList, nil
		}
		return v
	}
	return nullVal()
}

func someText(r *rand.Rand) string {
	const some = "ab01 \"\\\n\t{}[]:,~/un"
	var out []byte
	for range r.Intn(1 + r.Intn(mostValText+1)) {
		out = append(out, some[r.Intn(len(some))])
	}
	return string(out)
}

func TestValuesComeBack(t *testing.T) {
	r := rand.New(rand.NewSource(2))
	for range 20000 {
		left := mostValCount
		v := someVal(r, 1, &left)
		s := impl.ValText(v)
		x, ok := impl.ParseVal(s)
		if !ok || !alike(x, v) || !impl.SameVal(x, v) || impl.ValText(x) != s {
			t.Fatalf("%v, told as %q, came back as %v, %v", v, s, x, ok)
		}
		for i := range v.Keys {
			if x, ok := impl.AtKey(v, v.Keys[i]); !ok || !alike(x, v.L[i]) {
				t.Fatalf("%v has %v at %q", v, x, v.Keys[i])
			}
		}
		if !json.Valid([]byte(s)) {
			t.Fatalf("%q is no text that others read", s)
		}
	}
}

// TestTextsOfFewSigns holds all texts of few signs against another reader, which takes more kinds of numbers, and keys that are alike.
func TestTextsOfFewSigns(t *testing.T) {
	for _, signs := range []string{"[]{}\":,a1 ", "[],-01 \n", "\"\\nu04a1", "{}\"a:,1"} {
		texts := []string{""}
		for from := 0; len(texts) < 120000; from++ {
			for i := range signs {
				texts = append(texts, texts[from]+signs[i:i+1])
			}
		}
		for _, s := range texts {
			v, ok := impl.ParseVal(s)
			if want := othersRead(s); ok != want {
				t.Fatalf("%q is read as %v, %v", s, v, ok)
			}
			if ok && (!impl.ValOk(v) || !json.Valid([]byte(impl.ValText(v)))) || !ok && !isZeroVal(v) {
				t.Fatalf("%q is read as %v, %v", s, v, ok)
			}
		}
	}
}

func othersRead(s string) bool {
	d := json.NewDecoder(bytes.NewReader([]byte(s)))
	d.UseNumber()
	if !json.Valid([]byte(s)) {
		return false
	}
	type level struct {
		keys map[string]int
		key  bool
	}
	var open []level
	for {
		tok, err := d.Token()
		if err != nil {
			return len(open) == 0
		}
		inside := len(open) > 0 && open[len(open)-1].keys != nil
		if inside && tok != json.Delim('}') {
			at := &open[len(open)-1]
			at.key = !at.key
			if k, ok := tok.(string); ok && at.key {
				if at.keys[k]++; at.keys[k] > 1 || !othersText(k) {
					return false
				}
				continue
			}
		}
		switch x := tok.(type) {
		case json.Delim:
			switch x {
			case '[':
				open = append(open, level{})
			case '{':
				open = append(open, level{keys: map[string]int{}})
			default:
				open = open[:len(open)-1]
			}
			if len(open) > mostValDeep {
				return false
			}
		case json.Number:
			n, err := strconv.Atoi(x.String())
			if err != nil || x == "-0" || n < -mostValNum || n > mostValNum || len(open) >= mostValDeep {
				return false
			}
		case string:
			if !othersText(x) || len(open) >= mostValDeep {
				return false
			}
		}
	}
}

func othersText(s string) bool {
	for i := range len(s) {
		if !isValByte(int(s[i])) {
			return false
		}
	}
	return len(s) <= mostValText
}
