package tests

import (
	"fmt"
	"math/rand"
	"regexp"
	"slices"
	"strconv"
	"strings"
	"testing"

	"loop.example/g00464/impl"
)

const (
	mostLists = 4
	mostCmps  = 4
)

// opNames tell Cmps in the tests: `from 1.2.3 less 2.0.0-0 or same 3.0.0`.
func opNames() []string { return []string{"same", "less", "upto", "more", "from"} }

func opSigns() []string { return []string{"=", "<", "<=", ">", ">="} }

func rangeOf(t *testing.T, told string) [][]impl.Cmp {
	t.Helper()
	var out [][]impl.Cmp
	for _, list := range strings.Split(told, " or ") {
		words := strings.Fields(list)
		var cmps []impl.Cmp
		for i := 0; i+1 < len(words); i += 2 {
			v, ok := impl.ParseVer(words[i+1])
			op := slices.Index(opNames(), words[i])
			if !ok || op < 0 {
				t.Fatalf("the test tells no range: %q", told)
			}
			cmps = append(cmps, impl.Cmp{Op: op, V: v})
		}
		out = append(out, cmps)
	}
	return out
}

// signedText is what RangeText is to tell of the range.
func signedText(told string) string {
	told = strings.ReplaceAll(told, " or ", " || ")
	for i, name := range opNames() {
		told = strings.ReplaceAll(told, name+" ", opSigns()[i])
	}
	return told
}

func rangeAlike(a, b [][]impl.Cmp) bool {
	return slices.EqualFunc(a, b, func(x, y []impl.Cmp) bool {
		return slices.EqualFunc(x, y, func(c, d impl.Cmp) bool { return c.Op == d.Op && verAlike(c.V, d.V) })
	})
}

// rightRange reads text, tells what was read, and reads that anew.
func rightRange(t *testing.T, text, want string) {
	t.Helper()
	r := rangeOf(t, want)
	got, ok := impl.ParseRange(text)
	if !ok || !rangeAlike(got, r) {
		t.Errorf("%q is read as %v, %v", text, got, ok)
	}
	told := impl.RangeText(got)
	if told != signedText(want) {
		t.Errorf("%q is told as %q", text, told)
	}
	if again, ok := impl.ParseRange(told); !ok || !rangeAlike(again, r) {
		t.Errorf("%q is read anew as %v, %v", told, again, ok)
	}
}

func noRange(t *testing.T, text string) {
	t.Helper()
	if r, ok := impl.ParseRange(text); ok || len(r) != 0 {
		t.Errorf("%q is read as %v, %v", text, r, ok)
	}
}

// rangeOrNone wants none where a version that want needs is not told.
func rangeOrNone(t *testing.T, text, want string, needs ...string) {
	t.Helper()
	if slices.Contains(needs, "") {
		noRange(t, text)
	} else {
		rightRange(t, text, want)
	}
}

func TestNumbersOfOps(t *testing.T) {
	if impl.CmpEq != 0 || impl.CmpLess != 1 || impl.CmpUpTo != 2 || impl.CmpMore != 3 || impl.CmpFrom != 4 {
		t.Error("Ops have other numbers")
	}
}

func TestSignsWithAVersion(t *testing.T) {
	for _, z := range []struct{ v, tilde, caret string }{
		{"1.2.3", "1.3.0", "2.0.0"},
		{"1.2.0", "1.3.0", "2.0.0"},
		{"1.0.0", "1.1.0", "2.0.0"},
		{"1.0.3", "1.1.0", "2.0.0"},
		{"0.2.3", "0.3.0", "0.3.0"},
		{"0.2.0", "0.3.0", "0.3.0"},
		{"0.0.3", "0.1.0", "0.0.4"},
		{"0.0.0", "0.1.0", "0.0.1"},
		{"10.20.30", "10.21.0", "11.0.0"},
		{"1.2.3-a", "1.3.0", "2.0.0"},
		{"1.2.3-x.0.x", "1.3.0", "2.0.0"},
		{"0.2.3-0", "0.3.0", "0.3.0"},
		{"0.0.3-rc.1", "0.1.0", "0.0.4"},
		{"0.0.0--", "0.1.0", "0.0.1"},
		{"9998.9998.9998", "9998.9999.0", "9999.0.0"},
		{"9999.9999.9999", "", ""},
		{"9999.9999.9999-a", "", ""},
		{"9999.0.0", "9999.1.0", ""},
		{"9998.9999.0", "", "9999.0.0"},
		{"1.2.9999", "1.3.0", "2.0.0"},
		{"0.9999.9999", "", ""},
		{"0.9998.9999", "0.9999.0", "0.9999.0"},
		{"0.0.9999", "0.1.0", ""},
		{"0.0.9998", "0.1.0", "0.0.9999"},
	} {
		rightRange(t, z.v, "same "+z.v)
		rightRange(t, "="+z.v, "same "+z.v)
		rightRange(t, ">="+z.v, "from "+z.v)
		rightRange(t, ">"+z.v, "more "+z.v)
		rightRange(t, "<="+z.v, "upto "+z.v)
		rightRange(t, "<"+z.v, "less "+z.v)
		rangeOrNone(t, "~"+z.v, "from "+z.v+" less "+z.tilde+"-0", z.tilde)
		rangeOrNone(t, "^"+z.v, "from "+z.v+" less "+z.caret+"-0", z.caret)
	}
}

func TestSignsWithAPart(t *testing.T) {
	for _, z := range []struct {
		forms                    string
		from, next, tilde, caret string
	}{
		{"1 1.x 1.x.x", "1.0.0", "2.0.0", "2.0.0", "2.0.0"},
		{"1.2 1.2.x", "1.2.0", "1.3.0", "1.3.0", "2.0.0"},
		{"1.0 1.0.x", "1.0.0", "1.1.0", "1.1.0", "2.0.0"},
		{"0 0.x 0.x.x", "0.0.0", "1.0.0", "1.0.0", "1.0.0"},
		{"0.0 0.0.x", "0.0.0", "0.1.0", "0.1.0", "0.1.0"},
		{"0.2 0.2.x", "0.2.0", "0.3.0", "0.3.0", "0.3.0"},
		{"10 10.x 10.x.x", "10.0.0", "11.0.0", "11.0.0", "11.0.0"},
		{"99.99 99.99.x", "99.99.0", "99.100.0", "99.100.0", "100.0.0"},
		{"9998 9998.x 9998.x.x", "9998.0.0", "9999.0.0", "9999.0.0", "9999.0.0"},
		{"9999 9999.x 9999.x.x", "9999.0.0", "", "", ""},
		{"9999.1 9999.1.x", "9999.1.0", "9999.2.0", "9999.2.0", ""},
		{"9999.9998 9999.9998.x", "9999.9998.0", "9999.9999.0", "9999.9999.0", ""},
		{"9999.9999 9999.9999.x", "9999.9999.0", "", "", ""},
		{"1.9999 1.9999.x", "1.9999.0", "", "", "2.0.0"},
		{"0.9999 0.9999.x", "0.9999.0", "", "", ""},
		{"0.9998 0.9998.x", "0.9998.0", "0.9999.0", "0.9999.0", "0.9999.0"},
	} {
		for _, form := range strings.Fields(z.forms) {
			rangeOrNone(t, form, "from "+z.from+" less "+z.next+"-0", z.next)
			rangeOrNone(t, "="+form, "from "+z.from+" less "+z.next+"-0", z.next)
			rangeOrNone(t, ">="+form, "from "+z.from)
			rangeOrNone(t, "<"+form, "less "+z.from)
			rangeOrNone(t, ">"+form, "from "+z.next, z.next)
			rangeOrNone(t, "<="+form, "less "+z.next+"-0", z.next)
			rangeOrNone(t, "~"+form, "from "+z.from+" less "+z.tilde+"-0", z.tilde)
			rangeOrNone(t, "^"+form, "from "+z.from+" less "+z.caret+"-0", z.caret)
		}
	}
}

func TestStar(t *testing.T) {
	rightRange(t, "*", "from 0.0.0")
	rightRange(t, "* * * *", "from 0.0.0 from 0.0.0 from 0.0.0 from 0.0.0")
	rightRange(t, ">1 *", "from 2.0.0 from 0.0.0")
	rightRange(t, "*||*", "from 0.0.0 or from 0.0.0")
	for _, s := range []string{"**", "*.*", "*.x", "1.*", "1.2.*", "1.*.*", "*.1", "* - *", "1.2.3 - *", "* - 1.2.3", "* *  *", "*1", "1*"} {
		noRange(t, s)
	}
	for _, sign := range append(opSigns(), "^", "~") {
		noRange(t, sign+"*")
	}
}

func TestBetweenTwoVersions(t *testing.T) {
	rightRange(t, "1.2.3 - 2.0.0", "from 1.2.3 upto 2.0.0")
	rightRange(t, "2.0.0 - 1.2.3", "from 2.0.0 upto 1.2.3")
	rightRange(t, "0.0.0 - 9999.9999.9999", "from 0.0.0 upto 9999.9999.9999")
	rightRange(t, "1.2.3-a - 1.2.3-b.1", "from 1.2.3-a upto 1.2.3-b.1")
	rightRange(t, "1.2.3-- - 1.2.3---", "from 1.2.3-- upto 1.2.3---")
	rightRange(t, "   1.2.3 - 2.0.0  ||  3.0.0 - 4.0.0   ", "from 1.2.3 upto 2.0.0 or from 3.0.0 upto 4.0.0")
	for _, s := range []string{
		"1 - 2", "1.2 - 2.0.0", "1.2.3 - 2", "1.2.3 - 2.0", "1.x - 2.0.0", "1.2.3 - 2.x", "1.2.x - 2.0.0", "1.2.3 - 2.0.x", "1.x.x - 2.x.x", "1.2.3 - 2.x.x",
		"=1.2.3 - 2.0.0", "1.2.3 - =2.0.0", ">=1.2.3 - <=2.0.0", "^1.2.3 - 2.0.0", "1.2.3 - ~2.0.0",
		"1.2.3  - 2.0.0", "1.2.3 -  2.0.0", "1.2.3  -  2.0.0", "1.2.3 -2.0.0", "1.2.3- 2.0.0", "1.2.3 -- 2.0.0", "1.2.3 - - 2.0.0", "1.2.3\t-\t2.0.0", "1.2.3 – 2.0.0",
		"1.2.3 -", "- 2.0.0", "-", " - ", "- -", "- - -", "1.2.3 - ", " - 2.0.0", "1.2.3 - ||", "1.2.3 - || 2.0.0",
		"1.2.3 - 2.0.0 3.0.0", "3.0.0 1.2.3 - 2.0.0", "1.2.3 - 2.0.0 - 3.0.0", "1.2.3 - 2.0.0 4.0.0 - 5.0.0", "1.2.3 - 10000.0.0", "10000.0.0 - 1.2.3", "1.2.3 - 02.0.0", "a - b",
	} {
		noRange(t, s)
	}
}

func TestHowManyLists(t *testing.T) {
	lists := []struct{ text, want string }{
		{"1.2.3", "same 1.2.3"}, {"^0.0.1", "from 0.0.1 less 0.0.2-0"}, {"*", "from 0.0.0"}, {"1.2.3 - 2.0.0", "from 1.2.3 upto 2.0.0"}, {"1 <=2.x", "from 1.0.0 less 2.0.0-0 less 3.0.0-0"},
	}
	for _, or := range []string{"||", " || ", "|| ", " ||", "   ||      "} {
		for first := range lists {
			var texts, wants []string
			for n := range 8 {
				at := lists[(first+n)%len(lists)]
				texts, wants = append(texts, at.text), append(wants, at.want)
				text := strings.Join(texts, or)
				if len(texts) <= mostLists {
					rightRange(t, text, strings.Join(wants, " or "))
				} else {
					noRange(t, text)
				}
				for i := range len(texts) + 1 {
					noRange(t, strings.Join(slices.Insert(slices.Clone(texts), i, ""), or))
				}
			}
		}
	}
	noRange(t, "1"+strings.Repeat("||1", 200000))
	noRange(t, strings.Repeat("|", 200000))
}

func TestHowManyCmps(t *testing.T) {
	words := []struct {
		text, want string
		n          int
	}{
		{"1.2.3", "same 1.2.3", 1}, {"*", "from 0.0.0", 1}, {">2", "from 3.0.0", 1}, {"<=2.1", "less 2.2.0-0", 1},
		{"1.x", "from 1.0.0 less 2.0.0-0", 2}, {"~1.2.3-a", "from 1.2.3-a less 1.3.0-0", 2}, {"^0.0", "from 0.0.0 less 0.1.0-0", 2},
	}
	for code := range 7 * 8 * 8 * 8 * 8 {
		var texts, wants []string
		n := 0
		for rest := code + 1; rest > 0; rest /= len(words) + 1 {
			if at := rest % (len(words) + 1); at > 0 {
				texts, wants = append(texts, words[at-1].text), append(wants, words[at-1].want)
				n += words[at-1].n
			}
		}
		for _, more := range []string{"", " || 7.0.0"} {
			text, want := strings.Join(texts, " ")+more, strings.Join(wants, " ")+strings.Replace(more, " || ", " or same ", 1)
			if n <= mostCmps {
				rightRange(t, text, want)
			} else {
				noRange(t, text)
			}
		}
	}
	noRange(t, ">=1 <2 >3 <4 >5")
	noRange(t, "1.2.3"+strings.Repeat(" 1.2.3", 200000))
}

func TestBlanksAround(t *testing.T) {
	const none, many = "", "     "
	for _, z := range []struct{ text, want string }{
		{"1.2.3", "same 1.2.3"}, {"*", "from 0.0.0"}, {">=1 <2.0.0", "from 1.0.0 less 2.0.0"}, {"1.2.3 - 2.0.0", "from 1.2.3 upto 2.0.0"}, {"~1 =1.5.x", "from 1.0.0 less 2.0.0-0 from 1.5.0 less 1.6.0-0"},
	} {
		for _, ahead := range []string{none, " ", "  ", many} {
			for _, behind := range []string{none, " ", "  ", many} {
				around := ahead + z.text + behind
				rightRange(t, around, z.want)
				rightRange(t, around+"||"+around, z.want+" or "+z.want)
			}
		}
		for i := range len(z.text) {
			if z.text[i] == ' ' {
				noRange(t, z.text[:i]+" "+z.text[i:])
				noRange(t, z.text[:i]+many+z.text[i:])
			}
		}
		for _, c := range []string{"\t", "\n", "\r", "\v", "\x00", "\u00a0", "\u2003"} {
			for _, s := range []string{c + z.text, z.text + c, z.text + " " + c, c + " " + z.text, z.text + c + "||" + z.text, z.text + "||" + c + z.text, strings.ReplaceAll(z.text, " ", c) + c} {
				noRange(t, s)
			}
		}
	}
	for _, s := range []string{"> =1", ">= 1", "^ 1.2.3", "~ 1", "= 1.2.3", "< 2", "1. 2.3", "1 .2.3", "1.2.3 -a", "1.2.3- a", "1.2.3 | | 2.0.0", "1 | 2", "1 x", "1. x"} {
		noRange(t, s)
	}
}

func TestWrongRangeTexts(t *testing.T) {
	for _, s := range []string{
		"", " ", "    ", "|", "||", "|||", "||||", " || ", "1||", "||1", "1 ||", "|| 1", "1||||2", "1|||2", "1|2", "1 | 2", "1||2|", "|1||2", "1 || || 2",
		"x", "X", "x.x", "x.x.x", "x.1", "x.1.2", "x.2.3", "1.x.2", "1.x.2.x", "1.X", "1.2.X", "1.xx", "1.2.xx", "x1", "1x", "1.2x", "1.2.3x", "1.x.", "1.x.x.", "1.x.x.x", "1.2.x.x", "1.2.3.x", "1.2.x-a", "1.x-a", "1-a", "1.2-a", "1.2.x.3", "1..x", "1.x..x", "1.-x",
		"1.", ".1", ".", "..", "1..2", "1.2.", ".1.2", "1.2.3.", "1.2.3.4", "1.2.3-", "1.2.3-a.", "1.2.3-a.b.c.d", "1.2.3-01", "1.2.3-ninebytes", "1.2.3+a", "1,2", "1.2,3",
		"=", "<", ">", "<=", ">=", "~", "^", "==", "==1", "=<1", "=>1", "><1", "<>1", ">>1", "<<1", "<==1", ">==1", "^^1", "~~1", "~>1", "^~1", "~^1", "^=1", "=^1", "~=1", ">~1", "!1", "!=1", "-1", "+1", "v1", "v1.2.3", "=v1.2.3", "^x", "~x", ">x", ">=x", "<x.x", "=x.x.x", "1=", "1.2.3=", "1>2", "1<2", "1^", "1~", "1>=",
		"01", "00", "1.02", "1.00", "01.x", "1.02.x", "01.2.3", "1.2.03", "10000", "1.10000", "10000.x", "1.10000.x", "10000.1", "10000.0.0", "0.10000.0", "0.0.10000", "99999999999999999999", "1.18446744073709551617", "9223372036854775808.x.x", ">=10000", "<10000", "<1.10000", "-0", "1.-2", "+1.2", "0x1", "1e1", "1_0",
		"a", "abc", "latest", "1.a", "1.2.a", "1.2.3-a_", "1.2.3 and 2", "1, 2", "1;2", "(1)", "[1]", "1.2.3 ||| 2.0.0", "1 2 a", "a 1", "1 || a", "a || 1", "1.2.3 - 2.0.0 || a",
		"\x00", "1\x00", "\x001", "1.2.3\x00", "\x7f", "1\x7f", "1.x\x7f", "\x80", "1\x80", "\xff", ">=\xff", "1.2.3\xff", "1.2.3-\xff", "1.2.3-é", "≥1", "≤1.2.3", "１", "1.\u0662", "1.х", "1.×", "1\u01002", "\xef\xbb\xbf1", "\u0131", "1 || \u0131", "1.2.3 \u2013 2.0.0",
	} {
		noRange(t, s)
	}
	noRange(t, strings.Repeat("1", 200000))
	noRange(t, "1"+strings.Repeat(".x", 200000))
	noRange(t, strings.Repeat(">", 200000))
	noRange(t, strings.Repeat(" ", 200000))
	noRange(t, strings.Repeat("-", 200000)+"1")
	rightRange(t, strings.Repeat(" ", 200000)+"1.2.3"+strings.Repeat(" ", 200000), "same 1.2.3")
}

const partShape = `(` + verNumShape + `)(?:\.x(?:\.x)?|\.(` + verNumShape + `)(?:\.x|\.(` + verNumShape + `)(-[0-9A-Za-z.-]+)?)?)?`

var wordShape = regexp.MustCompile(`\A(\^|~|>=|>|<=|<|=|)` + partShape + `\z`)

// othersRange tells by patterns what is to be read of a text, in the tests' own words.
func othersRange(s string) (string, bool) {
	var lists []string
	for _, text := range strings.Split(s, "||") {
		text = strings.TrimLeft(strings.TrimRight(text, " "), " ")
		list, ok := "", true
		if from, upTo, between := strings.Cut(text, " - "); between {
			list, ok = "from "+from+" upto "+upTo, isVerText(from) && isVerText(upTo)
		} else {
			list, ok = othersWords(strings.Split(text, " "))
		}
		if !ok {
			return "", false
		}
		lists = append(lists, list)
	}
	return strings.Join(lists, " or "), len(lists) <= mostLists
}

func othersWords(words []string) (string, bool) {
	var out []string
	for _, word := range words {
		if word == "*" {
			out = append(out, "from 0.0.0")
			continue
		}
		cmps, ok := othersWord(word)
		if !ok {
			return "", false
		}
		out = append(out, cmps)
	}
	list := strings.Join(out, " ")
	return list, len(strings.Fields(list)) <= 2*mostCmps
}

func othersWord(word string) (string, bool) {
	found := wordShape.FindStringSubmatch(word)
	if found == nil {
		return "", false
	}
	sign, nums, last, firstNot0 := found[1], []int{}, -1, -1
	for i, s := range found[2:5] {
		n, err := strconv.Atoi(s)
		if err == nil {
			last = i
		}
		if n != 0 && firstNot0 < 0 {
			firstNot0 = i
		}
		nums = append(nums, n)
	}
	v := fmt.Sprintf("%d.%d.%d%s", nums[0], nums[1], nums[2], found[5])
	if !isVerText(v) {
		return "", false
	}
	if firstNot0 < 0 {
		firstNot0 = last
	}
	if i := slices.Index(opSigns(), sign); i > 0 && (last == 2 || sign == "<" || sign == ">=") {
		return opNames()[i] + " " + v, true
	}
	switch sign {
	case "~":
		return fromAndLess(v, nums, min(last, 1))
	case "^":
		return fromAndLess(v, nums, firstNot0)
	case ">":
		next, ok := oneMoreAt(nums, last)
		return "from " + next, ok
	case "<=":
		next, ok := oneMoreAt(nums, last)
		return "less " + next + "-0", ok
	}
	if last == 2 {
		return "same " + v, true
	}
	return fromAndLess(v, nums, last)
}

func fromAndLess(v string, nums []int, at int) (string, bool) {
	next, ok := oneMoreAt(nums, at)
	return "from " + v + " less " + next + "-0", ok
}

func oneMoreAt(nums []int, at int) (string, bool) {
	out := []string{"0", "0", "0"}
	for i := range at + 1 {
		out[i] = fmt.Sprint(nums[i])
	}
	out[at] = fmt.Sprint(nums[at] + 1)
	return strings.Join(out, "."), nums[at] < mostVerNum
}

// asOthersReadRange holds what is read of a text against what the patterns tell of it.
func asOthersReadRange(t *testing.T, s string) bool {
	t.Helper()
	want, ok := othersRange(s)
	if ok {
		rightRange(t, s, want)
	} else {
		noRange(t, s)
	}
	if t.Failed() {
		t.FailNow()
	}
	return ok
}

// TestRangeTextsOfFewSigns holds all texts of few signs, behind a beginning, against another reader.
func TestRangeTextsOfFewSigns(t *testing.T) {
	read := 0
	for _, head := range []string{"", "1", "^0", "1.0", ">=1.0.1", "1.0.1 - 2.0.", "1 ||", "9999"} {
		for _, signs := range []string{"01.x", "1.x ", "1 |", "<>=1", "^~*0. ", "1-. ", "9.|-"} {
			texts := []string{head}
			for from := 0; len(texts) < 6000; from++ {
				for i := range len(signs) {
					texts = append(texts, texts[from]+signs[i:i+1])
				}
			}
			for _, s := range texts {
				if asOthersReadRange(t, s) {
					read++
				}
			}
		}
	}
	if read < 5000 {
		t.Error("only", read, "were ranges")
	}
}

func TestRangesCutShortOrOfEachByteMore(t *testing.T) {
	for _, text := range []string{"1.2.3 - 2.0.0-a", "^1.2.3-a ||~0.1", ">=1.x <2.x.x", "* || =1.2", "<=9999.9998"} {
		for i := range len(text) + 1 {
			asOthersReadRange(t, text[:i])
			asOthersReadRange(t, text[i:])
			for c := range 256 {
				asOthersReadRange(t, text[:i]+oneByte(c)+text[i:])
				if i < len(text) {
					asOthersReadRange(t, text[:i]+oneByte(c)+text[i+1:])
				}
			}
		}
	}
}

func TestManyRangesAreRead(t *testing.T) {
	r := rand.New(rand.NewSource(4))
	read := 0
	for range 60000 {
		if asOthersReadRange(t, someRangeText(r)) {
			read++
		}
	}
	if read < 10000 {
		t.Error("only", read, "were ranges")
	}
}

// someRangeText is most often one of a range.
func someRangeText(r *rand.Rand) string {
	var lists []string
	for range 1 + r.Intn(3)*r.Intn(3) {
		blanks := strings.Repeat(" ", r.Intn(3))
		if r.Intn(5) == 0 {
			lists = append(lists, someSmallVer(r)+" - "+someSmallVer(r)+blanks)
			continue
		}
		var words []string
		for range 1 + r.Intn(3) {
			words = append(words, someRangeWord(r))
		}
		lists = append(lists, blanks+strings.Join(words, " "))
	}
	return strings.Join(lists, "||")
}

func someRangeWord(r *rand.Rand) string {
	sign := append(opSigns(), "^", "~", "", "")[r.Intn(9)]
	num := func() string { return []string{"0", "0", "1", "2", "10", "9998", "9999"}[r.Intn(7)] }
	switch r.Intn(12) {
	case 0:
		return "*"
	case 1:
		return sign + num()
	case 2:
		return sign + num() + "." + num()
	case 3:
		return sign + num() + ".x"
	case 4:
		return sign + num() + "." + num() + ".x"
	case 5:
		return sign + num() + ".x.x"
	case 6:
		return sign + num() + "." + num() + "." + num()
	}
	return sign + someSmallVer(r)
}

// someSmallVer is one of few numbers and a few texts of Pre, so that two of them are often near each other.
func someSmallVer(r *rand.Rand) string {
	pre := []string{"", "", "", "-0", "-a", "-a.1", "-b", "-10"}[r.Intn(8)]
	return fmt.Sprintf("%d.%d.%d%s", r.Intn(3), r.Intn(3), r.Intn(3), pre)
}
