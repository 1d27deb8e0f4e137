package tests

import (
	"bytes"
	"encoding/json"
	"fmt"
	"math/rand"
	"regexp"
	"slices"
	"strings"
	"testing"

	"loop.example/g00464/impl"
)

const (
	mostUses      = 4
	mostNeeds     = 4
	mostCmds      = 4
	mostRangeText = 20
	mostActs      = 5
	mostActText   = 40
)

var (
	nameShape = regexp.MustCompile(`\A[a-z][a-z0-9-]{0,9}\z`)
	actShape  = regexp.MustCompile(`\A[ -~]{0,40}\z`)
)

func need(name, text string) impl.Need { return impl.Need{Name: name, Range: text} }

func cmd(task string, acts ...string) impl.Cmd { return impl.Cmd{Task: task, Acts: acts} }

// fullPack has 4 of each, and 1 to 5 Acts.
func fullPack() impl.Pack {
	return impl.Pack{
		Name:  "main",
		Uses:  []string{"b", "c", "d", "e"},
		Needs: []impl.Need{need("lib", "^1.0.0"), need("lib-a", "1.x || >=3"), need("main", "*"), need("z9", "1.0.0 - 2.0.0-rc.1")},
		Cmds:  []impl.Cmd{cmd("build", "put x > o"), cmd("lint", "cat a b > o", "log hi"), cmd("main", "", " ", "fail"), cmd("test", "1", "2", "3", "4", "5")},
	}
}

// withUses, withNeeds and withCmds are fullPack with other lists.
func withUses(l ...string) impl.Pack {
	p := fullPack()
	p.Uses = l
	return p
}

func withNeeds(l ...impl.Need) impl.Pack {
	p := fullPack()
	p.Needs = l
	return p
}

func withCmds(l ...impl.Cmd) impl.Pack {
	p := fullPack()
	p.Cmds = l
	return p
}

func sameCmd(a, b impl.Cmd) bool { return a.Task == b.Task && slices.Equal(a.Acts, b.Acts) }

func packsAlike(a, b impl.Pack) bool {
	return a.Name == b.Name && slices.Equal(a.Uses, b.Uses) && slices.Equal(a.Needs, b.Needs) && slices.EqualFunc(a.Cmds, b.Cmds, sameCmd)
}

// othersPackText writes the text of a pack by the library, which sorts keys.
func othersPackText(p impl.Pack) string {
	needs, tasks := map[string]string{}, map[string][]string{}
	for _, n := range p.Needs {
		needs[n.Name] = n.Range
	}
	for _, c := range p.Cmds {
		tasks[c.Task] = append([]string{}, c.Acts...)
	}
	var b bytes.Buffer
	e := json.NewEncoder(&b)
	e.SetEscapeHTML(false)
	if err := e.Encode(map[string]any{"name": p.Name, "needs": needs, "tasks": tasks, "uses": append([]string{}, p.Uses...)}); err != nil {
		panic(err)
	}
	return strings.TrimSuffix(b.String(), "\n")
}

// othersPackVal builds the Val of a pack in the tests' own words, in the order of its lists, right or not.
func othersPackVal(p impl.Pack) impl.Val {
	var names, ranges, tasks, acts []impl.Val
	var needKeys, taskKeys []string
	for _, s := range p.Uses {
		names = append(names, textVal(s))
	}
	for _, n := range p.Needs {
		needKeys, ranges = append(needKeys, n.Name), append(ranges, textVal(n.Range))
	}
	for _, c := range p.Cmds {
		acts = nil
		for _, s := range c.Acts {
			acts = append(acts, textVal(s))
		}
		taskKeys, tasks = append(taskKeys, c.Task), append(tasks, listVal(acts...))
	}
	return mapVal([]string{"name", "needs", "tasks", "uses"}, textVal(p.Name), mapVal(needKeys, ranges...), mapVal(taskKeys, tasks...), listVal(names...))
}

// strictly: each text is less than the next.
func strictly(l []string) bool {
	for i := range l {
		for j := range i {
			if strings.Compare(l[j], l[i]) != -1 {
				return false
			}
		}
	}
	return true
}

// othersPackOk asks by patterns whether a pack is right.
func othersPackOk(p impl.Pack) bool {
	ok := nameShape.MatchString(p.Name) && len(p.Uses) <= mostUses && len(p.Needs) <= mostNeeds && len(p.Cmds) <= mostCmds && strictly(p.Uses)
	for _, s := range p.Uses {
		ok = ok && nameShape.MatchString(s) && s != p.Name
	}
	var names, tasks []string
	for _, n := range p.Needs {
		_, isRange := othersRange(n.Range)
		names, ok = append(names, n.Name), ok && isRange && nameShape.MatchString(n.Name) && len(n.Range) <= mostRangeText
	}
	for _, c := range p.Cmds {
		tasks, ok = append(tasks, c.Task), ok && nameShape.MatchString(c.Task) && 1 <= len(c.Acts) && len(c.Acts) <= mostActs
		for _, s := range c.Acts {
			ok = ok && actShape.MatchString(s)
		}
	}
	return ok && strictly(names) && strictly(tasks)
}

// rightPack wants a pack to be right, and to come back of its Val and of its text.
func rightPack(t *testing.T, p impl.Pack) {
	t.Helper()
	if !impl.PackOk(p) || !othersPackOk(p) {
		t.Errorf("%q is not right", p)
	}
	v := impl.PackVal(p)
	if !alike(v, othersPackVal(p)) || !impl.ValOk(v) {
		t.Errorf("the Val of %q is %v", p, v)
	}
	packOfVal(t, v, p)
	text := impl.ValText(v)
	if text != othersPackText(p) {
		t.Errorf("%q is told as %q", p, text)
	}
	back, ok := impl.ParseVal(text)
	if !ok || !alike(back, v) {
		t.Errorf("%q is read as %v, %v", text, back, ok)
	}
	packOfVal(t, back, p)
}

// wrongPack wants a pack not to be right, and not to come back.
func wrongPack(t *testing.T, p impl.Pack) {
	t.Helper()
	if impl.PackOk(p) || othersPackOk(p) {
		t.Errorf("%q is right", p)
	}
	v := impl.PackVal(p)
	if !alike(v, othersPackVal(p)) {
		t.Errorf("the Val of %q is %v", p, v)
	}
	noPack(t, v)
	if x, ok := impl.ParseVal(impl.ValText(v)); ok {
		noPack(t, x)
	}
	if impl.PacksOk([]impl.Pack{p}) {
		t.Errorf("%q alone is right", p)
	}
}

func packOrNot(t *testing.T, p impl.Pack, right bool) {
	t.Helper()
	if right {
		rightPack(t, p)
	} else {
		wrongPack(t, p)
	}
}

func packOfVal(t *testing.T, v impl.Val, want impl.Pack) {
	t.Helper()
	if got, ok := impl.PackOf(v); !ok || !packsAlike(got, want) {
		t.Errorf("of %v the pack is %q, %v", v, got, ok)
	}
}

func noPack(t *testing.T, v impl.Val) {
	t.Helper()
	if got, ok := impl.PackOf(v); ok || !packsAlike(got, impl.Pack{}) {
		t.Errorf("of %v the pack is %q, %v", v, got, ok)
	}
}

func TestPacksToldAndRead(t *testing.T) {
	full := fullPack()
	for _, z := range []struct {
		p    impl.Pack
		text string
	}{
		{impl.Pack{Name: "q"}, `{"name":"q","needs":{},"tasks":{},"uses":[]}`},
		{impl.Pack{Name: "q", Uses: []string{}, Needs: []impl.Need{}, Cmds: []impl.Cmd{}}, `{"name":"q","needs":{},"tasks":{},"uses":[]}`},
		{impl.Pack{Name: "a", Uses: []string{"b"}}, `{"name":"a","needs":{},"tasks":{},"uses":["b"]}`},
		{impl.Pack{Name: "a", Needs: []impl.Need{need("b", "1")}}, `{"name":"a","needs":{"b":"1"},"tasks":{},"uses":[]}`},
		{impl.Pack{Name: "a", Cmds: []impl.Cmd{cmd("b", "")}}, `{"name":"a","needs":{},"tasks":{"b":[""]},"uses":[]}`},
		{impl.Pack{Name: "a", Cmds: []impl.Cmd{cmd("b", `say "\"`, "fail")}}, `{"name":"a","needs":{},"tasks":{"b":["say \"\\\"","fail"]},"uses":[]}`},
		{full, `{"name":"main","needs":{"lib":"^1.0.0","lib-a":"1.x || >=3","main":"*","z9":"1.0.0 - 2.0.0-rc.1"},"tasks":{"build":["put x > o"],"lint":["cat a b > o","log hi"],"main":[""," ","fail"],"test":["1","2","3","4","5"]},"uses":["b","c","d","e"]}`},
	} {
		rightPack(t, z.p)
		if s := impl.ValText(impl.PackVal(z.p)); s != z.text {
			t.Errorf("%q is told as %q", z.p, s)
		}
		packOfVal(t, must(t, z.text), z.p)
	}
}

// TestPartsOfAPack: each list of a pack may be as long as it likes, up to its limit, whatever the others are.
func TestPartsOfAPack(t *testing.T) {
	full := fullPack()
	for uses := range mostUses + 1 {
		for needs := range mostNeeds + 1 {
			for cmds := range mostCmds + 1 {
				rightPack(t, impl.Pack{Name: "main", Uses: full.Uses[:uses], Needs: full.Needs[:needs], Cmds: full.Cmds[:cmds]})
				rightPack(t, impl.Pack{Name: "main", Uses: full.Uses[uses:], Needs: full.Needs[needs:], Cmds: full.Cmds[cmds:]})
			}
		}
	}
}

// eachOrder hands on l in each order there is.
func eachOrder[T any](l []T, use func([]T)) {
	if len(l) == 0 {
		use(nil)
	}
	for i, first := range l {
		eachOrder(slices.Delete(slices.Clone(l), i, i+1), func(rest []T) { use(append([]T{first}, rest...)) })
	}
}

func TestTextsOfPacksInOtherOrder(t *testing.T) {
	want := impl.Pack{Name: "a", Uses: []string{"b", "c"}, Needs: []impl.Need{need("k", "1"), need("l", "2")}, Cmds: []impl.Cmd{cmd("s", "x", "a"), cmd("t", "b")}}
	eachOrder([]string{`"name":"a"`, `"uses":["b","c"]`, `"needs":{"l":"2","k":"1"}`, `"tasks":{"t":["b"],"s":["x","a"]}`}, func(parts []string) {
		packOfVal(t, must(t, "{"+strings.Join(parts, ",")+"}"), want)
		packOfVal(t, must(t, " {\n"+strings.Join(parts, " ,\r\n\t")+" } "), want)
	})
	packOfVal(t, must(t, `{"\u006eame":"\u0061"}`), impl.Pack{Name: "a"})
	packOfVal(t, must(t, `{"name":"a","needs":{"b":"\u003e1"},"tasks":{"b":["\u003e"]}}`), impl.Pack{Name: "a", Needs: []impl.Need{need("b", ">1")}, Cmds: []impl.Cmd{cmd("b", ">")}})
}

// inEachPlaceOfAName has s as the pack's name, a use, a need, and a task, among others that stay in order.
func inEachPlaceOfAName(s string) []impl.Pack {
	p := fullPack()
	p.Name = s
	p.Uses = nil
	return []impl.Pack{p, withUses(s), withNeeds(need(s, "1")), withCmds(cmd(s, "x"))}
}

func TestNamesOfPacks(t *testing.T) {
	for _, s := range []string{"a", "z", "a-", "a0", "a--9", "abcdefghij", "z-0123456-"} {
		for _, p := range inEachPlaceOfAName(s) {
			rightPack(t, p)
		}
	}
	for _, s := range []string{"", "A", "0", "-", "9a", "-a", "a_", "a.b", "a b", " a", "a ", "a/b", "a#b", "@a", "a\n", "abcdefghijk", "z-01234567-", "é", "a\x00", "aB"} {
		for _, p := range inEachPlaceOfAName(s) {
			wrongPack(t, p)
		}
	}
	for c := range 256 {
		small := 'a' <= c && c <= 'z'
		for _, p := range inEachPlaceOfAName(oneByte(c)) {
			packOrNot(t, p, small)
		}
		for _, p := range inEachPlaceOfAName("m" + oneByte(c)) {
			packOrNot(t, p, small || '0' <= c && c <= '9' || c == '-')
		}
	}
}

// orders are lists of names, and whether they ascend.
func orders() map[string]bool {
	return map[string]bool{
		"":                true,
		"b":               true,
		"b c":             true,
		"b bb":            true,
		"b- b0":           true,
		"b b- b-a b0 bb":  false, // five
		"b b- b0 bb":      true,
		"b c d e":         true,
		"b c d e f":       false,
		"b c d e f g h i": false,
		"c b":             false,
		"b b":             false,
		"bb b":            false,
		"b0 b-":           false,
		"b c c":           false,
		"b b c":           false,
		"b c b":           false,
		"b d c e":         false,
		"c b d e":         false,
		"b c e d":         false,
		"b c d d":         false,
		"b b b b":         false,
		"e d c b":         false,
	}
}

func TestOrderInPacks(t *testing.T) {
	for told, right := range orders() {
		names := strings.Fields(told)
		var needs []impl.Need
		var cmds []impl.Cmd
		for i, name := range names {
			needs, cmds = append(needs, need(name, fmt.Sprint(9-i))), append(cmds, cmd(name, fmt.Sprint(9-i)))
		}
		packOrNot(t, withUses(names...), right)
		packOrNot(t, withNeeds(needs...), right)
		packOrNot(t, withCmds(cmds...), right)
	}
}

// TestOwnNameInPacks: Uses are names of other packs; a need or a task may have the pack's own name.
func TestOwnNameInPacks(t *testing.T) {
	for _, told := range []string{"main", "b main", "main z", "b main z", "b c d main", "main x y z"} {
		wrongPack(t, withUses(strings.Fields(told)...))
	}
	rightPack(t, withUses("mai", "main-", "main0", "mainm"))
	rightPack(t, withNeeds(need("main", "1")))
	rightPack(t, withCmds(cmd("main", "x")))
}

func TestRangesOfNeeds(t *testing.T) {
	for _, s := range []string{
		"*", "1", "1.x", "^0.0.0", "~1.2", ">=1.0.0 <2", "1 || 2", "1||2||3||4", "* * * *", " 1 ", "1.0.0 - 2.0.0", "9999.9999.9999",
		"*" + strings.Repeat(" ", mostRangeText-1), strings.Repeat(" ", mostRangeText-1) + "*", "1000.1000.1000-abcde", "1.1.1 - 2.2.2-abcdef", "1||2||3||" + strings.Repeat(" ", 10) + "4", "1.0.0 1.0.0 <2.0.0-0",
	} {
		rightPack(t, withNeeds(need("a", s)))
		rightPack(t, withNeeds(need("a", "1"), need("b", s), need("c", "1")))
	}
	for _, s := range []string{
		"", " ", "x", "A", "1.", "1.2.", "1..2", "01", "1 ||", "|| 1", "||", "1|2", "1  2", "1\n", "\t1", "-", "1 -", "1 - 2", ">", "=>1", "^10000", "^9999", "10000.0.0", "1||2||3||4||5", "* * * * *", "latest",
		"*" + strings.Repeat(" ", mostRangeText), strings.Repeat(" ", mostRangeText) + "*", "1000.1000.1000-abcdef", "1.1.1 - 2.2.2-abcdefg", "1||2||3||" + strings.Repeat(" ", 11) + "4", "1.0.0 1.0.0 <=2.0.0-0", strings.Repeat("x", mostRangeText), strings.Repeat("x", mostRangeText+1),
	} {
		wrongPack(t, withNeeds(need("a", s)))
		wrongPack(t, withNeeds(need("a", "1"), need("b", s), need("c", "1")))
		wrongPack(t, withNeeds(need("a", "1"), need("b", "1"), need("c", "1"), need("d", s)))
	}
	for n := range 30 {
		packOrNot(t, withNeeds(need("a", strings.Repeat(" ", n)+"1")), n+1 <= mostRangeText)
		packOrNot(t, withNeeds(need("a", "1.0.0-"+strings.Repeat("a", n))), 1 <= n && n <= 8)
	}
}

func TestHowManyActs(t *testing.T) {
	for n := range 12 {
		acts := slices.Repeat([]string{"log x"}, n)
		packOrNot(t, withCmds(cmd("a", acts...)), 1 <= n && n <= mostActs)
		packOrNot(t, withCmds(cmd("a", "x"), cmd("b", acts...), cmd("c", "x")), 1 <= n && n <= mostActs)
		packOrNot(t, withCmds(cmd("a", "x"), cmd("b", "x"), cmd("c", "x"), cmd("d", acts...)), 1 <= n && n <= mostActs)
	}
	most := slices.Repeat([]string{strings.Repeat("~", mostActText)}, mostActs)
	rightPack(t, withCmds(cmd("a", most...), cmd("b", most...), cmd("c", most...), cmd("d", most...)))
	wrongPack(t, withCmds(impl.Cmd{Task: "a"}))
	wrongPack(t, withCmds(impl.Cmd{}))
}

func TestTextsOfActs(t *testing.T) {
	for n := range 70 {
		for _, c := range []string{"x", " ", "\"", "\\", "~"} {
			s := strings.Repeat(c, n)
			packOrNot(t, withCmds(cmd("a", s)), n <= mostActText)
			packOrNot(t, withCmds(cmd("a", "x", s, "x")), n <= mostActText)
			packOrNot(t, withCmds(cmd("a", "1", "2", "3", "4", s)), n <= mostActText)
		}
	}
	for c := range 256 {
		plain := 32 <= c && c <= 126
		packOrNot(t, withCmds(cmd("a", oneByte(c))), plain)
		packOrNot(t, withCmds(cmd("a", "x", "x"+oneByte(c)+"x")), plain)
		packOrNot(t, withCmds(cmd("a", strings.Repeat("x", mostActText-1)+oneByte(c))), plain)
	}
	wrongPack(t, withCmds(cmd("a", strings.Repeat("é", mostActText/2))))
}

func TestWrongPacks(t *testing.T) {
	wrongPack(t, impl.Pack{})
	wrongPack(t, impl.Pack{Uses: []string{"a"}})
	wrongPack(t, withNeeds(impl.Need{}))
	wrongPack(t, withNeeds(impl.Need{Name: "a"}))
	wrongPack(t, withNeeds(impl.Need{Range: "1"}))
	wrongPack(t, withCmds(cmd("", "x")))
	p := fullPack()
	p.Name = ""
	wrongPack(t, p)
}

// TestGreatPacks: what is far too great is answered, too, and its Val has all of it.
func TestGreatPacks(t *testing.T) {
	const n = 200000
	long := strings.Repeat("a", n)
	for _, p := range []impl.Pack{
		{Name: long}, withUses(long), withUses(slices.Repeat([]string{"a"}, n)...), withNeeds(need(long, "1")), withNeeds(need("a", long)), withNeeds(need("a", strings.Repeat(" ", n)+"1")),
		withNeeds(slices.Repeat([]impl.Need{need("a", "1")}, n)...), withCmds(cmd(long, "x")), withCmds(cmd("a", long)), withCmds(cmd("a", slices.Repeat([]string{"x"}, n)...)), withCmds(slices.Repeat([]impl.Cmd{cmd("a", "x")}, n)...),
	} {
		if impl.PackOk(p) || impl.PacksOk([]impl.Pack{p}) {
			t.Error("a great pack is right")
		}
		v := impl.PackVal(p)
		if !alike(v, othersPackVal(p)) {
			t.Error("the Val of a great pack")
		}
		noPack(t, v)
	}
}

// anyPack is often right, and often wrong in one thing alone.
func anyPack(r *rand.Rand) impl.Pack {
	some := func(few, most int) int {
		if r.Intn(8) == 0 {
			return r.Intn(most + 2)
		}
		return min(few+r.Intn(most), most)
	}
	name := func() string {
		if r.Intn(40) == 0 {
			return []string{"", "A", "a_", "abcdefghijk", "main"}[r.Intn(5)]
		}
		return []string{"a", "b", "c", "d", "e-9", "f", "g", "h", "abcdefghij", "mainz"}[r.Intn(10)]
	}
	names := func(n int) []string {
		var out []string
		for range n {
			out = append(out, name())
		}
		if r.Intn(8) != 0 {
			slices.Sort(out)
			out = slices.Compact(out)
		}
		return out
	}
	p := impl.Pack{Name: "main", Uses: names(some(0, mostUses))}
	if r.Intn(4) == 0 {
		p.Name = name()
	}
	for _, s := range names(some(0, mostNeeds)) {
		text := someRangeText(r)
		if _, ok := othersRange(text); r.Intn(8) != 0 && (!ok || len(text) > mostRangeText) {
			text = "^1.2"
		}
		p.Needs = append(p.Needs, need(s, text))
	}
	for _, s := range names(some(0, mostCmds)) {
		c := impl.Cmd{Task: s}
		for range some(1, mostActs) {
			act := "log x"
			if r.Intn(8) == 0 {
				act = someText(r)
			}
			c.Acts = append(c.Acts, act)
		}
		p.Cmds = append(p.Cmds, c)
	}
	return p
}

func TestManyPacksComeBack(t *testing.T) {
	r := rand.New(rand.NewSource(7))
	right := 0
	const tries = 20000
	for range tries {
		p := anyPack(r)
		ok := othersPackOk(p)
		if ok {
			right++
		}
		packOrNot(t, p, ok)
		if t.Failed() {
			t.FailNow()
		}
	}
	if right < tries/10 || right > tries*9/10 {
		t.Errorf("of %d packs %d were right", tries, right)
	}
}
