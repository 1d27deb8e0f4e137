package tests

import (
	"encoding/json"
	"math"
	"math/rand"
	"slices"
	"strings"
	"testing"

	"loop.example/g00464/impl"
)

func ruleKeys() []string { return []string{"env", "in", "keep", "on"} }

// othersRuleOf reads a rule of the text of a Val, by the library.
func othersRuleOf(task string, v impl.Val) (impl.Rule, bool) {
	var read any
	if json.Unmarshal([]byte(impl.ValText(v)), &read) != nil {
		return impl.Rule{}, false
	}
	top, ok := read.(map[string]any)
	r := impl.Rule{Task: task, Keep: true}
	for key, x := range top {
		right := false
		switch key {
		case "env":
			r.Envs, right = asTexts(x)
		case "in":
			r.Ins, right = asTexts(x)
		case "keep":
			r.Keep, right = x.(bool)
		case "on":
			r.On, right = asTexts(x)
		}
		ok = ok && right
	}
	if !ok || !othersRuleOk(r) {
		return impl.Rule{}, false
	}
	return r, true
}

func asOthersReadRule(t *testing.T, task string, v impl.Val) bool {
	t.Helper()
	want, ok := othersRuleOf(task, v)
	if ok {
		ruleOfVal(t, task, v, want)
	} else {
		noRule(t, task, v)
	}
	return ok
}

// noRuleOfAny wants no rule of v, whatever the task.
func noRuleOfAny(t *testing.T, v impl.Val) {
	t.Helper()
	for _, task := range []string{"a", "test", "abcdefghij", "", "A", "on"} {
		noRule(t, task, v)
	}
}

// ruleValsToTurn are right ones: of all parts, of few, of one and of none.
func ruleValsToTurn(t *testing.T) []impl.Val {
	return []impl.Val{
		othersRuleVal(fullRule()),
		must(t, `{"env":["a"],"in":["b"],"keep":false,"on":["c"]}`),
		must(t, `{"env":[],"in":[],"keep":true,"on":[]}`),
		must(t, `{"in":["a/**"],"on":["^b","c#d"]}`),
		must(t, `{"keep":false}`),
		must(t, `{}`),
	}
}

func TestRuleValsOfOtherKinds(t *testing.T) {
	for _, v := range ruleValsToTurn(t) {
		for i, part := range partsOf(&v) {
			for _, x := range append(valsOfEachKind(), numVal(1), textVal("true"), textVal("false"), boxed(textVal("a"), 2)) {
				turned := withPart(v, i, func(p *impl.Val) { *p = x })
				if right := asOthersReadRule(t, "a", turned); right && x.K != part.K {
					t.Errorf("a %d in the place of a %d is read: %v", x.K, part.K, turned)
				}
				if x.K != part.K {
					noRuleOfAny(t, turned)
				}
			}
		}
		noRuleOfAny(t, listVal(v))
		noRuleOfAny(t, mapVal([]string{"on"}, v))
		noRuleOfAny(t, mapVal([]string{"a"}, v))
	}
	for _, v := range valsOfEachKind() {
		asOthersReadRule(t, "a", v)
		for _, key := range ruleKeys() {
			asOthersReadRule(t, "a", mapVal([]string{key}, v))
		}
	}
	noRuleOfAny(t, impl.Val{})
}

// TestKeepIsAFlag: nothing else is read as one, be it like one or not.
func TestKeepIsAFlag(t *testing.T) {
	for _, key := range ruleKeys() {
		for _, x := range []impl.Val{boolVal(0), boolVal(1)} {
			v := mapVal([]string{key}, x)
			if key == "keep" {
				ruleOfVal(t, "a", v, impl.Rule{Task: "a", Keep: x.N == 1})
			} else {
				noRuleOfAny(t, v)
			}
		}
	}
	for _, x := range []impl.Val{boolVal(2), boolVal(-1), boolVal(math.MaxInt), boolVal(math.MinInt), numVal(0), numVal(1), textVal("true"), textVal("false"), textVal(""), nullVal(), listVal(), listVal(boolVal(1)), mapVal(nil)} {
		noRuleOfAny(t, mapVal([]string{"keep"}, x))
		noRuleOfAny(t, mapVal([]string{"keep", "on"}, x, textVals([]string{"a"})))
	}
}

// TestRuleKeysThatAreMissing: what is missing is empty, but keep, which is true.
func TestRuleKeysThatAreMissing(t *testing.T) {
	notKept := fullRule()
	notKept.Keep = false
	for _, full := range []impl.Rule{fullRule(), notKept, {Task: "q"}, {Task: "q", Keep: true}, {Task: "q", On: []string{"^r"}}} {
		whole := othersRuleVal(full)
		for set := range 16 {
			v, want := mapVal(nil), impl.Rule{Task: full.Task, Keep: true}
			for i, key := range ruleKeys() {
				if set>>i&1 == 0 {
					continue
				}
				v.Keys, v.L = append(v.Keys, key), append(v.L, whole.L[i])
				switch key {
				case "env":
					want.Envs = full.Envs
				case "in":
					want.Ins = full.Ins
				case "keep":
					want.Keep = full.Keep
				case "on":
					want.On = full.On
				}
			}
			ruleOfVal(t, full.Task, v, want)
			ruleOfVal(t, full.Task, must(t, impl.ValText(v)), want)
			noRule(t, "", v)
			noRule(t, "No", v)
		}
	}
}

func TestRuleKeysTooMany(t *testing.T) {
	for _, v := range ruleValsToTurn(t) {
		for _, key := range []string{"", "a", "z", "Env", "ENV", "envs", "en", "env ", " env", "ins", "i", "In", "kept", "keep0", "Keep", "keeps", "ons", "o", "On", "on\n", "task", "test", "name", "uses", "needs", "tasks", "out", "~", strings.Repeat("k", mostValText)} {
			for _, x := range valsOfEachKind() {
				noRuleOfAny(t, withField(v, key, x))
			}
			noRuleOfAny(t, withField(withField(v, key, nullVal()), key+"0", nullVal()))
		}
	}
	noRuleOfAny(t, othersPackVal(fullPack()))
	noRuleOfAny(t, othersPackVal(impl.Pack{Name: "a"}))
}

func TestRuleKeysTwice(t *testing.T) {
	for _, v := range ruleValsToTurn(t) {
		for i, key := range v.Keys {
			noRuleOfAny(t, withField(v, key, v.L[i]))
			noRuleOfAny(t, mapVal(append(slices.Clone(v.Keys), key), append(slices.Clone(v.L), v.L[i])...))
			noRuleOfAny(t, mapVal(append([]string{key}, v.Keys...), append([]impl.Val{v.L[i]}, v.L...)...))
		}
	}
	for _, key := range ruleKeys() {
		noRuleOfAny(t, withPart(othersRuleVal(fullRule()), 0, func(p *impl.Val) { p.Keys = slices.Repeat([]string{key}, 4) }))
	}
}

// TestRuleKeysNotInOrder: a Val whose keys do not ascend is not right, though its text would be.
func TestRuleKeysNotInOrder(t *testing.T) {
	v := othersRuleVal(fullRule())
	eachOrder([]int{0, 1, 2, 3}, func(order []int) {
		turned := mapVal(nil)
		for _, i := range order {
			turned.Keys, turned.L = append(turned.Keys, v.Keys[i]), append(turned.L, v.L[i])
		}
		if slices.IsSorted(order) {
			ruleOfVal(t, "test", turned, fullRule())
		} else {
			noRuleOfAny(t, turned)
		}
	})
}

// TestRuleValsThatAreNotRight: no part may have what its kind does not name, be of no kind, or have more keys than Vals.
func TestRuleValsThatAreNotRight(t *testing.T) {
	for _, v := range ruleValsToTurn(t) {
		for i, part := range partsOf(&v) {
			turns := []func(*impl.Val){
				func(p *impl.Val) { p.K = -1 },
				func(p *impl.Val) { p.K = 6 },
				func(p *impl.Val) { p.K = math.MaxInt },
				func(p *impl.Val) { p.K = math.MinInt },
				func(p *impl.Val) { p.N = 2 },
				func(p *impl.Val) { p.N = -1 },
				func(p *impl.Val) { p.N = math.MinInt },
				func(p *impl.Val) { p.Keys = append(slices.Clone(p.Keys), "zz") },
			}
			if part.K != impl.VBool {
				turns = append(turns, func(p *impl.Val) { p.N = 1 })
			}
			if part.K == impl.VText {
				turns = append(turns, func(p *impl.Val) { p.S += "\x00" },
					func(p *impl.Val) { p.S += "é" },
					func(p *impl.Val) { p.S = strings.Repeat("a", mostValText+1) })
			} else {
				turns = append(turns, func(p *impl.Val) { p.S = "a" })
			}
			if part.K != impl.VList {
				turns = append(turns, func(p *impl.Val) { p.L = append(slices.Clone(p.L), textVal("a")) })
			}
			for _, turn := range turns {
				noRuleOfAny(t, withPart(v, i, turn))
			}
		}
	}
}

// TestEmptyListsOfRuleVals: nil and an empty list are the same, in each part.
func TestEmptyListsOfRuleVals(t *testing.T) {
	for _, v := range ruleValsToTurn(t) {
		want, ok := othersRuleOf("test", v)
		if !ok {
			t.Fatalf("%v is none", v)
		}
		for _, part := range partsOf(&v) {
			if len(part.L) == 0 {
				part.L = []impl.Val{}
			}
			if len(part.Keys) == 0 {
				part.Keys = []string{}
			}
		}
		ruleOfVal(t, "test", v, want)
	}
}

func TestRuleValsTooDeepOrTooMany(t *testing.T) {
	for _, key := range []string{"env", "in", "on"} {
		for n := range 100 {
			noRuleOfAny(t, mapVal([]string{key}, listVal(nulls(n+1)...)))
			noRuleOfAny(t, mapVal([]string{key}, boxed(textVal("b"), n+2)))
			noRuleOfAny(t, mapVal([]string{key, "x"}, listVal(), listVal(nulls(n)...)))
			noRuleOfAny(t, boxed(othersRuleVal(fullRule()), n+1))
		}
		noRuleOfAny(t, mapVal([]string{key}, listVal(nulls(1000000)...)))
		noRuleOfAny(t, mapVal([]string{key}, boxed(textVal("b"), 1000000)))
		ring := mapVal([]string{key}, nullVal())
		ring.L[0] = ring
		noRuleOfAny(t, ring)
		texts := listVal(textVal("b"), nullVal())
		texts.L[1] = texts
		noRuleOfAny(t, mapVal([]string{key}, texts))
	}
	noRuleOfAny(t, boxed(textVal("a"), 1000000))
}

// TestWrongPartsOfRuleTexts: what is right but for one part is refused as a whole.
func TestWrongPartsOfRuleTexts(t *testing.T) {
	for _, s := range []string{
		`null`, `true`, `false`, `0`, `"on"`, `[]`, `[{}]`, `["on",["a"]]`,
		`{"on":null}`, `{"on":true}`, `{"on":"a"}`, `{"on":{}}`, `{"on":{"a":"b"}}`, `{"on":[null]}`, `{"on":["a",1]}`, `{"on":[["a"]]}`, `{"on":["A"]}`, `{"on":[""]}`, `{"on":["^"]}`, `{"on":["a","b","c","d","e"]}`, `{"on":["a","^^b"]}`, `{"on":["a#"]}`, `{"on":["#a"]}`, `{"on":["^a#b"]}`, `{"on":["a b"]}`, `{"on":["a\n"]}`,
		`{"in":null}`, `{"in":false}`, `{"in":"a"}`, `{"in":{}}`, `{"in":[0]}`, `{"in":["a",null]}`, `{"in":[["a"]]}`, `{"in":["A"]}`, `{"in":[""]}`, `{"in":["["]}`, `{"in":["a","/"]}`, `{"in":["a/b/c/d/e"]}`, `{"in":["a","b","c","d","e"]}`, `{"in":["abcdefghijklm"]}`, `{"in":["[abcdef]"]}`,
		`{"env":null}`, `{"env":0}`, `{"env":"a"}`, `{"env":{}}`, `{"env":{"a":"b"}}`, `{"env":[true]}`, `{"env":["a",{}]}`, `{"env":["A"]}`, `{"env":[""]}`, `{"env":["a","b","c","d"]}`, `{"env":["abcdefghijk"]}`, `{"env":["a=b"]}`, `{"env":["^a"]}`,
		`{"keep":null}`, `{"keep":0}`, `{"keep":1}`, `{"keep":"true"}`, `{"keep":[]}`, `{"keep":[true]}`, `{"keep":{}}`,
		`{"task":"a"}`, `{"on":[],"task":"a"}`, `{"":[]}`, `{"x":null}`, `{"On":[]}`, `{"env":[],"in":[],"keep":true,"on":[],"out":[]}`,
	} {
		noRuleOfAny(t, must(t, s))
	}
}

// ruleTurnedAnyhow is v with one thing turned: a part, a key, or how many there are.
func ruleTurnedAnyhow(r *rand.Rand, v impl.Val) impl.Val {
	vals := append(valsOfEachKind(), textVal("^a"), textVal("a#b"), textVal("**"))
	keys := append(ruleKeys(), "a", "zz", "")
	return withPart(v, r.Intn(len(partsOf(&v))), func(p *impl.Val) {
		switch n := len(p.L); {
		case n == 0 || r.Intn(4) == 0:
			*p = vals[r.Intn(len(vals))]
		case r.Intn(2) == 0:
			i := r.Intn(n)
			p.L = slices.Delete(p.L, i, i+1)
			if p.K == impl.VMap {
				p.Keys = slices.Delete(p.Keys, i, i+1)
			}
		case p.K == impl.VMap && r.Intn(2) == 0:
			p.Keys[r.Intn(n)] = keys[r.Intn(len(keys))]
		case p.K == impl.VMap:
			*p = withField(*p, keys[r.Intn(len(keys))], vals[r.Intn(len(vals))])
		default:
			p.L = append(p.L, p.L[r.Intn(n)])
		}
	})
}

func TestManyRuleValsAsOthersReadThem(t *testing.T) {
	r := rand.New(rand.NewSource(1207))
	right := 0
	const tries = 20000
	for range tries {
		x := anyRule(r)
		v := othersRuleVal(x)
		for range r.Intn(3) {
			v = ruleTurnedAnyhow(r, v)
		}
		if asOthersReadRule(t, x.Task, v) {
			right++
		}
		if t.Failed() {
			t.FailNow()
		}
	}
	for range tries {
		left := mostValCount
		asOthersReadRule(t, anyName(r), someVal(r, 1, &left))
	}
	if right < tries/20 || right > tries*9/10 {
		t.Errorf("of %d values %d were right", tries, right)
	}
}
