package tests

import (
	"encoding/json"
	"maps"
	"math"
	"math/rand"
	"slices"
	"strings"
	"testing"

	"loop.example/g00464/impl"
)

func packKeys() []string { return []string{"name", "needs", "tasks", "uses"} }

// asTexts are the texts of a list that the library read, if they are all texts.
func asTexts(x any) ([]string, bool) {
	l, ok := x.([]any)
	var out []string
	for _, y := range l {
		s, isText := y.(string)
		out, ok = append(out, s), ok && isText
	}
	return out, ok
}

// othersPackOf reads a pack of the text of a Val, by the library.
func othersPackOf(v impl.Val) (impl.Pack, bool) {
	var read any
	if json.Unmarshal([]byte(impl.ValText(v)), &read) != nil {
		return impl.Pack{}, false
	}
	top, ok := read.(map[string]any)
	var p impl.Pack
	for key, x := range top {
		right := slices.Contains(packKeys(), key)
		switch key {
		case "name":
			p.Name, right = x.(string)
		case "uses":
			p.Uses, right = asTexts(x)
		case "needs":
			var m map[string]any
			m, right = x.(map[string]any)
			for _, name := range slices.Sorted(maps.Keys(m)) {
				s, isText := m[name].(string)
				p.Needs, right = append(p.Needs, need(name, s)), right && isText
			}
		case "tasks":
			var m map[string]any
			m, right = x.(map[string]any)
			for _, task := range slices.Sorted(maps.Keys(m)) {
				acts, areTexts := asTexts(m[task])
				p.Cmds, right = append(p.Cmds, cmd(task, acts...)), right && areTexts
			}
		}
		ok = ok && right
	}
	if !ok || !othersPackOk(p) {
		return impl.Pack{}, false
	}
	return p, true
}

func asOthersReadPack(t *testing.T, v impl.Val) bool {
	t.Helper()
	want, ok := othersPackOf(v)
	if ok {
		packOfVal(t, v, want)
	} else {
		noPack(t, v)
	}
	return ok
}

// partsOf are v and all that it holds, each where it stands.
func partsOf(v *impl.Val) []*impl.Val {
	out := []*impl.Val{v}
	for i := range v.L {
		out = append(out, partsOf(&v.L[i])...)
	}
	return out
}

// withPart is v, with its i-th part turned.
func withPart(v impl.Val, i int, turn func(*impl.Val)) impl.Val {
	out := deepCopy(v)
	turn(partsOf(&out)[i])
	return out
}

func valsOfEachKind() []impl.Val {
	return []impl.Val{
		nullVal(), boolVal(0), boolVal(1), numVal(0), numVal(7), numVal(-1), textVal(""), textVal("a"), textVal("1"), textVal("name"), textVal("No"),
		listVal(), listVal(textVal("a")), listVal(textVal("b"), textVal("a")), listVal(listVal()), listVal(nullVal()), listVal(mapVal(nil)), listVal(textVal("a"), numVal(1)),
		mapVal(nil), mapVal([]string{"a"}, textVal("1")), mapVal([]string{"name"}, textVal("a")), mapVal([]string{"a"}, listVal(textVal("x"))), mapVal([]string{"a"}, listVal()), mapVal([]string{"a"}, nullVal()),
	}
}

// valsToTurn are right ones: of all parts, of few, and of none but a name.
func valsToTurn(t *testing.T) []impl.Val {
	return []impl.Val{
		othersPackVal(fullPack()),
		must(t, `{"name":"a","needs":{"b":"1"},"tasks":{"c":["d"]},"uses":["e"]}`),
		must(t, `{"name":"a"}`),
		must(t, `{"name":"a","needs":{},"tasks":{},"uses":[]}`),
	}
}

func TestValsOfOtherKinds(t *testing.T) {
	for _, v := range valsToTurn(t) {
		for i, part := range partsOf(&v) {
			for _, x := range valsOfEachKind() {
				turned := withPart(v, i, func(p *impl.Val) { *p = x })
				if right := asOthersReadPack(t, turned); right && x.K != part.K {
					t.Errorf("a %d in the place of a %d is read: %v", x.K, part.K, turned)
				}
				if x.K != part.K {
					noPack(t, turned)
				}
			}
		}
	}
	for _, v := range valsOfEachKind() {
		asOthersReadPack(t, v)
		noPack(t, listVal(v))
		noPack(t, mapVal([]string{"a"}, v))
	}
	noPack(t, impl.Val{})
	noPack(t, listVal(othersPackVal(fullPack())))
	noPack(t, mapVal([]string{"name"}, othersPackVal(fullPack())))
}

func TestKeysThatAreMissing(t *testing.T) {
	for _, full := range []impl.Pack{fullPack(), {Name: "q"}, {Name: "q", Uses: []string{"r"}}} {
		whole := othersPackVal(full)
		for set := range 16 {
			v, want := mapVal(nil), impl.Pack{}
			for i, key := range packKeys() {
				if set>>i&1 == 0 {
					continue
				}
				v.Keys, v.L = append(v.Keys, key), append(v.L, whole.L[i])
				switch key {
				case "name":
					want.Name = full.Name
				case "needs":
					want.Needs = full.Needs
				case "tasks":
					want.Cmds = full.Cmds
				case "uses":
					want.Uses = full.Uses
				}
			}
			if want.Name == "" {
				noPack(t, v)
			} else {
				packOfVal(t, v, want)
				packOfVal(t, must(t, impl.ValText(v)), want)
			}
		}
	}
}

// withField has one key more, in its place.
func withField(v impl.Val, key string, x impl.Val) impl.Val {
	at, _ := slices.BinarySearch(v.Keys, key)
	return mapVal(slices.Insert(slices.Clone(v.Keys), at, key), slices.Insert(slices.Clone(v.L), at, x)...)
}

func TestKeysTooMany(t *testing.T) {
	for _, v := range valsToTurn(t) {
		for _, key := range []string{"", "a", "z", "x", "Name", "NAME", "names", "nam", "name ", " name", "need", "Needs", "needs.", "task", "tasks0", "use", "Uses", "uses\n", "cmds", "acts", "on", "~", strings.Repeat("k", mostValText)} {
			for _, x := range valsOfEachKind() {
				noPack(t, withField(v, key, x))
			}
			noPack(t, withField(withField(v, key, nullVal()), key+"0", nullVal()))
		}
	}
	noPack(t, mapVal([]string{"x"}, textVal("a")))
}

func TestKeysTwice(t *testing.T) {
	for _, v := range valsToTurn(t) {
		for i, key := range v.Keys {
			noPack(t, withField(v, key, v.L[i]))
			noPack(t, mapVal(append(slices.Clone(v.Keys), key), append(slices.Clone(v.L), v.L[i])...))
			noPack(t, mapVal(append([]string{key}, v.Keys...), append([]impl.Val{v.L[i]}, v.L...)...))
		}
	}
	for _, key := range packKeys() {
		noPack(t, withPart(othersPackVal(fullPack()), 0, func(p *impl.Val) { p.Keys = slices.Repeat([]string{key}, 4) }))
	}
	for _, s := range []string{`{"name":"a","name":"a"}`, `{"name":"a","uses":[],"uses":[]}`, `{"name":"a","needs":{"b":"1","b":"1"}}`, `{"name":"a","tasks":{"b":["x"],"b":["x"]}}`, `{"name":"a","\u006eame":"a"}`} {
		v, ok := impl.ParseVal(s)
		if ok {
			t.Errorf("%q is read", s)
		}
		noPack(t, v)
	}
}

// TestKeysNotInOrder: a Val whose keys do not ascend is not right, though its text would be.
func TestKeysNotInOrder(t *testing.T) {
	v := othersPackVal(fullPack())
	eachOrder([]int{0, 1, 2, 3}, func(order []int) {
		for i, part := range partsOf(&v) {
			if part.K != impl.VMap {
				continue
			}
			turned := withPart(v, i, func(p *impl.Val) {
				old := *p
				p.Keys, p.L = nil, nil
				for _, j := range order {
					p.Keys, p.L = append(p.Keys, old.Keys[j]), append(p.L, old.L[j])
				}
			})
			if slices.IsSorted(order) {
				packOfVal(t, turned, fullPack())
			} else {
				noPack(t, turned)
			}
		}
	})
}

// TestValsThatAreNotRight: no part may have what its kind does not name, be of no kind, or have more keys than Vals.
func TestValsThatAreNotRight(t *testing.T) {
	for _, v := range valsToTurn(t) {
		for i, part := range partsOf(&v) {
			turns := []func(*impl.Val){
				func(p *impl.Val) { p.K = -1 },
				func(p *impl.Val) { p.K = 6 },
				func(p *impl.Val) { p.K = math.MaxInt },
				func(p *impl.Val) { p.K = math.MinInt },
				func(p *impl.Val) { p.N = 1 },
				func(p *impl.Val) { p.N = math.MinInt },
				func(p *impl.Val) { p.Keys = append(slices.Clone(p.Keys), "zz") },
			}
			if part.K == impl.VText {
				turns = append(turns, func(p *impl.Val) { p.L = nulls(1) },
					func(p *impl.Val) { p.S += "\x00" },
					func(p *impl.Val) { p.S += "\x7f" },
					func(p *impl.Val) { p.S += "é" },
					func(p *impl.Val) { p.S = strings.Repeat("1", mostValText+1) })
			} else {
				turns = append(turns, func(p *impl.Val) { p.S = "a" })
			}
			if part.K == impl.VMap {
				turns = append(turns, func(p *impl.Val) { p.L = append(slices.Clone(p.L), textVal("1")) })
			}
			for _, turn := range turns {
				noPack(t, withPart(v, i, turn))
			}
		}
	}
}

// TestEmptyListsOfAnyForm: nil and an empty list are the same, in each part.
func TestEmptyListsOfAnyForm(t *testing.T) {
	for _, v := range valsToTurn(t) {
		want, ok := othersPackOf(v)
		if !ok {
			t.Fatalf("%v is none", v)
		}
		for _, part := range partsOf(&v) {
			if len(part.L) == 0 {
				part.L = []impl.Val{}
			}
			if len(part.Keys) == 0 {
				part.Keys = []string{}
			}
		}
		packOfVal(t, v, want)
	}
}

func TestValsTooDeepOrTooMany(t *testing.T) {
	for n := range 100 {
		noPack(t, mapVal([]string{"name", "x"}, textVal("a"), listVal(nulls(n)...)))
		noPack(t, mapVal([]string{"name", "uses"}, textVal("a"), listVal(nulls(n+1)...)))
		noPack(t, mapVal([]string{"name", "uses"}, textVal("a"), boxed(textVal("b"), n+2)))
		noPack(t, mapVal([]string{"name", "tasks"}, textVal("a"), mapVal([]string{"b"}, boxed(textVal("c"), n+2))))
		noPack(t, boxed(othersPackVal(fullPack()), n+1))
	}
	noPack(t, mapVal([]string{"name", "uses"}, textVal("a"), listVal(nulls(1000000)...)))
	noPack(t, boxed(textVal("a"), 1000000))
	noPack(t, mapVal([]string{"name", "uses"}, textVal("a"), boxed(textVal("b"), 1000000)))
	ring := mapVal([]string{"name", "uses"}, textVal("a"), nullVal())
	ring.L[1] = ring
	noPack(t, ring)
	uses := listVal(textVal("b"), nullVal())
	uses.L[1] = uses
	noPack(t, mapVal([]string{"name", "uses"}, textVal("a"), uses))
}

// TestWrongPartsOfTexts: what is right but for one part is refused as a whole.
func TestWrongPartsOfTexts(t *testing.T) {
	for _, s := range []string{
		`null`, `true`, `0`, `"name"`, `[]`, `{}`, `["name","a"]`, `[{"name":"a"}]`,
		`{"name":null}`, `{"name":true}`, `{"name":1}`, `{"name":["a"]}`, `{"name":{"a":"a"}}`, `{"name":""}`, `{"name":"A"}`, `{"name":"a b"}`, `{"name":"abcdefghijk"}`, `{"name":"a\n"}`,
		`{"name":"a","uses":null}`, `{"name":"a","uses":"b"}`, `{"name":"a","uses":{}}`, `{"name":"a","uses":{"b":"c"}}`, `{"name":"a","uses":[null]}`, `{"name":"a","uses":["b",1]}`, `{"name":"a","uses":[["b"]]}`, `{"name":"a","uses":["B"]}`, `{"name":"a","uses":["c","b"]}`, `{"name":"a","uses":["b","b"]}`, `{"name":"a","uses":["a"]}`, `{"name":"a","uses":["b","c","d","e","f"]}`, `{"name":"a","uses":[""]}`,
		`{"name":"a","needs":null}`, `{"name":"a","needs":[]}`, `{"name":"a","needs":["b","1"]}`, `{"name":"a","needs":{"b":null}}`, `{"name":"a","needs":{"b":1}}`, `{"name":"a","needs":{"b":["1"]}}`, `{"name":"a","needs":{"b":{}}}`, `{"name":"a","needs":{"B":"1"}}`, `{"name":"a","needs":{"":"1"}}`, `{"name":"a","needs":{"b":""}}`, `{"name":"a","needs":{"b":"x"}}`, `{"name":"a","needs":{"b":"1","c":"x"}}`, `{"name":"a","needs":{"b":"1","c":"1","d":"1","e":"1","f":"1"}}`,
		`{"name":"a","tasks":null}`, `{"name":"a","tasks":[]}`, `{"name":"a","tasks":{"b":null}}`, `{"name":"a","tasks":{"b":"c"}}`, `{"name":"a","tasks":{"b":{}}}`, `{"name":"a","tasks":{"b":[]}}`, `{"name":"a","tasks":{"b":[1]}}`, `{"name":"a","tasks":{"b":["x",null]}}`, `{"name":"a","tasks":{"b":[["x"]]}}`, `{"name":"a","tasks":{"B":["x"]}}`, `{"name":"a","tasks":{"":["x"]}}`, `{"name":"a","tasks":{"b":["x\n"]}}`, `{"name":"a","tasks":{"b":["x\ty"]}}`, `{"name":"a","tasks":{"b":["1","2","3","4","5","6"]}}`, `{"name":"a","tasks":{"b":["1"],"c":["1"],"d":["1"],"e":["1"],"f":["1"]}}`,
		`{"name":"a","cmds":{}}`, `{"name":"a","x":null}`, `{"name":"a","":""}`, `{"uses":[]}`, `{"needs":{}}`, `{"tasks":{}}`, `{"needs":{"b":"1"},"tasks":{"c":["d"]},"uses":["e"]}`, `{"Name":"a"}`,
	} {
		noPack(t, must(t, s))
	}
}

// turnedAnyhow is v with one thing turned: a part, a key, or how many there are.
func turnedAnyhow(r *rand.Rand, v impl.Val) impl.Val {
	vals := valsOfEachKind()
	keys := append(packKeys(), "a", "b", "zz", "A", "")
	return withPart(v, r.Intn(len(partsOf(&v))), func(p *impl.Val) {
		switch n := len(p.L); {
		case n == 0 || r.Intn(4) == 0:
			*p = vals[r.Intn(len(vals))]
		case r.Intn(2) == 0:
			i := r.Intn(n)
			p.L = slices.Delete(p.L, i, i+1)
			if p.K == impl.VMap {
				p.Keys = slices.Delete(p.Keys, i, i+1)
			}
		case p.K == impl.VMap && r.Intn(2) == 0:
			p.Keys[r.Intn(n)] = keys[r.Intn(len(keys))]
		case p.K == impl.VMap:
			*p = withField(*p, keys[r.Intn(len(keys))], vals[r.Intn(len(vals))])
		default:
			p.L = append(p.L, p.L[r.Intn(n)])
		}
	})
}

func TestManyValsAsOthersReadThem(t *testing.T) {
	r := rand.New(rand.NewSource(70))
	right := 0
	const tries = 20000
	for range tries {
		v := othersPackVal(anyPack(r))
		for range r.Intn(3) {
			v = turnedAnyhow(r, v)
		}
		if asOthersReadPack(t, v) {
			right++
		}
		if t.Failed() {
			t.FailNow()
		}
	}
	for range tries {
		left := mostValCount
		asOthersReadPack(t, someVal(r, 1, &left))
	}
	if right < tries/20 || right > tries*9/10 {
		t.Errorf("of %d values %d were right", tries, right)
	}
}
