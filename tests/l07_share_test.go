package tests

import (
	"slices"
	"testing"

	"loop.example/g00464/impl"
)

// looseTexts has l over memory that can be turned, and spare room behind it.
func looseTexts(l []string) ([]string, func()) {
	texts, turn := looseList(l)
	out := roomyTexts(texts)
	return out, func() {
		turn()
		scribbleTexts(out)
	}
}

// loosePack has p over memory that can be turned, and spare room behind its lists, with what would be found there.
func loosePack(p impl.Pack) (impl.Pack, func()) {
	var out impl.Pack
	var turns []func()
	text := func(s string) string {
		x, turn := looseText(s)
		turns = append(turns, turn)
		return x
	}
	texts := func(l []string) []string {
		x, turn := looseTexts(l)
		turns = append(turns, turn)
		return x
	}
	out.Name, out.Uses = text(p.Name), texts(p.Uses)
	out.Needs = slices.Repeat([]impl.Need{need("spare", "1")}, len(p.Needs)+4)[:len(p.Needs)]
	for i, n := range p.Needs {
		out.Needs[i] = need(text(n.Name), text(n.Range))
	}
	out.Cmds = slices.Repeat([]impl.Cmd{cmd("spare", "room")}, len(p.Cmds)+4)[:len(p.Cmds)]
	for i, c := range p.Cmds {
		out.Cmds[i] = impl.Cmd{Task: text(c.Task), Acts: texts(c.Acts)}
	}
	return out, func() {
		for _, turn := range turns {
			turn()
		}
		scribblePack(out)
	}
}

// scribblePack writes into all lists of p, and into the room behind them.
func scribblePack(p impl.Pack) {
	for _, scribble := range listsOfPack(p) {
		scribble()
	}
}

// listsOfPack are the lists of p, each as a function that writes into it and behind it; those of Acts come ahead of Cmds, which hold them.
func listsOfPack(p impl.Pack) []func() {
	var out []func()
	for _, c := range p.Cmds {
		out = append(out, func() { scribbleTexts(c.Acts) })
	}
	return append(out,
		func() { scribbleTexts(p.Uses) },
		func() {
			for i := range p.Needs[:cap(p.Needs)] {
				p.Needs[:cap(p.Needs)][i] = need("scribble", "scribble")
			}
		},
		func() {
			for i := range p.Cmds[:cap(p.Cmds)] {
				p.Cmds[:cap(p.Cmds)][i] = cmd("scribble", "scribble")
			}
		})
}

// packWithRoom has all of p, its spare room as if it were a part of it.
func packWithRoom(p impl.Pack) impl.Pack {
	p.Uses, p.Needs, p.Cmds = slices.Clone(p.Uses[:cap(p.Uses)]), slices.Clone(p.Needs[:cap(p.Needs)]), slices.Clone(p.Cmds[:cap(p.Cmds)])
	for i, c := range p.Cmds {
		p.Cmds[i].Acts = slices.Clone(c.Acts[:cap(c.Acts)])
	}
	return p
}

func clonePack(p impl.Pack) impl.Pack {
	p.Uses, p.Needs, p.Cmds = slices.Clone(p.Uses), slices.Clone(p.Needs), slices.Clone(p.Cmds)
	for i, c := range p.Cmds {
		p.Cmds[i].Acts = slices.Clone(c.Acts)
	}
	return p
}

// packsToShare are right ones and wrong ones.
func packsToShare() []impl.Pack {
	return []impl.Pack{
		fullPack(), {Name: "main"}, {}, withUses("b", "c"), withUses("c", "b"), withUses("spare"), withNeeds(need("a", "1")), withNeeds(need("b", "x"), need("a", "")), withCmds(cmd("a", "one", "two"), cmd("b", "three")),
		withCmds(cmd("b"), cmd("a", "\n")), {Name: "Wrong", Uses: []string{"A", ""}}, withUses("a", "b", "c", "d", "e"), withUses("main"),
	}
}

func TestPacksAreLeftAlone(t *testing.T) {
	for _, in := range packsToShare() {
		p, _ := loosePack(in)
		before := packWithRoom(p)
		if impl.PackOk(p) != othersPackOk(in) {
			t.Errorf("whether %q is right hangs on the room behind", in)
		}
		v := impl.PackVal(p)
		if !alike(v, othersPackVal(in)) {
			t.Errorf("the Val of %q hangs on the room behind: %v", in, v)
		}
		scribble(v)
		if !packsAlike(packWithRoom(p), before) || !packsAlike(p, in) {
			t.Errorf("%q is written into", in)
		}
	}
}

func TestValsOfPacksAreLeftAlone(t *testing.T) {
	for _, in := range packsToShare() {
		told := othersPackVal(in)
		v, _ := looseVal(told)
		before := withRoom(v)
		p, ok := impl.PackOf(v)
		want, wantOk := othersPackOf(told)
		if ok != wantOk || !packsAlike(p, want) {
			t.Errorf("what is read of %v hangs on the room behind: %q, %v", told, p, ok)
		}
		scribblePack(p)
		if !alike(withRoom(v), before) || !alike(v, told) {
			t.Errorf("%v is written into", told)
		}
	}
}

func TestAnswersOfPacksShareNothing(t *testing.T) {
	for _, in := range packsToShare() {
		p, turn := loosePack(in)
		v, again := impl.PackVal(p), impl.PackVal(p)
		turn()
		if !alike(v, othersPackVal(in)) {
			t.Errorf("the Val of %q shares its memory: %v", in, v)
		}
		scribble(v)
		if !alike(again, othersPackVal(in)) || !alike(impl.PackVal(in), othersPackVal(in)) {
			t.Errorf("two Vals of %q lie over each other", in)
		}
	}
}

func TestReadPacksShareNothing(t *testing.T) {
	for _, in := range packsToShare() {
		want, wantOk := othersPackOf(othersPackVal(in))
		v, turn := looseVal(othersPackVal(in))
		p, ok := impl.PackOf(v)
		again, _ := impl.PackOf(v)
		turn()
		if ok != wantOk || !packsAlike(p, want) {
			t.Errorf("what is read of %q shares its memory: %q", in, p)
		}
		scribblePack(p)
		if !packsAlike(again, want) {
			t.Errorf("two packs read of %q lie over each other", in)
		}
	}
}

// sharing is a right pack whose Cmds have one and the same Acts, and whose Uses are a part of these, too.
func sharing() impl.Pack {
	l := []string{"b", "c", "d"}
	return impl.Pack{Name: "main", Uses: l[:2], Cmds: []impl.Cmd{{Task: "s", Acts: l}, {Task: "t", Acts: l}, {Task: "u", Acts: l[1:]}}}
}

// sharingVal is the Val of it, whose lists are one and the same, too.
func sharingVal() impl.Val {
	l := []impl.Val{textVal("b"), textVal("c"), textVal("d")}
	return mapVal([]string{"name", "tasks", "uses"}, textVal("main"), mapVal([]string{"s", "t", "u"}, listVal(l...), listVal(l...), listVal(l[1:]...)), listVal(l[:2]...))
}

func TestListsOfOneValShareNothing(t *testing.T) {
	for _, p := range append(packsToShare(), sharing()) {
		want := othersPackVal(p)
		for i := range partsOf(&want) {
			got := impl.PackVal(p)
			part := partsOf(&got)[i]
			scribble(*part)
			// Past what was scribbled into, all is to be as it was.
			part.L, part.Keys = partsOf(&want)[i].L, partsOf(&want)[i].Keys
			if !alike(got, want) {
				t.Errorf("in the Val of %q part %d lies over others: %v", p, i, got)
			}
		}
	}
}

func TestListsOfOnePackShareNothing(t *testing.T) {
	for _, v := range []impl.Val{othersPackVal(fullPack()), sharingVal(), othersPackVal(withCmds(cmd("a", "x"), cmd("b", "x"), cmd("c", "x")))} {
		want, ok := othersPackOf(v)
		if !ok {
			t.Fatalf("%v is none", v)
		}
		for i := range listsOfPack(want) {
			got, _ := impl.PackOf(v)
			kept := clonePack(got)
			listsOfPack(got)[i]()
			switch n := len(want.Cmds); i {
			case n:
				got.Uses = kept.Uses
			case n + 1:
				got.Needs = kept.Needs
			case n + 2:
				got.Cmds = kept.Cmds
			default:
				got.Cmds[i].Acts = kept.Cmds[i].Acts
			}
			if !packsAlike(got, want) {
				t.Errorf("in what is read of %v list %d lies over others: %q", v, i, got)
			}
		}
	}
}

// loosePacks has l over memory that can be turned, and spare room behind it with packs that would be found there.
func loosePacks(l []impl.Pack) []impl.Pack {
	out := slices.Repeat(packsOf("spare"), len(l)+4)
	for i := range l {
		out[i], _ = loosePack(l[i])
	}
	return out[:len(l)]
}

func TestListsOfPacksAreLeftAlone(t *testing.T) {
	for _, told := range []string{"", "a", "a=b b", "a=spare", "b a", "a=b,c b=a c", "a b c d e f", "a=spare,x x", "a b c d e f g"} {
		l := loosePacks(packsOf(told))
		var before []impl.Pack
		for _, p := range l[:cap(l)] {
			before = append(before, packWithRoom(p))
		}
		if impl.PacksOk(l) != othersPacksOk(packsOf(told)) {
			t.Errorf("whether %q is right hangs on the room behind", told)
		}
		for _, name := range []string{"a", "b", "g", "spare", ""} {
			loose, _ := looseText(name)
			if impl.FindPack(l, loose) != slices.IndexFunc(packsOf(told), func(p impl.Pack) bool { return p.Name == name }) || loose != name {
				t.Errorf("in %q %q is found in the room behind", told, name)
			}
		}
		for i, p := range l[:cap(l)] {
			if !packsAlike(packWithRoom(p), before[i]) {
				t.Errorf("%q, or what is behind it, is written into", told)
			}
		}
	}
}
