package tests

import (
	"fmt"
	"math/rand"
	"slices"
	"strings"
	"testing"

	"loop.example/g00464/impl"
)

// othersKey tells a job in one go: each text behind its length, how many there are ahead of each list; a text that is too long is left out.
func othersKey(j impl.Job) string {
	var out strings.Builder
	put := func(texts ...any) {
		for _, x := range texts {
			if s := fmt.Sprint(x); len(s) <= mostText {
				out.WriteString(string([]byte{byte(len(s) / 256), byte(len(s) % 256)}) + s)
			}
		}
	}
	put(j.Name, len(j.Acts))
	for _, s := range j.Acts {
		put(s)
	}
	put(len(j.Ins))
	for _, f := range j.Ins {
		put(f.Path, f.Text)
	}
	put(len(j.Envs))
	for _, e := range j.Envs {
		put(e.Name, e.Val)
	}
	put(len(j.Deps))
	for _, m := range j.Deps {
		put(m.Task, m.Log, len(m.Outs))
		for _, f := range m.Outs {
			put(f.Path, f.Text)
		}
	}
	return out.String()
}

// readKey reads a job out of a key that is right, to the end of it.
func readKey(t *testing.T, key []byte) impl.Job {
	t.Helper()
	at := 0
	text := func() string {
		s, next, ok := impl.GetText(key, at)
		if !ok {
			t.Fatalf("at %d of %.200q there is no text", at, key)
		}
		at = next
		return s
	}
	many := func() int {
		n, ok := impl.ParseNum(text(), 9999999)
		if !ok {
			t.Fatalf("ahead of %d of %.200q there is no number", at, key)
		}
		return n
	}
	files := func() []impl.File {
		var out []impl.File
		for range many() {
			path := text()
			out = append(out, impl.File{Path: path, Text: text()})
		}
		return out
	}
	j := impl.Job{Name: text()}
	for range many() {
		j.Acts = append(j.Acts, text())
	}
	j.Ins = files()
	for range many() {
		name := text()
		j.Envs = append(j.Envs, impl.Env{Name: name, Val: text()})
	}
	for range many() {
		m := impl.Made{Task: text()}
		m.Log = text()
		m.Outs = files()
		j.Deps = append(j.Deps, m)
	}
	if at != len(key) {
		t.Fatalf("behind %d of %.200q there is more", at, key)
	}
	return j
}

// keyIs wants these texts of the key of j, one behind the other, each shorter than 256 bytes.
func keyIs(t *testing.T, j impl.Job, texts ...string) {
	t.Helper()
	var all strings.Builder
	for _, s := range texts {
		all.WriteString("\x00" + oneByte(len(s)) + s)
	}
	if got, want := string(impl.KeyOf(j)), all.String(); got != want || othersKey(j) != want {
		t.Errorf("the key of %.300v is %.300q, not %.300q", j, got, want)
	}
}

// keyAsOthers wants the key that others tell; where no text is too long the job comes back of it.
func keyAsOthers(t *testing.T, j impl.Job) string {
	t.Helper()
	key := impl.KeyOf(j)
	if want := othersKey(j); string(key) != want {
		t.Errorf("the key of %.300v is %.300q, not %.300q", j, key, want)
	}
	if back := readKey(t, key); !jobsAlike(back, j) {
		t.Errorf("of the key of %.300v comes %.300v", j, back)
	}
	return string(key)
}

// oneKey wants two jobs to have one key, and to be the same, or neither of these.
func oneKey(t *testing.T, a, b impl.Job, same bool) {
	t.Helper()
	if impl.SameJob(a, b) != same || impl.SameJob(b, a) != same {
		t.Errorf("that they are the same is not %v: %.400v and %.400v", same, a, b)
	}
	if (string(impl.KeyOf(a)) == string(impl.KeyOf(b))) != same {
		t.Errorf("that they have one key is not %v: %.400v and %.400v", same, a, b)
	}
}

// fullJob has two of each, of texts that are all told apart.
func fullJob() impl.Job {
	return impl.Job{
		Name: "n#t",
		Acts: []string{"put a > o", "log b"},
		Ins:  filesOf("a/x=one b/y=two"),
		Envs: envsOf("mode=fast way=long"),
		Deps: []impl.Made{{Task: "d#t", Outs: filesOf("o=u p=v"), Log: "did\n"}, {Task: "e#t", Outs: filesOf("q=w"), Log: "ed"}},
	}
}

func TestKeyOf(t *testing.T) {
	keyIs(t, impl.Job{}, "", "0", "0", "0", "0")
	keyIs(t, impl.Job{Name: "a#b"}, "a#b", "0", "0", "0", "0")
	keyIs(t, impl.Job{Acts: []string{"x"}}, "", "1", "x", "0", "0", "0")
	keyIs(t, impl.Job{Acts: []string{"x", "", "y"}}, "", "3", "x", "", "y", "0", "0", "0")
	keyIs(t, impl.Job{Ins: filesOf("p=t")}, "", "0", "1", "p", "t", "0", "0")
	keyIs(t, impl.Job{Ins: filesOf("q= p=t")}, "", "0", "2", "q", "", "p", "t", "0", "0")
	keyIs(t, impl.Job{Envs: envsOf("e=v")}, "", "0", "0", "1", "e", "v", "0")
	keyIs(t, impl.Job{Envs: envsOf("f=w e=")}, "", "0", "0", "2", "f", "w", "e", "", "0")
	keyIs(t, impl.Job{Deps: []impl.Made{{}}}, "", "0", "0", "0", "1", "", "", "0")
	keyIs(t, impl.Job{Deps: []impl.Made{{Task: "d", Log: "l"}}}, "", "0", "0", "0", "1", "d", "l", "0")
	keyIs(t, impl.Job{Deps: []impl.Made{{Outs: filesOf("o=u p=")}}}, "", "0", "0", "0", "1", "", "", "2", "o", "u", "p", "")
	keyIs(t, impl.Job{Deps: []impl.Made{{Task: "e", Outs: filesOf("o=u")}, {Task: "d", Log: "l"}}}, "", "0", "0", "0", "2", "e", "", "1", "o", "u", "d", "l", "0")
	keyIs(t, fullJob(), "n#t", "2", "put a > o", "log b", "2", "a/x", "one", "b/y", "two", "2", "mode", "fast", "way", "long", "2", "d#t", "did\n", "2", "o", "u", "p", "v", "e#t", "ed", "1", "q", "w")
	if got := string(impl.KeyOf(impl.Job{Name: "ab", Acts: []string{"c"}})); got != "\x00\x02ab\x00\x011\x00\x01c\x00\x010\x00\x010\x00\x010" {
		t.Errorf("byte by byte the key is %q", got)
	}
}

// TestKeysOfEmptyLists: nil, and empty, with room behind and without.
func TestKeysOfEmptyLists(t *testing.T) {
	empty := impl.Job{Acts: []string{}, Ins: []impl.File{}, Envs: []impl.Env{}, Deps: []impl.Made{}}
	roomy := impl.Job{Acts: make([]string, 3)[:0], Ins: filesOf("a=1")[:0], Envs: envsOf("e=v")[:0], Deps: madesOf("a#b")[:0]}
	for _, j := range []impl.Job{empty, roomy} {
		keyIs(t, j, "", "0", "0", "0", "0")
		oneKey(t, j, impl.Job{}, true)
		oneKey(t, j, empty, true)
	}
	with := func(outs []impl.File) impl.Job { return impl.Job{Deps: []impl.Made{{Task: "d", Outs: outs}}} }
	oneKey(t, with(nil), with([]impl.File{}), true)
	oneKey(t, with(nil), with(filesOf("o=u")[:0]), true)
}

// TestKeysByHowMany: how many there are is told in decimal digits.
func TestKeysByHowMany(t *testing.T) {
	for _, n := range []int{0, 1, 2, 9, 10, 11, 99, 100, 101, 255, 256, 999, 1000, 12345} {
		s := impl.NumText(n)
		keyIs(t, impl.Job{Acts: make([]string, n)}, slices.Concat([]string{"", s}, make([]string, n), []string{"0", "0", "0"})...)
		keyIs(t, impl.Job{Ins: make([]impl.File, n)}, slices.Concat([]string{"", "0", s}, make([]string, 2*n), []string{"0", "0"})...)
		keyIs(t, impl.Job{Envs: make([]impl.Env, n)}, slices.Concat([]string{"", "0", "0", s}, make([]string, 2*n), []string{"0"})...)
		keyIs(t, impl.Job{Deps: make([]impl.Made, n)}, slices.Concat([]string{"", "0", "0", "0", s}, slices.Repeat([]string{"", "", "0"}, n))...)
		keyIs(t, impl.Job{Deps: []impl.Made{{Outs: make([]impl.File, n)}}}, slices.Concat([]string{"", "0", "0", "0", "1", "", "", s}, make([]string, 2*n))...)
	}
}

// eachText tells a job with s in each of the places where a text stands.
func eachText(s string) map[string]impl.Job {
	return map[string]impl.Job{
		"Name": {Name: s},
		"Act":  {Acts: []string{s}},
		"Path": {Ins: []impl.File{{Path: s}}},
		"Text": {Ins: []impl.File{{Text: s}}},
		"Env":  {Envs: []impl.Env{{Name: s}}},
		"Val":  {Envs: []impl.Env{{Val: s}}},
		"Task": {Deps: []impl.Made{{Task: s}}},
		"Log":  {Deps: []impl.Made{{Log: s}}},
		"Out":  {Deps: []impl.Made{{Outs: []impl.File{{Path: s}}}}},
		"Made": {Deps: []impl.Made{{Outs: []impl.File{{Text: s}}}}},
	}
}

// TestKeysOfTexts: of each byte and length, in each place.
func TestKeysOfTexts(t *testing.T) {
	texts := []string{"", "é", "\x00\x00", "\x00\x01x", "00", "10", strings.Repeat("x", 255), strings.Repeat("x", 256), strings.Repeat("x", 257), strings.Repeat("\x00", 1000), strings.Repeat("x", mostText-1), strings.Repeat("x", mostText)}
	for c := range 256 {
		texts = append(texts, oneByte(c))
	}
	keys := map[string]string{}
	for _, s := range texts {
		for place, j := range eachText(s) {
			key := keyAsOthers(t, j)
			told := place + " " + s
			if s == "" {
				told = strings.NewReplacer("Text", "Path", "Val", "Env", "Log", "Task", "Made", "Out", "Act", "Act").Replace(place)
			}
			if other, ok := keys[key]; ok && other != told {
				t.Errorf("%.30q and %.30q have one key", told, other)
			}
			keys[key] = told
		}
	}
	if len(keys) != 10*len(texts)-4 {
		t.Errorf("there are %d keys of %d texts", len(keys), len(texts))
	}
}

// TestKeysOfTextsThatAreTooLong: PutText puts nothing of these, but the jobs are not the same.
func TestKeysOfTextsThatAreTooLong(t *testing.T) {
	for _, n := range []int{mostText + 1, mostText + 2, 65535, 65536, 65537, 1000000} {
		long, other := eachText(strings.Repeat("x", n)), eachText(strings.Repeat("y", n))
		for place, j := range long {
			key := string(impl.KeyOf(j))
			if key != othersKey(j) || key != string(impl.KeyOf(other[place])) || len(key) > 30 {
				t.Errorf("with a %s of %d bytes the key is %.100q", place, n, key)
			}
			if impl.SameJob(j, other[place]) || impl.SameJob(j, impl.Job{}) || !impl.SameJob(j, cloneJob(j)) {
				t.Errorf("with a %s of %d bytes it is the same as another", place, n)
			}
		}
	}
	keyIs(t, impl.Job{Name: strings.Repeat("x", mostText+1), Acts: []string{"a", strings.Repeat("x", mostText+1), "b"}}, "3", "a", "b", "0", "0", "0")
}

// TestManyKeys: at random, of few signs and texts, held against others and read back.
func TestManyKeys(t *testing.T) {
	r := rand.New(rand.NewSource(1602))
	seen := map[string]impl.Job{}
	for range 20000 {
		for _, j := range []impl.Job{anyJob(r), fewJob(r)} {
			key := keyAsOthers(t, j)
			if t.Failed() {
				t.FailNow()
			}
			if other, ok := seen[key]; ok {
				oneKey(t, j, other, jobsAlike(j, other))
				if !jobsAlike(j, other) {
					t.Fatalf("%v and %v have one key", j, other)
				}
			}
			seen[key] = j
		}
	}
	if len(seen) < 20000 {
		t.Errorf("only %d keys were told", len(seen))
	}
}

func TestGreatKeys(t *testing.T) {
	const n = 100000
	names := manyNames(n)
	j := impl.Job{Name: strings.Repeat("n", mostText), Acts: names}
	for _, name := range names {
		j.Ins = append(j.Ins, impl.File{Path: name, Text: name})
		j.Envs = append(j.Envs, impl.Env{Name: name})
		j.Deps = append(j.Deps, impl.Made{Task: name, Outs: filesOf("o=" + name), Log: "x"})
	}
	keyAsOthers(t, j)
	oneKey(t, j, cloneJob(j), true)
	other := cloneJob(j)
	other.Deps[n-1].Outs[0].Text = "turned"
	oneKey(t, j, other, false)
	j = impl.Job{Deps: []impl.Made{{Outs: j.Ins}}}
	keyAsOthers(t, j)
	oneKey(t, j, cloneJob(j), true)
}
