package tests

import (
	"regexp"
	"strings"
	"testing"

	"loop.example/g00464/impl"
)

var taskShape = regexp.MustCompile(`\A([a-z][a-z0-9-]{0,9})#([a-z][a-z0-9-]{0,9})\z`)

// taskOrNone wants both parts of s where it is a task's text, and nothing where it is none.
func taskOrNone(t *testing.T, s string, want bool) {
	t.Helper()
	parts := taskShape.FindStringSubmatch(s)
	if (parts != nil) != want {
		t.Errorf("the test's own reader tells of %q: %v", s, !want)
	}
	if parts == nil {
		parts = make([]string, 3)
	}
	if pack, task, ok := impl.ParseTask(s); ok != want || pack != parts[1] || task != parts[2] {
		t.Errorf("%q is read as %q, %q, %v", s, pack, task, ok)
	}
}

func TestTaskNames(t *testing.T) {
	for _, z := range []struct{ pack, task, want string }{
		{"a", "b", "a#b"}, {"app", "build", "app#build"}, {"abcdefghij", "k123456789", "abcdefghij#k123456789"},
		// Of no names, too: nothing is asked of them.
		{"", "", "#"}, {"a", "", "a#"}, {"", "b", "#b"}, {"A", "B c", "A#B c"}, {"#", "#", "###"}, {"a#b", "c", "a#b#c"}, {"a", "b#c", "a#b#c"}, {"\x00", "\xff", "\x00#\xff"}, {"^a", "é\n", "^a#é\n"},
	} {
		if got := impl.TaskName(z.pack, z.task); got != z.want {
			t.Errorf("of %q and %q the name is %q", z.pack, z.task, got)
		}
	}
	long := strings.Repeat("x", 100000)
	if impl.TaskName(long, long) != long+"#"+long || impl.TaskName(long, "") != long+"#" {
		t.Error("the name of long texts")
	}
}

// TestTaskNamesComeBack: what is told of two names is read as them.
func TestTaskNamesComeBack(t *testing.T) {
	for _, pack := range rightNames() {
		for _, task := range rightNames() {
			s := impl.TaskName(pack, task)
			taskOrNone(t, s, true)
			if p, k, ok := impl.ParseTask(s); !ok || p != pack || k != task {
				t.Errorf("%q of %q and %q is read as %q, %q, %v", s, pack, task, p, k, ok)
			}
		}
	}
}

func TestNoTaskOfNoNames(t *testing.T) {
	for _, wrong := range noNames() {
		taskOrNone(t, wrong, false)
		taskOrNone(t, impl.TaskName(wrong, wrong), false)
		for _, name := range rightNames() {
			taskOrNone(t, impl.TaskName(wrong, name), false)
			taskOrNone(t, impl.TaskName(name, wrong), false)
		}
	}
	for c := range 256 {
		small := 'a' <= c && c <= 'z'
		later := small || '0' <= c && c <= '9' || c == '-'
		taskOrNone(t, oneByte(c)+"#m", small)
		taskOrNone(t, "m#"+oneByte(c), small)
		taskOrNone(t, "m"+oneByte(c)+"#m", later)
		taskOrNone(t, "m#m"+oneByte(c), later)
	}
}

func TestTasksByLength(t *testing.T) {
	for n := range 13 {
		for k := range 13 {
			taskOrNone(t, strings.Repeat("p", n)+"#"+strings.Repeat("t", k), 1 <= n && n <= 10 && 1 <= k && k <= 10)
		}
	}
	long := strings.Repeat("a", 1000000)
	for _, s := range []string{long, "#" + long, long + "#", long + "#a", "a#" + long, long + "#" + long, strings.Repeat("#", 1000000)} {
		taskOrNone(t, s, false)
	}
}

// TestTasksBySigns: just one `#`, with a name on either side.
func TestTasksBySigns(t *testing.T) {
	for _, s := range []string{"", "a", "#", "##", "###", "a#", "#a", "a##a", "#a#a", "a#a#", "a#b#c", "a#b#c#d", "^a", "^a#b", "a#^b", "a #b", "a# b", " a#b", "a#b ", "a#b\n", "\na#b", "a/b", "a.b", "a:b", "a@b", "a＃b", "build", "a#b,c", "a#b c#d", "[since]"} {
		taskOrNone(t, s, false)
	}
	for _, s := range textsOf("a#-^", 3000) {
		taskOrNone(t, s, taskShape.MatchString(s))
	}
}
