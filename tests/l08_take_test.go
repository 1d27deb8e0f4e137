package tests

import (
	"math/rand"
	"slices"
	"strings"
	"testing"

	"loop.example/g00464/impl"
)

// mayTakeJust wants of these and those, versions with blanks between, that a Need of this Range takes just these.
func mayTakeJust(t *testing.T, text, these, those string) {
	t.Helper()
	for _, name := range []string{"lib", "", "No name"} {
		for _, v := range strings.Fields(these) {
			if !impl.MayTake(need(name, text), readVer(t, v)) {
				t.Errorf("%q of %q does not take %s", text, name, v)
			}
		}
		for _, v := range strings.Fields(those) {
			if impl.MayTake(need(name, text), readVer(t, v)) {
				t.Errorf("%q of %q takes %s", text, name, v)
			}
		}
	}
}

func TestMayTake(t *testing.T) {
	mayTakeJust(t, "*", "0.0.0 1.2.3 9999.9999.9999", "0.0.0-0 1.2.3-a 9999.9999.9999-a")
	mayTakeJust(t, "1.2.3", "1.2.3", "1.2.4 1.2.2 1.2.3-a 2.2.3 0.0.0")
	mayTakeJust(t, "1.2.3-a", "1.2.3-a", "1.2.3 1.2.3-b 1.2.3-a.0 1.2.3-A")
	mayTakeJust(t, "^1.2.3", "1.2.3 1.2.4 1.9999.0", "1.2.2 2.0.0 2.0.0-0 1.2.3-a 1.3.0-a 0.9.0")
	mayTakeJust(t, "^1.2.3-b", "1.2.3-b 1.2.3-b.0 1.2.3-c 1.2.3 1.3.0", "1.2.3-a 1.2.3-9 1.2.2 1.2.4-c 2.0.0 2.0.0-0 2.0.0-a")
	mayTakeJust(t, "^0.1.2", "0.1.2 0.1.9", "0.1.1 0.2.0 1.0.0")
	mayTakeJust(t, "~1.2", "1.2.0 1.2.9999", "1.3.0 1.1.9999 1.2.0-a 1.3.0-0")
	mayTakeJust(t, "1.x || >=3.0.0-rc", "1.0.0 1.9.9 3.0.0 3.0.0-rc 3.0.0-rc.1 3.0.0-z 4.0.0", "0.9.9 2.0.0 3.0.0-a 3.0.1-rc 4.0.0-rc 1.0.0-a 2.0.0-0")
	mayTakeJust(t, "1.0.0 - 2.0.0", "1.0.0 1.5.0 2.0.0", "0.9.9 2.0.1 1.0.0-a 1.5.0-a 2.0.0-a")
	mayTakeJust(t, " >1 <=3 ", "2.0.0 3.0.0 3.9999.9999", "1.0.0 1.9.0 4.0.0 2.0.0-a")
	mayTakeJust(t, ">2 <1", "", "0.0.0 1.0.0 1.5.0 2.0.0 3.0.0 9999.9999.9999")
}

// TestLongRangesMayTake: that a Range is too long for a right Need is not asked.
func TestLongRangesMayTake(t *testing.T) {
	mayTakeJust(t, strings.Repeat(" ", 100)+"1.2.3"+strings.Repeat(" ", 100), "1.2.3", "1.2.4")
	mayTakeJust(t, ">=1000.1000.1000-abcde <2000.0.0", "1000.1000.1000 1000.1000.1000-abcde 1999.0.0", "2000.0.0 1000.1000.1000-abcd 1.0.0")
	mayTakeJust(t, strings.Repeat(" ", 200000)+"*", "1.2.3", "1.2.3-a")
}

func TestRangesThatAreNone(t *testing.T) {
	for _, s := range []string{"", " ", "x", "X", "1.", "1.2.", "1..2", "01", "1 ||", "|| 1", "||", "* ||", "1|2", "1  2", "* x", "x || *", "* || x", "1\n", "\t1", "-", "1 - 2", ">", "=>1", "^^1", "^9999", "10000.0.0", "1.0.0-01", "1.0.0-", "1||2||3||4||5", "* * * * *", "*||*||*||*||*", "latest", "\xff", strings.Repeat("x", 200000), strings.Repeat("*||", 100000)} {
		for _, v := range append(ascendingVers(), wrongVers()...) {
			if impl.MayTake(need("a", s), v) {
				t.Fatalf("%q takes %v", s, v)
			}
		}
	}
	if impl.MayTake(impl.Need{}, impl.Ver{}) {
		t.Error("a Need of nothing takes a version")
	}
}

func TestWrongVersionsAreNotTaken(t *testing.T) {
	for _, s := range []string{"*", "1", ">=0.0.0-0", "<9999", "^1.2.3-a", "1.2.3-0 - 9999.9999.9999", ">=1.2.3-0 || *", "1.2.3"} {
		for _, v := range wrongVers() {
			if impl.MayTake(need("a", s), v) {
				t.Errorf("%q takes %v", s, v)
			}
		}
	}
}

func TestManyMayTake(t *testing.T) {
	rnd := rand.New(rand.NewSource(84))
	vers := slices.Concat(manyVers(), wrongVers())
	none, taken, asked := 0, 0, 0
	for range 3000 {
		s := someRangeText(rnd)
		told, ok := othersRange(s)
		if !ok {
			none++
		}
		for range 100 {
			v := vers[rnd.Intn(len(vers))]
			want := ok && othersVerOk(v) && othersTake(rangeOf(t, told), v)
			if impl.MayTake(need("a", s), v) != want {
				t.Fatalf("%q takes %v: %v", s, v, !want)
			}
			asked++
			if want {
				taken++
			}
		}
	}
	if none < 100 || taken < asked/100 || taken > asked/2 {
		t.Errorf("%d were none; of %d %d were taken", none, asked, taken)
	}
}
