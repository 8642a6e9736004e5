package tests

import (
	"slices"
	"strings"
	"testing"

	"loop.example/g00017/impl"
)

func TestFreshRows(t *testing.T) {
	for _, row := range []struct{ name, avoid, want string }{
		{"x", "", "x'"},
		{"x", "y", "x'"},
		{"x", "x", "x'"},
		{"x", "x x", "x'"},
		{"x", "x'", "x''"},
		{"x", "x x' x'", "x''"},
		{"x", "x' y", "x''"},
		{"x", "x' x''", "x'''"},
		{"x", "x'' x' x'' x'", "x'''"},
		{"x", "x''", "x'"},
		{"x", "x'' x'''", "x'"},
		{"x", "x' x'''", "x''"},
		{"x", "xx' 'x x'y x'x'", "x'"},
		{"x'", "x x'", "x''"},
		{"x'", "", "x''"},
		{"x'", "x'' x'''", "x''''"},
		{"x", "y' y''", "x'"},
		{"'", "' ''", "'''"},
		{"", "", "'"},
		{"", "' ''", "'''"},
		{"@1", "@1 @1'", "@1''"},
		{"Main.f", "Main.f'", "Main.f''"},
		{"a b", "", "a b'"},
		{"é", "é é'", "é''"},
	} {
		avoid := strings.Fields(row.avoid)
		if got := impl.Fresh(row.name, avoid); got != row.want {
			t.Errorf("fresh of %q beside %q is %q, not %q", row.name, avoid, got, row.want)
		}
		if got := freshSlowly(row.name, avoid); got != row.want {
			t.Errorf("the second reading has %q", got)
		}
	}
	if got := impl.Fresh("", []string{"", ""}); got != "'" {
		t.Errorf("fresh of the empty name is %q", got)
	}
}

func TestFreshBesideManyLongerOnes(t *testing.T) {
	t.Parallel()
	var avoid []string
	for i := range 2000 {
		avoid = append(avoid, quotes("x", 1+i*7%2000), "y")
	}
	if got := impl.Fresh("x", avoid); got != quotes("x", 2001) {
		t.Errorf("it has the length %d", len(got))
	}
	if got := impl.Fresh(quotes("x", 700), avoid); got != quotes("x", 2001) {
		t.Errorf("it has the length %d", len(got))
	}
	without := slices.DeleteFunc(slices.Clone(avoid), func(name string) bool { return name == quotes("x", 1234) })
	if got := impl.Fresh("x", without); got != quotes("x", 1234) {
		t.Errorf("it has the length %d", len(got))
	}
	if got := impl.Fresh(quotes("x", 1234), without); got != quotes("x", 2001) {
		t.Errorf("it has the length %d", len(got))
	}
	long := strings.Repeat("n", 1<<20)
	if got := impl.Fresh(long, slices.Repeat([]string{long, long + "'", "'"}, 300)); got != long+"''" {
		t.Errorf("it has the length %d", len(got))
	}
}

func TestAllNamesRows(t *testing.T) {
	for _, row := range []struct{ term, names string }{
		{"x", "x"},
		{"12", ""},
		{"'c'", ""},
		{`"text"`, ""},
		{"C", ""},
		{"(C x y)", "x y"},
		{"(C x (D y x) y z)", "x y z"},
		{"(f x f)", "f x"},
		{`(\x -> y)`, "x y"},
		{`(\x y -> (z y x))`, "x y z"},
		{`(\b a -> 1)`, "b a"},
		{"(let z = q; y = z in y)", "z y q"},
		{`(let z = (\y -> q) in z)`, "z y q"},
		{"(let b = 1; a = c in (d b))", "b a c d"},
		{"(primAdd x y)", "x y"},
		{"(primError x)", "x"},
		{"(case x of { A -> y })", "x y"},
		{"(case x of v { A -> y })", "v x y"},
		{"(case x of v { _ -> y })", "v x y"},
		{"(case x of { _ -> y })", "x y"},
		{"(case x of v { A a b -> c; B d -> e; _ -> f })", "v x f a b c d e"},
		{"(case x of { A a b -> c; B -> e; _ -> f })", "x f a b c e"},
		{"(case x of v { A v x -> v; B x -> v })", "v x"},
		{"(case (case y of w { A a -> z }) of v { B b -> a; _ -> w })", "v w y a z b"},
		{`(f (\x -> x) (let x = x in x) (case x of x { C x -> x; _ -> x }))`, "f x"},
		{"(f 'x' \"y\" X)", "f"},
	} {
		c := readCore(row.term)
		want := strings.Fields(row.names)
		if got := impl.AllNames(c); !slices.Equal(got, want) {
			t.Errorf("%s has the names %q, not %q", row.term, got, want)
		}
		if got := allNamesSlowly(c); !slices.Equal(got, want) {
			t.Errorf("the second reading has %q", got)
		}
	}
}

func TestAllNamesOfFaultyTerms(t *testing.T) {
	m := newPassMaker(6)
	for _, c := range severalCores() {
		if got, want := impl.AllNames(c), allNamesSlowly(c); !slices.Equal(got, want) {
			t.Errorf("%s has the names %q, not %q", coreText(c), got, want)
		}
	}
	for i := range 500 {
		c := newCoreMaker(uint64(i)).spoilt(m.term(1 + i%4))
		if got, want := impl.AllNames(c), allNamesSlowly(c); !slices.Equal(got, want) {
			t.Errorf("%s has the names %q, not %q", coreText(c), got, want)
		}
	}
	for what, form := range coreForms() {
		for _, count := range []int{20000, 20001} {
			c := form(count)
			isNone := impl.CoreFault(c) != 0
			if got := impl.AllNames(c); isNone && len(got) > 0 || !isNone && len(got) != len(uniqueNames(c)) {
				t.Errorf("%s of %d has %d names", what, count, len(got))
			}
		}
	}
	for what, frame := range coreLevels() {
		deepest := raised(coreVar("x"), 999, frame)
		if !slices.Contains(impl.AllNames(deepest), "x") || len(impl.AllNames(frame(deepest))) > 0 {
			t.Errorf("the names of terms with 1000 levels and one more of %s", what)
		}
	}
}

// uniqueNames has the names of a term in a set.
func uniqueNames(c impl.Core) map[string]bool {
	set := map[string]bool{}
	for _, name := range namesSlowly(c) {
		set[name] = true
	}
	return set
}

func TestPassNames(t *testing.T) {
	want := map[int64]string{1: "beta", 2: "known", 3: "dead", 4: "inline", 5: "float", 6: "strict"}
	for p := int64(-1); p <= 8; p++ {
		if got := impl.PassName(p); got != want[p] {
			t.Errorf("pass %d is called %q", p, got)
		}
	}
	for _, p := range []int64{-1 << 63, 1<<63 - 1, -6, 100, 1 << 32, 1<<32 + 1} {
		if got := impl.PassName(p); got != "" {
			t.Errorf("pass %d is called %q", p, got)
		}
	}
	if impl.PassBeta != 1 || impl.PassKnown != 2 || impl.PassDead != 3 || impl.PassInline != 4 || impl.PassFloat != 5 || impl.PassStrict != 6 || impl.MaxPasses != 40 {
		t.Error("numbers of passes")
	}
}
