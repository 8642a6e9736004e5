package tests

import (
	"slices"
	"strings"
	"testing"

	"loop.example/g00017/impl"
)

func TestFreeNamesRows(t *testing.T) {
	for text, want := range map[string]string{
		`x`: "x", `3`: "", `'x'`: "", `"x"`: "", `X`: "",
		`(X x)`: "x", `(X x y x)`: "x y", `(f x f y)`: "f x y", `(primAdd y x)`: "y x", `(primSeq x x)`: "x",
		`(\x -> x)`: "", `(\x -> y)`: "y", `(\x y -> (y x z))`: "z",
		// One place binds it, another does not.
		`((\x -> x) x)`: "x", `(x (\x -> x))`: "x", `(\x -> (y (\y -> (y x))))`: "y", `((\x -> y) (\y -> x))`: "y x", `(\x -> ((\x -> x) x))`: "",
		`(\x -> (\y -> (\x -> (x y z))))`: "z",
		// A let binds in all its kids.
		`(let x = x in x)`: "", `(let x = y in x)`: "y", `(let x = (x y); y = (z x) in (x w))`: "z w", `(let x = c; y = b in a)`: "c b a", `(let x = y; y = x in (x y))`: "", `((let x = x in x) x)`: "x", `(let x = (\y -> (x y)) in y)`: "y", `(let x = (let y = x in y) in (y x))`: "y",
		// The name of a case holds in alternatives and default, not in what is looked at.
		`(case x of { A -> y; _ -> z })`: "x y z", `(case q of q { A -> q; _ -> q })`: "q", `(case x of q { A -> q; _ -> q })`: "x", `(case x of { A -> q; _ -> q })`: "x q", `(case (\q -> q) of q { _ -> (q r) })`: "r", `(case x of q { _ -> q })`: "x", `(case q of { _ -> q })`: "q",
		// An alternative's names hold in its body alone, ahead of the name of the case.
		`(case x of { A a b -> (a b c); B b -> (a b); _ -> (b d) })`: "x c a b d", `(case a of { A a -> a })`: "a", `(case x of q { A q -> q; B -> q; _ -> q })`: "x", `(case x of q { A a -> a; B -> a; _ -> (q a) })`: "x a", `(case x of a { A a -> a; _ -> a })`: "x",
		// What is looked at comes first, then alternatives, then the default.
		`(case c of { A -> b; B -> d; _ -> a })`: "c b d a", `(case (f c) of { A -> c; _ -> (f e) })`: "f c e",
		`(case (case x of q { _ -> (q y) }) of q { A y -> (q y); _ -> (case q of y { _ -> (y w) }) })`: "x y w",
		`(let f = (\x -> (case x of y { A z -> (f z y); _ -> (g z) })) in (f a))`:                      "g z a",
	} {
		c := readCore(text)
		if got := strings.Join(impl.FreeNames(c), " "); got != want || impl.CoreFault(c) != 0 {
			t.Errorf("%s: %q, not %q", text, got, want)
		}
		checkCore(t, c)
	}
}

// Names of constructors, prims, chars and texts are none of variables, even where they are the same.
func TestFreeNamesAreThoseOfVariables(t *testing.T) {
	x := coreVar("x")
	for _, c := range []impl.Core{coreCon("x"), coreCon("x", coreCon("x")), coreChar("x"), coreString("x"), coreCase("", []impl.Core{coreInt(1)}, impl.CoreAlt{Con: "x", Body: coreInt(1)}), corePrim("primShow", coreCon("primShow"))} {
		if got := impl.FreeNames(c); got != nil {
			t.Errorf("%s: %q", coreText(c), got)
		}
		if got := impl.Rename(impl.Rename(c, "x", "y"), "primShow", "y"); !impl.SameCore(got, c) {
			t.Errorf("%s becomes %s", coreText(c), coreText(got))
		}
	}
	// What a constructor of an alternative is called binds nothing.
	c := coreCase("", []impl.Core{coreInt(1)}, impl.CoreAlt{Con: "x", Body: x})
	if got := impl.FreeNames(c); !slices.Equal(got, []string{"x"}) {
		t.Errorf("%q", got)
	}
	for _, name := range []string{" ", "\x00", "é", "a b", "->", "_", "primAdd", "True", strings.Repeat("n", 100000)} {
		if got := impl.FreeNames(coreApp(coreVar(name), x, coreLam("y", coreVar(name)))); !slices.Equal(got, []string{name, "x"}) {
			t.Errorf("%q", got)
		}
		if got := impl.FreeNames(impl.Core{Kind: impl.CLam, Names: []string{name}, Kids: []impl.Core{coreVar(name)}}); got != nil {
			t.Errorf("%q", got)
		}
	}
}

func TestRenameRows(t *testing.T) {
	for _, row := range []struct{ text, from, to, want string }{
		{`x`, "x", "y", `y`}, {`x`, "y", "z", `x`}, {`x`, "x", "x", `x`}, {`x`, "x", "", `x`}, {`x`, "", "y", `x`}, {`x`, "", "", `x`},
		{`(f x (C x y) (primAdd x 1))`, "x", "y", `(f y (C y y) (primAdd y 1))`},
		{`(\x -> (x y))`, "x", "z", `(\x -> (x y))`}, {`(\x -> (x y))`, "y", "z", `(\x -> (x z))`},
		{`(x (\x -> x) x)`, "x", "y", `(y (\x -> x) y)`}, {`(\y -> (x (\x -> x)))`, "x", "z", `(\y -> (z (\x -> x)))`},
		// What binds the new name around catches it.
		{`(\y -> x)`, "x", "y", `(\y -> y)`}, {`(let y = x in (x y))`, "x", "y", `(let y = y in (y y))`}, {`(case x of y { A -> x; _ -> x })`, "x", "y", `(case y of y { A -> y; _ -> y })`}, {`(case x of { A y -> x; _ -> x })`, "x", "y", `(case y of { A y -> y; _ -> y })`},
		// A let binds in all its kids, nested ones too.
		{`(let x = (x y) in x)`, "x", "z", `(let x = (x y) in x)`}, {`(let x = (x y) in y)`, "y", "z", `(let x = (x z) in z)`}, {`(let a = x; x = a in (a x))`, "x", "z", `(let a = x; x = a in (a x))`}, {`(x (let x = x in x) x)`, "x", "z", `(z (let x = x in x) z)`}, {`(let a = x in (let x = a in x))`, "x", "z", `(let a = z in (let x = a in x))`},
		// The name of a case is none in what is looked at.
		{`(case x of x { A -> x; B a -> x; _ -> x })`, "x", "z", `(case z of x { A -> x; B a -> x; _ -> x })`}, {`(case x of q { A -> x; B x -> x; _ -> x })`, "x", "z", `(case z of q { A -> z; B x -> x; _ -> z })`}, {`(case x of { A a x -> x; B a -> x; _ -> x })`, "x", "z", `(case z of { A a x -> x; B a -> z; _ -> z })`}, {`(case q of q { A q -> q; _ -> (q r) })`, "r", "q", `(case q of q { A q -> q; _ -> (q q) })`},
		{`(case x of { _ -> x })`, "x", "z", `(case z of { _ -> z })`}, {`(case (\x -> x) of q { _ -> (q x) })`, "x", "q", `(case (\x -> x) of q { _ -> (q q) })`},
		// Constructors, prims and texts are no variables.
		{`(X "x" 'x' x)`, "X", "Y", `(X "x" 'x' x)`}, {`(primAdd x 1)`, "primAdd", "primSub", `(primAdd x 1)`}, {`(X "x" 'x' x)`, "x", "X", ""},
		{`x`, "x", "a b", ""}, {`x`, "x", "primAdd", ""}, {`x`, "x", "\x00", ""},
	} {
		c := readCore(row.text)
		got := impl.Rename(c, row.from, row.to)
		if row.want != "" && !impl.SameCore(got, readCore(row.want)) || coreText(got) != coreText(renameSlowly(c, row.from, row.to)) {
			t.Errorf("%s with %q as %q: %s", row.text, row.from, row.to, impl.FormatCore(got))
		}
		if impl.CoreFault(got) != 0 || impl.CoreSize(got) != impl.CoreSize(c) {
			t.Errorf("%s with %q as %q has another size", row.text, row.from, row.to)
		}
	}
}

// Faulty terms stay as they are, whatever is free in them.
func TestRenameOfFaultyTerms(t *testing.T) {
	x := coreVar("x")
	faulty := []impl.Core{{}, coreApp(x), coreCon("", x), coreLam("y", coreApp(x)), coreLam("", x), coreLam("y y", x), coreLet("y", x), coreCase("q", []impl.Core{x}), coreCase("q", []impl.Core{x}, coreAlt("A", x), coreAlt("A", x)), coreCase("q", nil, coreAlt("A", x)), corePrim("primAdd", x), corePrim("x", x), {Kind: 11, Name: "x", Kids: []impl.Core{x}}, {Kind: impl.CVar, Name: "x", Kids: []impl.Core{x}}, {Kind: impl.CVar, Name: "x", Big: impl.Big{Minus: true}}, coreCon("C", slices.Repeat([]impl.Core{x}, impl.MaxCore)...), raised(x, impl.MaxCoreDeep, coreLevels()["constructor"])}
	for _, c := range faulty {
		for _, names := range [][2]string{{"x", "y"}, {"x", ""}, {"", "x"}, {"q", "x"}} {
			if got := impl.Rename(c, names[0], names[1]); coreText(got) != coreText(c) {
				t.Errorf("%.200s becomes %.200s", coreText(c), coreText(got))
			}
		}
		if impl.CoreFault(c) == 0 || impl.FreeNames(c) != nil {
			t.Errorf("%.200s", coreText(c))
		}
	}
}

// A name that stands nowhere can take the place of a free one and be turned back; nothing that is bound turns.
func TestRenameThereAndBack(t *testing.T) {
	m := newCoreMaker(4)
	turned := 0
	for i := range 1500 {
		c := m.sound(2 + i%5)
		free := impl.FreeNames(c)
		for _, from := range []string{"a", "b", "c", "d", "e", "f"} {
			got := impl.Rename(c, from, "new")
			at := slices.Index(free, from)
			want := slices.Clone(free)
			if at >= 0 {
				want[at] = "new"
				turned++
			}
			if names := impl.FreeNames(got); !slices.Equal(names, want) {
				t.Errorf("%s: %q, not %q", coreText(c), names, want)
			}
			if (at < 0) != impl.SameCore(got, c) || !impl.SameCore(impl.Rename(got, "new", from), c) {
				t.Errorf("%s with new for %s is %s", coreText(c), from, coreText(got))
			}
			if nameless(got, nil, nil) != nameless(c, nil, map[string]string{from: "new"}) {
				t.Errorf("%s with new for %s means %s", coreText(c), from, coreText(got))
			}
		}
	}
	if turned < 1000 {
		t.Errorf("%d turned", turned)
	}
}

// To let a name be another one, and to put that in its place, is the same wherever nothing around binds it: bound names tell nothing, free ones all.
func TestRenameIsALet(t *testing.T) {
	m := newCoreMaker(5)
	for i := range 1500 {
		c := m.sound(2 + i%5)
		for _, from := range []string{"a", "b", "c"} {
			for _, to := range []string{"a", "b", "free"} {
				if slices.Contains(boundInCore(&c), to) {
					continue
				}
				got, want := nameless(impl.Rename(c, from, to), nil, nil), nameless(c, nil, map[string]string{from: to})
				if got != want {
					t.Errorf("%s with %s for %s is %s, not %s", coreText(c), to, from, got, want)
				}
			}
		}
	}
}

// boundInCore has all names that are bound in a term.
func boundInCore(c *impl.Core) []string {
	var names []string
	for _, part := range coreParts(c) {
		names = append(names, part.Names...)
		if part.Kind == impl.CCase {
			names = append(names, part.Name)
		}
		for _, alt := range part.Alts {
			names = append(names, alt.Names...)
		}
	}
	return names
}

// A bound name that is turned with all that it binds tells no other free names.
func TestFreeNamesDoNotHangOnBoundOnes(t *testing.T) {
	m := newCoreMaker(6)
	for i := range 800 {
		c := m.sound(3 + i%4)
		own := cloneCore(c)
		turnBound(&own)
		if !slices.Equal(impl.FreeNames(own), impl.FreeNames(c)) || nameless(own, nil, nil) != nameless(c, nil, nil) || impl.CoreFault(own) != 0 {
			t.Errorf("%s and %s", coreText(c), coreText(own))
		}
	}
}

// turnBound gives all bound names a mark more, from inside out, by Rename of what is in their reach.
func turnBound(c *impl.Core) {
	for _, place := range corePlaces(c) {
		turnBound(place.part)
	}
	for _, place := range corePlaces(c) {
		for _, name := range slices.Compact(slices.Sorted(slices.Values(place.bound))) {
			if name != "" {
				*place.part = impl.Rename(*place.part, name, name+"'")
			}
		}
	}
	if c.Kind == impl.CCase && c.Name != "" {
		c.Name += "'"
	}
	for i := range c.Names {
		c.Names[i] += "'"
	}
	for i := range c.Alts {
		for at := range c.Alts[i].Names {
			c.Alts[i].Names[at] += "'"
		}
	}
}

func TestDrawnCores(t *testing.T) {
	m := newCoreMaker(7)
	faults := map[int64]int{}
	for i := range 1500 {
		c := m.sound(1 + i%6)
		spoilt := m.spoilt(c)
		checkCore(t, c)
		checkCore(t, spoilt)
		checkCore(t, m.spoilt(spoilt))
		faults[impl.CoreFault(c)]++
		faults[impl.CoreFault(spoilt)]++
	}
	if faults[0] < 1500 || faults[2] < 500 {
		t.Errorf("faults %v", faults)
	}
}
