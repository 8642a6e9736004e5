package tests

import (
	"math/rand/v2"
	"regexp"
	"slices"
	"strconv"
	"strings"
	"testing"

	"loop.example/g00017/impl"
)

// typedThings draws types for most names of modules, at times several, some of them with faults; and types of what has no such name.
func (m treeMaker) typedThings(list []impl.Node) []impl.Typed {
	types := []impl.Typed{typedAs("x", "Int", ""), typedAs("A.", "Int", ""), typedAs("+", "Int", "")}
	drawn := typeMaker{m.Rand}
	for _, n := range list {
		for _, kid := range append(kidsOf(n, impl.DClause, impl.DData), n.Kids[0].Kids...) {
			for range m.IntN(4) {
				x := impl.Typed{Name: n.Name + "." + kid.Name, Scheme: impl.Scheme{Count: m.Int64N(4), Type: drawn.any(3)}}
				for range m.IntN(3) {
					x.Scheme.Preds = append(x.Scheme.Preds, impl.Pred{Class: m.one("A.Eq", "K", "M.K"), Id: m.Int64N(3)})
				}
				if m.IntN(10) == 0 {
					x.Name = m.one("A.", "M.", "N.", "") + kid.Name
				}
				types = append(types, x)
			}
		}
	}
	m.Shuffle(len(types), func(i, j int) { types[i], types[j] = types[j], types[i] })
	return types
}

// exportingMore draws exports of all sorts, declared or not.
func (m treeMaker) exportingMore(n impl.Node) impl.Node {
	pool := append(ownExports(n), "x", "y'", "f", "+", "!", ":+", "T", "K", "C", "Eq", "Nowhere", "nothing")
	var items []string
	for range m.IntN(12) {
		items = append(items, m.one(pool...))
	}
	return exporting(n.Name, items, n.Kids[1:]...)
}

// Programs of several modules, with faults of Resolve and without, and types of all sorts.
func TestDrawnInterfaces(t *testing.T) {
	t.Parallel()
	m := treeMaker{rand.New(rand.NewPCG(20, 1))}
	lines, codes := map[string]int{}, map[bool]int{}
	for range 120 {
		list := m.program()
		for round := range 120 {
			got := impl.Resolve(list)
			codes[got.Code == 0]++
			types := m.typedThings(list)
			for _, n := range list {
				for _, own := range []impl.Node{n, m.exportingMore(n)} {
					text := checkInterface(t, own, types)
					for line := range strings.Lines(text) {
						lines[own.Kids[0].Name+line[:1]]++
					}
					if text == "" {
						lines["none"]++
					}
				}
			}
			if got.Code < 2 {
				break
			}
			m.mend(list, got, round)
		}
	}
	for _, sort := range []string{"allx", "all(", "alld", "allc", "x", "(", "d", "c", "none"} {
		if lines[sort] < 100 {
			t.Errorf("%d lines of %q", lines[sort], sort)
		}
	}
	if codes[true] < 60 || codes[false] < 500 {
		t.Errorf("codes %v", codes)
	}
}

// layered draws three modules that type, of which each imports those ahead of it; every third value has an operator as its name.
func (m *progMaker) layered(t *testing.T) []impl.Node {
	m.names, m.known = 0, slices.Concat(methodTypes(), otherTypes())
	texts := []string{
		"module A where {" + preludes()[m.IntN(len(preludes()))] + "data T a b = P | Q a (T b a) | R [b] ;",
		"module B where { import A ; data D = E | P2 ;",
		"module C where { import B ; import A ; class W a where { w :: a } ; data V a = X a ; data X = Y ;",
	}
	add := func(at int, draw func() string) {
		before := slices.Clone(m.known)
		for range 12 {
			text := texts[at]
			texts[at] += draw()
			if r := impl.InferProgram(m.operatorModules(t, texts)); r.Code == 0 {
				return
			}
			texts[at], m.known = text, slices.Clone(before)
		}
	}
	if m.IntN(4) > 0 {
		add(0, m.instances)
	}
	for at := range texts {
		for range 1 + m.IntN(3) {
			add(at, func() string {
				var plans []plan
				for range 1 + m.IntN(2) {
					p := m.plan("f", nil)
					plans, m.known = append(plans, p), append(m.known, p.as())
				}
				return m.defined(plans, 2, nil) + ";"
			})
		}
	}
	return m.operatorModules(t, texts)
}

// operatorModules reads modules, with other names for every third value.
func (m *progMaker) operatorModules(t *testing.T, texts []string) []impl.Node {
	var list []impl.Node
	for _, text := range texts {
		text = regexp.MustCompile(`\bf(\d+)\b`).ReplaceAllStringFunc(text, func(name string) string {
			if number, _ := strconv.Atoi(name[1:]); number%3 > 0 {
				return name
			}
			return "( %" + strings.NewReplacer("0", "!", "1", "#", "2", "$", "3", "%", "4", "&", "5", "*", "6", "+", "7", ".", "8", "/", "9", "<").Replace(name[1:]) + " )"
		})
		r := impl.ParseText(text + "}")
		if r.Code != 0 {
			t.Fatalf("code %d of %s", r.Code, text)
		}
		list = append(list, r.Tree)
	}
	return list
}

// ownExports has the names of what a module may export that has a line, in the order of its declarations.
func ownExports(module impl.Node) []string {
	var names []string
	for _, d := range kidsOf(module, impl.DClause, impl.DData, impl.DClass) {
		if !slices.Contains(names, d.Name) {
			names = append(names, d.Name)
		}
	}
	return names
}

// Modules whose types are told have a line for each export, with the type that is told.
func TestDrawnInterfacesOfTypedPrograms(t *testing.T) {
	t.Parallel()
	m := &progMaker{Rand: rand.New(rand.NewPCG(20, 2))}
	values, operators, needs := 0, 0, 0
	for range 40 {
		list := m.layered(t)
		for at, n := range list {
			if m.IntN(3) > 0 { // those that are imported export all, in some order
				names := ownExports(n)
				m.Shuffle(len(names), func(i, j int) { names[i], names[j] = names[j], names[i] })
				if at == len(list)-1 {
					names = names[:m.IntN(len(names)+1)]
				}
				list[at] = exporting(n.Name, names, n.Kids[1:]...)
			}
		}
		r := impl.InferProgram(list)
		if r.Code != 0 {
			t.Fatalf("code %d %s", r.Code, r.Name)
		}
		m.Shuffle(len(list), func(i, j int) { list[i], list[j] = list[j], list[i] })
		for _, n := range list {
			names := ownExports(n)
			if n.Kids[0].Name == "" {
				names = itemNames(n.Kids[0])
			}
			lines := slices.Collect(strings.Lines(checkInterface(t, n, r.Types)))
			if len(lines) != len(names) {
				t.Fatalf("%d lines for %v", len(lines), names)
			}
			for i, name := range names {
				checkLine(t, lines[i], n, name, r.Types)
			}
			values += len(names)
			operators += strings.Count(strings.Join(lines, ""), "(%")
			needs += strings.Count(strings.Join(lines, ""), "=>")
		}
	}
	if values < 500 || operators < 50 || needs < 20 {
		t.Errorf("%d lines, %d operators, %d with needs", values, operators, needs)
	}
}

// checkLine holds one line against what is declared, and the type that is told.
func checkLine(t *testing.T, line string, module impl.Node, name string, types []impl.Typed) {
	t.Helper()
	declared := slices.IndexFunc(module.Kids, func(d impl.Node) bool { return d.Kind != impl.DInst && d.Name == name })
	want := ""
	switch module.Kids[declared].Kind {
	case impl.DData:
		want = "data " + name
	case impl.DClass:
		want = "class " + name
	case impl.DClause:
		at := slices.IndexFunc(types, func(x impl.Typed) bool { return x.Name == module.Name+"."+name })
		want = strings.ReplaceAll(asName(name), " ", "") + " :: " + impl.FormatScheme(types[at].Scheme)
	}
	if line != want+"\n" {
		t.Errorf("%q, not %q", line, want)
	}
}

// The types of a module that exports all stand as they are told: by first clauses.
func TestLinesOfValuesAreInTheOrderOfTheTypes(t *testing.T) {
	t.Parallel()
	m := &progMaker{Rand: rand.New(rand.NewPCG(20, 3))}
	count := 0
	for range 25 {
		list := m.layered(t)
		r := impl.InferProgram(list)
		for _, n := range list {
			want := ""
			for _, x := range r.Types {
				if name, isOwn := strings.CutPrefix(x.Name, n.Name+"."); isOwn {
					want += strings.ReplaceAll(asName(name), " ", "") + " :: " + formatSchemeSlowly(x.Scheme) + "\n"
				}
			}
			got := ""
			for line := range strings.Lines(impl.Interface(n, r.Types)) {
				if strings.Contains(line, " :: ") {
					got += line
					count++
				}
			}
			if got != want {
				t.Errorf("%s\nnot\n%s", got, want)
			}
		}
	}
	if count < 100 {
		t.Errorf("%d lines", count)
	}
}

// Modules with something wrong, at one place, are told as the second reading tells them.
func TestDrawnInterfacesOfSpoiltModules(t *testing.T) {
	r := rand.New(rand.NewPCG(20, 4))
	m := treeMaker{r}
	told := map[bool]int{}
	for range 4000 {
		n := m.module(3)
		types := m.typedThings([]impl.Node{n})
		left, other := r.IntN(40), randomTree(r, 2)
		n = mapTree(n, func(kid impl.Node) impl.Node {
			if left--; left == -1 {
				return other
			}
			if left == -2 && r.IntN(3) == 0 {
				kid.Name = other.Name
			}
			return kid
		})
		told[checkInterface(t, n, types) != ""]++
	}
	if told[true] < 200 || told[false] < 500 {
		t.Errorf("%v", told)
	}
}
