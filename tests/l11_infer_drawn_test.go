package tests

import (
	"math/rand/v2"
	"slices"
	"strconv"
	"strings"
	"testing"

	"loop.example/g00017/impl"
)

// A progMaker draws modules whose expressions are made for the types that are asked of them, so that most of them type; a variable that stands for any type is a constructor with ' ahead.
type progMaker struct {
	*rand.Rand
	names int
	known []knownName
}

// A knownName is a name with a type; its places may be anything.
type knownName struct {
	name string
	t    impl.Type
}

func pairOf(a, b impl.Type) impl.Type { return typeCon("(,)", a, b) }

// Of classes, datas and instances there are several kinds, of which each module has one.
func preludes() []string {
	return []string{
		"class Eq a where { eq :: a -> a -> Bool } ; class Show a where { show :: a -> [Char] } ; class Eq a => Ord a where { le :: a -> a -> Bool ; pick :: Show b => b -> a -> a } ; class ( Show a , Ord a ) => Num a where { add :: a -> a -> a ; zero :: a } ; ",
		"class Num a where { add :: a -> a -> a ; zero :: a } ; class Num a => Show a where { show :: a -> [Char] } ; class Show a => Ord a where { pick :: ( Num b , Show b ) => b -> a -> a ; le :: a -> a -> Bool } ; class ( Num a , Ord a ) => Eq a where { eq :: a -> a -> Bool } ; ",
		"class Ord a where { pick :: Show b => b -> a -> a ; le :: a -> a -> Bool } ; class Num a where { add :: a -> a -> a ; zero :: a } ; class Eq a where { eq :: a -> a -> Bool } ; class ( Eq a , Ord a ) => Show a where { show :: a -> [Char] } ; ",
	}
}

func methodTypes() []knownName {
	a, b := typePlace(0), typePlace(1)
	return []knownName{
		{"eq", arrowsTo([]impl.Type{a, a}, typeCon("Bool"))},
		{"le", arrowsTo([]impl.Type{a, a}, typeCon("Bool"))},
		{"show", arrowsTo([]impl.Type{a}, listOf(typeCon("Char")))},
		{"pick", arrowsTo([]impl.Type{b, a}, a)},
		{"add", arrowsTo([]impl.Type{a, a}, a)},
		{"zero", a},
	}
}

func otherTypes() []knownName {
	a, b, number := typePlace(0), typePlace(1), typeCon("Int")
	data := typeCon("T", a, b)
	return []knownName{
		{"primAdd", arrowsTo([]impl.Type{number, number}, number)},
		{"primLess", arrowsTo([]impl.Type{number, number}, typeCon("Bool"))},
		{"primAppend", arrowsTo([]impl.Type{listOf(a), listOf(a)}, listOf(a))},
		{"primSeq", arrowsTo([]impl.Type{a, b}, b)},
		{"P", data},
		{"Q", arrowsTo([]impl.Type{a, typeCon("T", b, a)}, data)},
		{"R", arrowsTo([]impl.Type{listOf(b)}, data)},
		{"True", typeCon("Bool")},
		{"(:)", arrowsTo([]impl.Type{a, listOf(a)}, listOf(a))},
	}
}

// t draws a type of what is at hand.
func (m *progMaker) t(levels int, variables []string) impl.Type {
	if levels > 0 {
		switch m.IntN(6) {
		case 0:
			return listOf(m.t(levels-1, variables))
		case 1:
			return pairOf(m.t(levels-1, variables), m.t(levels-1, variables))
		case 2:
			return typeCon("T", m.t(levels-1, variables), m.t(levels-1, variables))
		case 3:
			return typeCon("->", m.t(levels-1, variables), m.t(levels-1, variables))
		}
	}
	if len(variables) > 0 && m.IntN(2) == 0 {
		return typeCon(variables[m.IntN(len(variables))])
	}
	return typeCon([]string{"Int", "Char", "Bool"}[m.IntN(3)])
}

// matched says what places are to be for a type to be another one.
func matched(t, want impl.Type, places map[int64]impl.Type) bool {
	if t.Kind == impl.TyGen {
		if other, known := places[t.Id]; known {
			return sameTypeSlowly(other, want)
		}
		places[t.Id] = want
		return true
	}
	if t.Name != want.Name || len(t.Args) != len(want.Args) {
		return false
	}
	for i := range t.Args {
		if !matched(t.Args[i], want.Args[i], places) {
			return false
		}
	}
	return true
}

// filledPlaces draws a type for each place that is not known.
func (m *progMaker) filledPlaces(t impl.Type, places map[int64]impl.Type, variables []string) impl.Type {
	for _, leaf := range leavesOf(t) {
		if _, known := places[leaf.Id]; !known && leaf.Kind == impl.TyGen {
			places[leaf.Id] = m.t(m.IntN(2), variables)
		}
	}
	return placed(t, impl.TyGen, places)
}

// A waysTo is a name that gives a type behind some arguments.
type waysTo struct {
	name   string
	places map[int64]impl.Type
	args   []impl.Type
}

func (m *progMaker) waysTo(want impl.Type) []waysTo {
	var found []waysTo
	for _, k := range m.known {
		t := k.t
		var args []impl.Type
		for {
			places := map[int64]impl.Type{}
			if matched(t, want, places) {
				found = append(found, waysTo{k.name, places, slices.Clone(args)})
			}
			if t.Name != "->" {
				break
			}
			args, t = append(args, t.Args[0]), t.Args[1]
		}
	}
	return found
}

// newName is at times one that is there already, so that it hides it.
func (m *progMaker) newName(letter string) string {
	if letter != "f" && m.names > 0 && m.IntN(6) == 0 {
		return letter + strconv.Itoa(max(1, m.names-m.IntN(8)))
	}
	m.names++
	return letter + strconv.Itoa(m.names)
}

// within draws with more names known.
func (m *progMaker) within(more []knownName, draw func() string) string {
	before := m.known
	m.known = append(slices.Clip(m.known), more...)
	text := draw()
	m.known = before
	return text
}

// e draws an expression of a type, in brackets.
func (m *progMaker) e(want impl.Type, levels int, variables []string) string {
	if ways := m.waysTo(want); len(ways) > 0 && m.IntN(5) > 0 {
		for range 4 {
			way := ways[m.IntN(len(ways))]
			if levels <= 0 && len(way.args) > 0 || m.IntN(8) > 0 && slices.Contains([]string{"zero", "P", "primSeq"}, way.name) {
				continue
			}
			parts := []string{way.name}
			for _, arg := range way.args {
				parts = append(parts, m.e(m.filledPlaces(arg, way.places, variables), levels-1, variables))
			}
			return "(" + strings.Join(parts, " ") + ")"
		}
	}
	if levels > 0 {
		if text := m.large(want, levels-1, variables); text != "" {
			return "(" + text + ")"
		}
	}
	return m.small(want, levels-1, variables)
}

// large draws an expression that may be of any type.
func (m *progMaker) large(want impl.Type, levels int, variables []string) string {
	switch m.IntN(7) {
	case 0:
		return glue("if", m.e(typeCon("Bool"), levels, variables), "then", m.e(want, levels, variables), "else", m.e(want, levels, variables))
	case 1:
		looked := m.t(2, variables)
		text := glue("case", m.e(looked, levels, variables), "of {")
		for range 1 + m.IntN(2) {
			pattern, bound := m.p(looked, 2)
			text = glue(text, m.within(bound, func() string { return glue(pattern, m.right(want, "->", levels, variables)) }), ";")
		}
		return text + "}"
	case 2, 3:
		block, bound := m.block(levels, variables)
		return glue("let {", block, "} in", m.within(bound, func() string { return m.e(want, levels, variables) }))
	case 4:
		from := m.t(1, variables)
		pattern, bound := m.p(from, 1)
		return glue("(\\", pattern, "->", m.within(bound, func() string { return m.e(want, levels, variables) }), ")", m.e(from, levels, variables))
	}
	return ""
}

// right draws a right side, at times with guards and a block.
func (m *progMaker) right(want impl.Type, mark string, levels int, variables []string) string {
	block, bound := "", []knownName(nil)
	if m.IntN(4) == 0 && levels > 0 {
		block, bound = m.block(levels, variables)
		block = "where {" + block + "}"
	}
	return m.within(bound, func() string {
		if m.IntN(4) > 0 {
			return glue(mark, m.e(want, levels, variables), block)
		}
		text := ""
		for range 1 + m.IntN(2) {
			text = glue(text, "|", m.e(typeCon("Bool"), levels-1, variables), mark, m.e(want, levels-1, variables))
		}
		return glue(text, block)
	})
}

// small draws an expression by what its type is.
func (m *progMaker) small(want impl.Type, levels int, variables []string) string {
	switch want.Name {
	case "Int":
		return strconv.Itoa(m.IntN(10))
	case "Char":
		return "'c'"
	case "Bool":
		return []string{"True", "False"}[m.IntN(2)]
	case "(,)":
		return "(" + m.e(want.Args[0], levels, variables) + "," + m.e(want.Args[1], levels, variables) + ")"
	case "->":
		pattern, bound := m.p(want.Args[0], 1)
		return "(\\ " + pattern + " -> " + m.within(bound, func() string { return m.e(want.Args[1], levels, variables) }) + ")"
	case "[]":
		return m.list(want.Args[0], levels, variables)
	case "T":
		return "P"
	}
	return "(primError \"\")"
}

func (m *progMaker) list(element impl.Type, levels int, variables []string) string {
	switch m.IntN(4) {
	case 0:
		if element.Name == "Int" {
			return glue("[", m.e(element, levels, variables), "..", m.e(element, levels, variables), "]")
		}
	case 1:
		from := m.t(1, variables)
		pattern, bound := m.p(from, 1)
		source := m.e(listOf(from), levels, variables)
		return m.within(bound, func() string {
			test := m.e(typeCon("Bool"), levels, variables)
			return glue("[", m.e(element, levels, variables), "|", pattern, "<-", source, ",", test, "]")
		})
	case 2:
		return glue("[", m.e(element, levels, variables), ",", m.e(element, levels, variables), "]")
	}
	return "[]"
}

// p draws a pattern of a type.
func (m *progMaker) p(t impl.Type, levels int) (string, []knownName) {
	name := m.newName("v")
	bound := []knownName{{name, t}}
	both := func(ahead string, a, b impl.Type, between, behind string) (string, []knownName) {
		left, more := m.p(a, levels-1)
		right, others := m.p(b, levels-1)
		return glue(ahead, left, between, right, behind), append(more, others...)
	}
	switch m.IntN(9) {
	case 0:
		return "_", nil
	case 1:
		inner, more := m.p(t, levels-1)
		return name + " @ " + inner, append(more, bound...)
	case 2:
		inner, more := m.p(t, levels-1)
		return []string{"~ ", "! "}[m.IntN(2)] + inner, more
	case 3, 4:
		if levels <= 0 {
			break
		}
		switch t.Name {
		case "(,)":
			return both("(", t.Args[0], t.Args[1], ",", ")")
		case "[]":
			if m.IntN(2) == 0 {
				return both("[", t.Args[0], t.Args[0], ",", "]")
			}
			return both("(", t.Args[0], t, ":", ")")
		case "T":
			return both("( Q", t.Args[0], typeCon("T", t.Args[1], t.Args[0]), "", ")")
		case "Int":
			return "3", nil
		case "Char":
			return "'d'", nil
		case "Bool":
			return "True", nil
		}
	}
	return name, bound
}

// A plan is what a thing is to be.
type plan struct {
	name      string
	args      []impl.Type
	result    impl.Type
	variables []string // its own
}

// plan draws what a thing is to be; the types that stand around may be in it.
func (m *progMaker) plan(letter string, around []string) plan {
	p := plan{name: m.newName(letter)}
	for i := range m.IntN(3) {
		p.variables = append(p.variables, "'"+p.name+string(rune('a'+i)))
	}
	all := append(slices.Clone(around), p.variables...)
	for range m.IntN(3) {
		p.args = append(p.args, m.t(2, all))
	}
	p.result = m.t(2, all)
	return p
}

// as has a thing as others know it: its own variables may be anything.
func (p plan) as() knownName {
	return knownName{p.name, p.turned(arrowsTo(p.args, p.result), func(i int) impl.Type { return typePlace(int64(i)) })}
}

func (p plan) turned(t impl.Type, turn func(int) impl.Type) impl.Type {
	if i := slices.Index(p.variables, t.Name); i >= 0 {
		return turn(i)
	}
	own := typeCon(t.Name)
	for _, arg := range t.Args {
		own.Args = append(own.Args, p.turned(arg, turn))
	}
	return own
}

// signature draws a context too.
func (m *progMaker) signature(p plan) string {
	t := p.turned(arrowsTo(p.args, p.result), func(i int) impl.Type { return typeVar(int64(i)) })
	if slices.ContainsFunc(conNames(t), func(name string) bool { return strings.HasPrefix(name, "'") }) {
		return ""
	}
	var context []string
	for i := range freeIdsSlowly(t) {
		for range m.IntN(3) {
			context = append(context, []string{"Eq", "Ord", "Show", "Num"}[m.IntN(4)]+" "+letterAt(i))
		}
	}
	text := impl.FormatType(t) + " ; "
	if len(context) > 0 {
		text = "(" + strings.Join(context, ",") + ") => " + text
	}
	return p.name + " :: " + text
}

func letterAt(i int) string { return string(rune('a' + i)) }

// clauses draws the clauses of a thing.
func (m *progMaker) clauses(p plan, levels int, around []string) string {
	all := append(slices.Clone(around), p.variables...)
	var clauses []string
	for range 1 + m.IntN(2) {
		head, bound := p.name, []knownName(nil)
		for _, arg := range p.args {
			pattern, more := m.p(arg, 2)
			head, bound = glue(head, pattern), append(bound, more...)
		}
		clauses = append(clauses, m.within(bound, func() string { return glue(head, m.right(p.result, "=", levels, all)) }))
	}
	return strings.Join(clauses, " ; ")
}

// block draws things that know one another.
func (m *progMaker) block(levels int, around []string) (string, []knownName) {
	var plans []plan
	var bound []knownName
	for range 1 + m.IntN(2) {
		p := m.plan("g", around)
		plans, bound = append(plans, p), append(bound, p.as())
	}
	return m.within(bound, func() string { return m.defined(plans, levels-1, around) }), bound
}

func (m *progMaker) defined(plans []plan, levels int, around []string) string {
	var texts []string
	for _, p := range plans {
		text := ""
		if m.IntN(4) == 0 {
			text = m.signature(p)
		}
		texts = append(texts, text+m.clauses(p, levels, around))
	}
	return strings.Join(texts, " ; ")
}

// instances draws instances of all classes for some types, which have one context for all classes.
func (m *progMaker) instances() string {
	text := ""
	for _, data := range []string{"Int", "Bool", "Char", "[a]", "(a,b)", "(T a b)", "(a -> b)"} {
		if data == "(a -> b)" && m.IntN(2) == 0 {
			continue
		}
		var context []string
		for _, letter := range []string{"a", "b"} {
			if strings.Contains(data, letter+" ") || strings.ContainsAny(data, "[(") && strings.Contains(data, letter) {
				for range m.IntN(3) {
					context = append(context, []string{"Eq", "Ord", "Show", "Num"}[m.IntN(4)]+" "+letter)
				}
			}
		}
		for _, class := range []string{"Eq", "Ord", "Show", "Num"} {
			text = glue(text, "instance (", strings.Join(context, ","), ") =>", class, data, "where {", m.methods(class, data), "} ;")
		}
	}
	return text
}

// methods draws the clauses of an instance.
func (m *progMaker) methods(class, data string) string {
	a, b := typeCon("'a"), typeCon("'b")
	t := map[string]impl.Type{"Int": typeCon("Int"), "Bool": typeCon("Bool"), "Char": typeCon("Char"), "[a]": listOf(a), "(a,b)": pairOf(a, b), "(T a b)": typeCon("T", a, b), "(a -> b)": typeCon("->", a, b)}[data]
	own := map[string][]plan{
		"Eq":   {{name: "eq", args: []impl.Type{t, t}, result: typeCon("Bool")}},
		"Ord":  {{name: "le", args: []impl.Type{t, t}, result: typeCon("Bool")}, {name: "pick", args: []impl.Type{typeCon("'c"), t}, result: t, variables: []string{"'c"}}},
		"Show": {{name: "show", args: []impl.Type{t}, result: listOf(typeCon("Char"))}},
		"Num":  {{name: "add", args: []impl.Type{t, t}, result: t}, {name: "zero", result: t}},
	}[class]
	m.Shuffle(len(own), func(i, j int) { own[i], own[j] = own[j], own[i] })
	var texts []string
	for _, p := range own {
		if m.IntN(6) > 0 {
			p.args = p.args[:m.IntN(len(p.args)+1)]
			texts = append(texts, glue(p.name, strings.Repeat("_ ", len(p.args)), "= primError \"\""))
			continue
		}
		var around []string
		for _, letter := range []string{"'a", "'b"} {
			if slices.Contains(conNames(t), letter) {
				around = append(around, letter)
			}
		}
		texts = append(texts, m.clauses(p, 1, around))
	}
	return strings.Join(texts, " ; ")
}

// module draws a module as a text; most of what does not type is drawn again.
func (m *progMaker) module() string {
	m.names, m.known = 0, slices.Concat(methodTypes(), otherTypes())
	parts := []string{"module M where {" + preludes()[m.IntN(len(preludes()))] + "data T a b = P | Q a (T b a) | R [b] ;"}
	add := func(draw func() string) {
		for range 12 {
			text := draw()
			all := strings.Join(append(slices.Clone(parts), text, "}"), " ")
			if r := impl.ParseText(all); m.IntN(300) == 0 || impl.InferProgram([]impl.Node{r.Tree}).Code == 0 {
				parts = append(parts, text)
				return
			}
		}
	}
	if m.IntN(4) > 0 {
		add(m.instances)
	}
	for range 1 + m.IntN(6) {
		before := slices.Clone(m.known)
		add(func() string {
			m.known = slices.Clone(before)
			var plans []plan
			for range 1 + m.IntN(2) {
				p := m.plan("f", nil)
				plans, m.known = append(plans, p), append(m.known, p.as())
			}
			return m.defined(plans, 3, nil) + ";"
		})
	}
	return strings.Join(append(parts, "}"), " ")
}

// spoiled has an expression of a tree as another one.
func (m *progMaker) spoiled(n impl.Node) impl.Node {
	var expressions []impl.Node
	eachNode(n, func(kid impl.Node) {
		if kid.Kind <= impl.NComp && kid.Kind >= impl.NVar {
			expressions = append(expressions, kid)
		}
	})
	if len(expressions) == 0 {
		return n
	}
	left := m.IntN(len(expressions))
	other := expressions[m.IntN(len(expressions))]
	return mapTree(n, func(kid impl.Node) impl.Node {
		if kid.Kind <= impl.NComp && kid.Kind >= impl.NVar {
			if left--; left == -1 {
				return other
			}
		}
		return kid
	})
}

func TestDrawnProgramsAreTypedAsTheSecondReadingHasIt(t *testing.T) {
	m := &progMaker{Rand: rand.New(rand.NewPCG(11, 1))}
	codes, preds := map[string]int{}, 0
	for range 120 {
		n := parsed(t, m.module())
		for range m.IntN(3) {
			if own := m.spoiled(n); impl.NodeFault(own) == 0 {
				n = own
			}
		}
		r := checkInferred(t, []impl.Node{n})
		what := strconv.FormatInt(r.Code, 10)
		if r.Code == 2 {
			what += r.Name[:3]
		}
		codes[what]++
		for _, x := range r.Types {
			preds += len(x.Scheme.Preds)
		}
	}
	if codes["0"] < 30 || codes["2M.f"] < 10 || preds < 20 {
		t.Errorf("codes %v, %d preds", codes, preds)
	}
}
