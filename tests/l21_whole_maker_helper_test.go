package tests

import (
	"math/rand/v2"
	"slices"
	"strconv"
	"strings"
	"testing"

	"loop.example/g00017/impl"
)

// What drawn programs stand on: classes, operators with fixities, lists.
const wholeBase = `module Base where
infixr 9 .
infixl 7 *, /, %
infixl 6 +, -
infixr 5 ++
infix 4 ==, <=, <
infixr 3 &&
infixr 2 ||
infixr 0 $
class Eq a where
  (==) :: a -> a -> Bool
class Eq a => Ord a where
  (<=) :: a -> a -> Bool
class Show a where
  show :: a -> [Char]
instance Eq Int where (==) = primEq
instance Ord Int where x <= y = not (primLess y x)
instance Show Int where show = primShow
instance Eq Char where x == y = primEq (primOrd x) (primOrd y)
instance Ord Char where x <= y = primOrd x <= primOrd y
instance Show Char where
  show '\'' = "'\\''"
  show c = ['\'', c, '\'']
instance Eq Bool where
  True == x = x
  False == x = not x
instance Ord Bool where
  False <= _ = True
  True <= x = x
instance Show Bool where
  show True = "True"
  show False = "False"
instance Eq a => Eq [a] where
  [] == [] = True
  (x : xs) == (y : ys) = x == y && xs == ys
  _ == _ = False
instance Ord a => Ord [a] where
  [] <= _ = True
  _ <= [] = False
  (x : xs) <= (y : ys) = x < y || x == y && xs <= ys
instance Show a => Show [a] where
  show [] = "[]"
  show (x : xs) = '[' : show x ++ go xs where
    go [] = "]"
    go (y : ys) = ',' : show y ++ go ys
instance (Eq a, Eq b) => Eq (a, b) where
  (a, b) == (c, d) = a == c && b == d
instance (Ord a, Ord b) => Ord (a, b) where
  (a, b) <= (c, d) = a < c || a == c && b <= d
instance (Show a, Show b) => Show (a, b) where
  show (a, b) = '(' : show a ++ "," ++ show b ++ ")"
x < y = x <= y && not (y <= x)
x + y = primAdd x y
x - y = primSub x y
x * y = primMul x y
x / y = primDiv x y
x % y = primMod x y
xs ++ ys = primAppend xs ys
True && x = x
False && _ = False
True || _ = True
False || x = x
f $ x = f x
f . g = \x -> f (g x)
not True = False
not False = True
id x = x
const x _ = x
fst (x, _) = x
snd (_, y) = y
map f xs = [f x | x <- xs]
filter p xs = [x | x <- xs, p x]
foldr f z [] = z
foldr f z (x : xs) = f x (foldr f z xs)
take n [] = []
take n (x : xs)
  | n <= 0 = []
  | True = x : take (n - 1) xs
length xs = foldr (\_ n -> n + 1) 0 xs
sum = foldr (+) 0
reverse = go [] where
  go a [] = a
  go a (x : xs) = go (x : a) xs
elem x = foldr ((||) . (==) x) False
zip (x : xs) (y : ys) = (x, y) : zip xs ys
zip _ _ = []
lines s = case break s of
    ([], []) -> []
    (l, r) -> l : lines r
  where break [] = ([], [])
        break ('\n' : r) = ([], r)
        break (c : r) = let (p, q) ~> k = k p q in break r ~> \s -> \t -> (c : s, t)
unlines ls = foldr (\l r -> l ++ '\n' : r) [] ls
`

// A wholeMaker draws programs of several modules whose expressions are made for the types that are asked of them. A variable that stands for any type is a constructor with ' ahead; numbers by which calls come to an end are of the type Fuel.
type wholeMaker struct {
	progMaker
	isSure bool // nothing is left out of clauses and alternatives
	datas  []wholeData
	things []wholeThing
}

// A wholeData has the types of its constructors, by places.
type wholeData struct {
	name string
	vars int
	cons []knownName
}

// A wholeThing is drawn again if it does not type.
type wholeThing struct {
	module, name string
	draw         func() string
	text         string
}

func newWholeMaker(seed uint64) *wholeMaker {
	return &wholeMaker{progMaker: progMaker{Rand: rand.New(rand.NewPCG(21, seed))}}
}

func (m *wholeMaker) one(list ...string) string { return list[m.IntN(len(list))] }

// newName comes back to names that are bound further out, but to none of the same patterns.
func (m *wholeMaker) newName(letter string) string {
	m.names++
	if letter == "v" || letter == "g" {
		return letter + strconv.Itoa(m.names%60)
	}
	return letter + strconv.Itoa(m.names)
}

// within draws with more names known, and without those that they hide.
func (m *wholeMaker) within(more []knownName, draw func() string) string {
	before := m.known
	isHidden := func(k knownName) bool {
		return slices.ContainsFunc(more, func(o knownName) bool { return o.name == k.name })
	}
	m.known = append(slices.DeleteFunc(slices.Clone(before), isHidden), more...)
	text := draw()
	m.known = before
	return text
}

// wholeKnown has what the base has, with the types of arguments and of what comes out.
func wholeKnown() []knownName {
	var list []knownName
	for _, row := range strings.Split("show:@0:text|(==):@0:@0:Bool|(<=):@0:@0:Bool|(<):@0:@0:Bool|(&&):Bool:Bool:Bool|not:Bool:Bool|id:@0:@0|const:@0:@1:@0|fst:(,){@0 @1}:@0|snd:(,){@0 @1}:@1|map:->{@0 @1}:[]{@0}:[]{@1}|filter:->{@0 Bool}:[]{@0}:[]{@0}|foldr:->{@0 ->{@1 @1}}:@1:[]{@0}:@1|take:Int:[]{@0}:[]{@0}|length:[]{@0}:Int|sum:[]{Int}:Int|reverse:[]{@0}:[]{@0}|elem:@0:[]{@0}:Bool|zip:[]{@0}:[]{@1}:[]{(,){@0 @1}}|(++):[]{@0}:[]{@0}:[]{@0}|(.):->{@1 @2}:->{@0 @1}:@0:@2|($):->{@0 @1}:@0:@1|primSeq:@0:@1:@1|primShow:Int:text|primOrd:Char:Int|(+):Int:Int:Int|negate:Int:Int|(:):@0:[]{@0}:[]{@0}", "|") {
		parts := strings.Split(strings.ReplaceAll(row, "(:)", "CONS"), ":")
		var types []impl.Type
		for _, part := range parts[1:] {
			types = append(types, ty(strings.ReplaceAll(part, "text", "[]{Char}")))
		}
		last := len(types) - 1
		list = append(list, knownName{strings.ReplaceAll(parts[0], "CONS", "(:)"), arrowsTo(types[:last], types[last])})
	}
	return list
}

// t draws a type of values that have all classes.
func (m *wholeMaker) t(levels int, variables []string) impl.Type {
	if levels > 0 {
		switch m.IntN(7) {
		case 0, 1:
			return listOf(m.t(levels-1, variables))
		case 2:
			return pairOf(m.t(levels-1, variables), m.t(levels-1, variables))
		case 3, 4:
			if len(m.datas) > 0 {
				return m.dataType(m.datas[m.IntN(len(m.datas))], levels-1, variables)
			}
		}
	}
	if len(variables) > 0 && m.IntN(2) == 0 {
		return typeCon(m.one(variables...))
	}
	return typeCon(m.one("Int", "Int", "Char", "Bool"))
}

func (m *wholeMaker) dataType(d wholeData, levels int, variables []string) impl.Type {
	t := typeCon(d.name)
	for range d.vars {
		t.Args = append(t.Args, m.t(levels, variables))
	}
	return t
}

// argument draws a type of an argument, at times a function.
func (m *wholeMaker) argument(variables []string) impl.Type {
	if m.IntN(5) == 0 {
		return typeCon("->", m.t(1, variables), m.t(1, variables))
	}
	return m.t(2, variables)
}

// e draws an expression of a type, which needs no brackets.
func (m *wholeMaker) e(want impl.Type, levels int, variables []string) string {
	if levels > 0 && m.IntN(4) == 0 {
		return "(" + m.form(want, levels-1, variables) + ")"
	}
	if m.IntN(4) > 0 {
		if text := m.call(want, levels-1, variables); text != "" {
			return text
		}
	}
	return m.plain(want, levels-1, variables)
}

// call draws the use of a name, those of patterns and blocks ahead of others.
func (m *wholeMaker) call(want impl.Type, levels int, variables []string) string {
	ways := m.waysTo(want)
	slices.Reverse(ways)
	for range 4 {
		if len(ways) == 0 {
			break
		}
		way := ways[min(m.IntN(len(ways)), m.IntN(len(ways)))]
		if levels <= 0 && len(way.args) > 0 || way.name == "some" && m.IntN(40) > 0 {
			continue
		}
		parts := []string{way.name}
		for _, arg := range way.args {
			for _, leaf := range leavesOf(arg) {
				if _, known := way.places[leaf.Id]; leaf.Kind == impl.TyGen && !known {
					way.places[leaf.Id] = m.t(m.IntN(2), variables)
				}
			}
			parts = append(parts, m.e(placed(arg, impl.TyGen, way.places), levels, variables))
		}
		if len(parts) == 1 && !strings.Contains(way.name, " ") {
			return way.name
		}
		return "(" + strings.Join(parts, " ") + ")"
	}
	return ""
}

// form draws an expression that may be of any type.
func (m *wholeMaker) form(want impl.Type, levels int, variables []string) string {
	e := func(t impl.Type) string { return m.e(t, levels, variables) }
	truth := typeCon("Bool")
	switch m.IntN(6) {
	case 0:
		return glue("if", e(truth), "then", e(want), "else", e(want))
	case 1:
		looked := m.t(2, variables)
		text := glue("case", e(looked), "of {")
		for range 1 + m.IntN(2) {
			text = glue(text, m.matched(looked, want, levels, variables), ";")
		}
		if m.isSure || m.IntN(8) > 0 {
			text = glue(text, "_ ->", e(want))
		}
		return text + "}"
	case 2, 3:
		block, bound := m.block(levels, variables)
		return glue("let {", block, "} in", m.within(bound, func() string { return m.e(want, levels, variables) }))
	case 4:
		from := m.t(1, variables)
		pattern, bound := m.p(from, max(-1, m.IntN(16)-14))
		return glue("(\\", pattern, "->", m.within(bound, func() string { return e(want) }), ")", e(from))
	}
	return glue("primSeq", e(m.t(1, variables)), e(want))
}

// matched draws an alternative.
func (m *wholeMaker) matched(looked, want impl.Type, levels int, variables []string) string {
	pattern, bound := m.p(looked, 2)
	return m.within(bound, func() string { return glue(pattern, m.right(want, "->", levels, variables)) })
}

// right draws a right side, at times with guards and a block.
func (m *wholeMaker) right(want impl.Type, mark string, levels int, variables []string) string {
	block, bound := "", []knownName(nil)
	if m.IntN(5) == 0 && levels > 0 {
		block, bound = m.block(levels, variables)
		block = "where {" + block + "}"
	}
	return m.within(bound, func() string {
		if m.IntN(3) > 0 {
			return glue(mark, m.e(want, levels, variables), block)
		}
		text := glue("|", m.e(typeCon("Bool"), levels-1, variables), mark, m.e(want, levels-1, variables))
		if m.isSure || m.IntN(4) > 0 {
			text = glue(text, "| True", mark, m.e(want, levels-1, variables))
		}
		return glue(text, block)
	})
}

// block draws things of which each knows those ahead of it.
func (m *wholeMaker) block(levels int, variables []string) (string, []knownName) {
	var texts []string
	var bound []knownName
	names := []string{m.newName("g"), m.newName("g")}
	for _, name := range names[:1+m.IntN(2)] {
		p := plan{name: name, result: m.t(1, variables)}
		for range m.IntN(3) {
			p.args = append(p.args, m.t(1, variables))
		}
		text := m.within(bound, func() string { return m.clauses(p, levels-1, variables) })
		texts, bound = append(texts, text), append(bound, p.as())
	}
	return strings.Join(texts, " ; "), bound
}

// clauses draws clauses of which the last one most often matches all.
func (m *wholeMaker) clauses(p plan, levels int, variables []string) string {
	all := slices.Concat(variables, p.variables)
	var clauses []string
	for left := m.IntN(3) * min(1, len(p.args)); left >= 0; left-- {
		head, bound := p.name, []knownName(nil)
		for _, arg := range p.args {
			deep := 2
			if left == 0 && (m.isSure || m.IntN(6) > 0) {
				deep = -1
			}
			pattern, more := m.p(arg, deep)
			head, bound = glue(head, pattern), append(bound, more...)
		}
		clauses = append(clauses, m.within(bound, func() string { return glue(head, m.right(p.result, "=", levels, all)) }))
	}
	return strings.Join(clauses, " ; ")
}

// p draws a pattern of a type; with less than no levels one that matches all.
func (m *wholeMaker) p(t impl.Type, levels int) (string, []knownName) {
	name := m.newName("v")
	own := []knownName{{name, t}}
	kind := m.IntN(10)
	switch {
	case kind < 3 || levels < 0:
		return name, own
	case kind == 3:
		return "_", nil
	case kind == 4:
		inner, more := m.p(t, levels-1)
		return name + "@ " + inner, append(more, own...)
	case kind == 5:
		inner, more := m.p(t, levels-1)
		return m.one("! ", "~ ") + inner, more
	}
	return m.opened(t, levels)
}

// opened draws a pattern by what a type has.
func (m *wholeMaker) opened(t impl.Type, levels int) (string, []knownName) {
	switch t.Name {
	case "Int":
		return m.one("0", "1", "2", "(- 1)"), nil
	case "Char":
		return m.one("'a'", "'b'", "'\\n'"), nil
	case "Bool":
		return m.one("True", "False"), nil
	case "(,)":
		return m.several("(", ",", ")", levels, t.Args...)
	case "[]":
		switch m.IntN(4) {
		case 0:
			return "[]", nil
		case 1:
			return m.several("[", ",", "]", levels, slices.Repeat(t.Args, 1+m.IntN(2))...)
		}
		return m.several("(", ":", ")", levels, t.Args[0], t)
	}
	for _, d := range m.datas {
		if d.name == t.Name {
			con := d.cons[m.IntN(len(d.cons))]
			places := map[int64]impl.Type{}
			for i, arg := range t.Args {
				places[int64(i)] = arg
			}
			var fields []impl.Type
			for at := con.t; at.Name == "->"; at = at.Args[1] {
				fields = append(fields, placed(at.Args[0], impl.TyGen, places))
			}
			return m.several("("+con.name, "", ")", levels, fields...)
		}
	}
	return "_", nil
}

func (m *wholeMaker) several(ahead, between, behind string, levels int, types ...impl.Type) (string, []knownName) {
	var parts []string
	var bound []knownName
	for _, t := range types {
		part, more := m.p(t, levels-1)
		parts, bound = append(parts, part), append(bound, more...)
	}
	return glue(ahead, strings.Join(parts, " "+between+" "), behind), bound
}

// plain draws an expression by what its type is.
func (m *wholeMaker) plain(want impl.Type, levels int, variables []string) string {
	e := func(t impl.Type) string { return m.e(t, levels, variables) }
	isLow := levels <= 0
	switch want.Name {
	case "Fuel":
		return strconv.Itoa(m.IntN(4))
	case "Int":
		if isLow {
			return m.one("0", "1", "2", "3", "(- 1)", "(-7)", "12345678901234567890")
		}
		return "(" + e(want) + m.one(" + ", " - ", " * ", " / ", " % ") + e(want) + m.one("", "", m.one(" + ", " - ", " * ")+e(want)) + ")"
	case "Char":
		return m.one("'a'", "'b'", "'\\n'", "'\"'", "'\\''", "'z'")
	case "Bool":
		if isLow {
			return m.one("True", "False")
		}
		t := m.t(1, variables)
		return "(" + e(t) + m.one(" == ", " <= ", " < ") + e(t) + m.one("", m.one(" && ", " || ")+e(want)) + ")"
	case "(,)":
		return glue("(", e(want.Args[0]), ",", e(want.Args[1]), ")")
	case "[]":
		return m.list(want, levels, variables)
	case "->":
		return m.function(want, levels, variables)
	}
	return m.built(want, levels, variables)
}

func (m *wholeMaker) list(want impl.Type, levels int, variables []string) string {
	element := want.Args[0]
	e := func(t impl.Type) string { return m.e(t, levels, variables) }
	switch kind := m.IntN(7); {
	case element.Name == "Char" && kind < 3:
		return m.one(`""`, `"a"`, `"bab\n"`, `"\"\\'"`)
	case levels <= 0 && kind < 6:
		return "[" + e(element) + "]"
	case levels <= 0:
		return "[]"
	case element.Name == "Int" && kind == 1:
		return glue("[", e(element), "..", e(element), "]")
	case kind == 2:
		from := m.t(1, variables)
		pattern, bound := m.p(from, 1)
		source := e(listOf(from))
		return m.within(bound, func() string {
			return glue("[", e(element), "|", pattern, "<-", source, m.one("", ","+e(typeCon("Bool"))), "]")
		})
	case kind == 3:
		return glue("[", e(element), m.one("", ","+e(element)), "]")
	case kind == 4:
		return glue("(", e(element), ":", e(want), "++", e(want), ")")
	}
	return glue("(", e(element), ":", e(want), ")")
}

// function draws a lambda, or a section.
func (m *wholeMaker) function(want impl.Type, levels int, variables []string) string {
	from, to := want.Args[0], want.Args[1]
	if from.Name == "Int" && to.Name == "Int" && m.IntN(2) == 0 {
		one, op := m.e(from, levels, variables), m.one("+", "*", "`primSub`")
		return m.one(glue("(", op, one, ")"), glue("(", one, op, ")"))
	}
	pattern, bound := m.p(from, max(-1, m.IntN(16)-14))
	return glue("(\\", pattern, "->", m.within(bound, func() string { return m.e(to, levels, variables) }), ")")
}

// built draws a constructor with fields, or what stands for a variable.
func (m *wholeMaker) built(want impl.Type, levels int, variables []string) string {
	for _, d := range m.datas {
		if d.name != want.Name {
			continue
		}
		places := map[int64]impl.Type{}
		for i, arg := range want.Args {
			places[int64(i)] = arg
		}
		con := d.cons[0] // which does not lead back to the data
		if levels > 0 {
			con = d.cons[m.IntN(len(d.cons))]
		}
		text := con.name
		for at := con.t; at.Name == "->"; at = at.Args[1] {
			text = glue(text, m.e(placed(at.Args[0], impl.TyGen, places), levels, variables))
		}
		return "(" + text + ")"
	}
	if slices.ContainsFunc(m.known, func(k knownName) bool { return k.name == "some" }) {
		return "some"
	}
	return `(primError "nothing is of the type")`
}

// data draws a declaration with all instances.
func (m *wholeMaker) data() string {
	d := wholeData{name: "D" + strconv.Itoa(len(m.datas)), vars: m.IntN(3)}
	own := typeCon(d.name)
	var letters, variables []string
	for i := range d.vars {
		letters, variables = append(letters, letterAt(i)), append(variables, "'"+letterAt(i))
		own.Args = append(own.Args, typePlace(int64(i)))
	}
	var texts []string
	for i := range 1 + m.IntN(4) {
		name, fields := d.name+string(rune('A'+i)), []impl.Type(nil)
		text := name
		if i == 0 {
			fields = slices.Clone(own.Args) // so that each variable is of some field
		}
		for range m.IntN(4) {
			field := plan{variables: variables}.turned(m.t(2, variables), func(i int) impl.Type { return typePlace(int64(i)) })
			if i > 0 && m.IntN(4) == 0 {
				field = own
			}
			fields = append(fields, field)
		}
		for _, field := range fields {
			text = glue(text, "("+impl.FormatType(placed(field, impl.TyGen, map[int64]impl.Type{0: typeCon("a"), 1: typeCon("b")}))+")")
		}
		d.cons = append(d.cons, knownName{name, arrowsTo(fields, own)})
		texts = append(texts, text)
	}
	m.datas = append(m.datas, d)
	for _, con := range d.cons {
		m.known = append(m.known, con)
	}
	return glue("data", d.name, strings.Join(letters, " "), "=", strings.Join(texts, " | "), "deriving (Eq, Ord, Show)")
}

// wholeClass has a superclass, and a method with needs of its own.
const wholeClass = "class (Show a, Ord a) => Kind a where { kind :: a -> Int ; like :: Kind b => b -> a -> [(a, b)] ; some :: a }"

// instance draws one of Kind for a type.
func (m *wholeMaker) instance(t impl.Type, variables []string) string {
	var context []string
	for _, v := range variables {
		context = append(context, "Kind "+v[1:])
	}
	written := strings.ReplaceAll(impl.FormatType(t), "'", "")
	if len(variables) > 0 && t.Name != "[]" && t.Name != "(,)" {
		written = "(" + written + ")"
	}
	b := typeCon("'z")
	methods := []plan{
		{name: "kind", args: []impl.Type{t}, result: typeCon("Int")},
		{name: "like", args: []impl.Type{b, t}, result: listOf(pairOf(t, b)), variables: []string{"'z"}},
		{name: "some", result: t},
	}
	m.Shuffle(len(methods), func(i, j int) { methods[i], methods[j] = methods[j], methods[i] })
	var texts []string
	for _, p := range methods {
		texts = append(texts, m.clauses(p, 1, variables))
	}
	return glue("instance (", strings.Join(context, ","), ") => Kind", written, "where {", strings.Join(texts, ";"), "}")
}

// add has a thing that is drawn as often as it does not type.
func (m *wholeMaker) add(module, name string, draw func() string) {
	known := slices.Clone(m.known)
	again := func() string {
		now := m.known
		m.known = known
		text := draw()
		m.known = now
		return text
	}
	m.things = append(m.things, wholeThing{module, name, again, again()})
}

// addFunction draws a function; with fuel it may call itself.
func (m *wholeMaker) addFunction(module string) {
	p := plan{name: m.newName("f")}
	for i := range m.IntN(2) * m.IntN(3) {
		p.variables = append(p.variables, "'"+letterAt(i))
		p.args = append(p.args, typeCon(p.variables[i]))
	}
	for range 1 + m.IntN(2) {
		p.args = append(p.args, m.argument(p.variables))
	}
	p.result = m.t(2, p.variables)
	if m.IntN(3) > 0 {
		m.add(module, module+"."+p.name, func() string { return m.signed(p) + m.clauses(p, 3, nil) })
		m.known = append(m.known, p.as())
		return
	}
	fueled := plan{name: p.name, args: append([]impl.Type{typeCon("Fuel")}, p.args...), result: p.result, variables: p.variables}
	m.add(module, module+"."+p.name, func() string { return m.counting(p) })
	m.known = append(m.known, fueled.as())
}

// counting draws clauses by a number that becomes less from call to call.
func (m *wholeMaker) counting(p plan) string {
	base, again, bound := p.name+" 0", p.name+" n", []knownName(nil)
	for range p.args {
		base += " _"
	}
	for _, arg := range p.args {
		pattern, more := m.p(arg, -1)
		again, bound = glue(again, pattern), append(bound, more...)
	}
	first := glue(base, "=", m.e(p.result, 2, p.variables), ";")
	bound = append(bound, knownName{"n", typeCon("Int")}, knownName{p.name + " (n - 1)", arrowsTo(p.args, p.result)})
	return first + m.within(bound, func() string { return glue(again, m.right(p.result, "=", 3, p.variables)) })
}

// signed draws a signature at times, where none of its variables has needs.
func (m *wholeMaker) signed(p plan) string {
	if len(p.variables) > 0 || m.IntN(2) == 0 {
		return ""
	}
	return p.name + " :: " + impl.FormatType(arrowsTo(p.args, p.result)) + " ; "
}

// program draws the texts of modules, the last one Main; what does not type is drawn anew.
func (m *wholeMaker) program(t *testing.T) []string {
	t.Helper()
	m.names, m.known, m.datas, m.things = 0, wholeKnown(), nil, nil
	for range 1 + m.IntN(3) {
		text := m.data()
		m.add("Data", "", func() string { return text })
	}
	m.add("Kind", "", func() string { return wholeClass })
	for _, module := range []string{"Data", "Kind", "Main"} {
		if module == "Kind" {
			m.addInstances()
		}
		for range 1 + m.IntN(3) {
			m.addFunction(module)
		}
	}
	told := m.addTold()
	for range 400 {
		texts := m.texts(told)
		r := impl.Check(texts)
		switch r.Stage {
		case 0:
			return texts
		case 5: // it is too large
			return m.program(t)
		}
		if r.Stage != 3 || r.Code != 2 {
			t.Fatalf("%s\nhas the stage %d, code %d %s %s", strings.Join(texts, "\n"), r.Stage, r.Code, r.Module, r.Name)
		}
		for i, one := range m.things {
			if one.name == r.Name && (one.name != "Kind.Kind" || m.isWrong(i, told)) {
				m.things[i].text = one.draw()
			}
		}
	}
	t.Fatalf("%s\ndoes not type: %s", strings.Join(m.texts(told), "\n"), impl.Check(m.texts(told)).Name)
	return nil
}

// isWrong says whether an instance does not type beside others without anything in them.
func (m *wholeMaker) isWrong(at int, told string) bool {
	before := m.things
	defer func() { m.things = before }()
	m.things = slices.Clone(before)
	for i, one := range m.things {
		if head, _, _ := strings.Cut(one.text, "{"); one.name == "Kind.Kind" && i != at {
			m.things[i].text = head + `{ kind _ = 0 ; like _ _ = [] ; some = primError "" }`
		}
	}
	return impl.Check(m.texts(told)).Name == "Kind.Kind"
}

func (m *wholeMaker) addInstances() {
	a, b := typeCon("'a"), typeCon("'b")
	types := []impl.Type{typeCon("Int"), typeCon("Char"), typeCon("Bool"), listOf(a), pairOf(a, b)}
	for _, d := range m.datas {
		types = append(types, typeCon(d.name, []impl.Type{a, b}[:d.vars]...))
	}
	m.known = append(m.known, knownName{"kind", ty("->{@0 Int}")}, knownName{"like", ty("->{@0 ->{@1 []{(,){@1 @0}}}}")}, knownName{"some", ty("@0")})
	for _, t := range types {
		var variables []string
		for _, arg := range t.Args {
			variables = append(variables, arg.Name)
		}
		m.add("Kind", "Kind.Kind", func() string { return m.instance(t, variables) })
	}
}

// addTold draws main, and what it tells.
func (m *wholeMaker) addTold() string {
	var names []string
	for range 3 + m.IntN(3) {
		name, t := m.newName("m"), m.t(2, nil)
		m.add("Main", "Main."+name, func() string {
			return glue(name, "= show it where { it ::", impl.FormatType(t), "; it =", m.e(t, 4, nil), "}")
		})
		names = append(names, name)
	}
	list := "[" + strings.Join(names, ",") + "]"
	if m.IntN(3) > 0 {
		return "main = unlines " + list
	}
	p := plan{name: m.newName("r"), args: []impl.Type{listOf(typeCon("Char"))}, result: listOf(listOf(typeCon("Char")))}
	m.add("Main", "Main."+p.name, func() string { return m.clauses(p, 4, nil) })
	return glue("main :: [Char] -> [Char] ; main input = unlines (", p.name, "input ++", list, ")")
}

// texts has the modules as they are by now.
func (m *wholeMaker) texts(told string) []string {
	parts := map[string][]string{"Data": {"import Base"}, "Kind": {"import Base", "import Data"}, "Main": {"import Kind", "import Data", "import Base"}}
	for _, one := range m.things {
		parts[one.module] = append(parts[one.module], one.text)
	}
	parts["Main"] = append(parts["Main"], told)
	texts := []string{wholeBase}
	for _, module := range []string{"Data", "Kind", "Main"} {
		texts = append(texts, "module "+module+" where {"+strings.Join(parts[module], " ; ")+"}\n")
	}
	return texts
}
