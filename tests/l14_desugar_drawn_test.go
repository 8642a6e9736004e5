package tests

import (
	"math/rand/v2"
	"slices"
	"strconv"
	"strings"
	"testing"

	"loop.example/g00017/impl"
)

// Programs with classes, dictionaries and instances, with each thing as main that the second reading has.
func TestDrawnProgramsDesugarAsTheSecondReadingHasIt(t *testing.T) {
	t.Parallel()
	m := &progMaker{Rand: rand.New(rand.NewPCG(14, 3))}
	terms := 0
	for range 30 {
		list := []impl.Node{parsed(t, m.module())}
		for i, d := range impl.InferProgram(list).Binds {
			if i%9 == 0 && !isZeroCore(checkSugar(t, list, d.Name)) {
				terms++
			}
		}
		checkSugar(t, []impl.Node{m.spoiled(list[0])}, "M.f1")
	}
	if terms < 60 {
		t.Errorf("there are but %d", terms)
	}
}

// A runMaker draws modules of which each thing has a type without variables: I a number, B a truth value, L a list of numbers, P a pair of I and B, D a data.
type runMaker struct {
	*rand.Rand
	names     int
	functions []knownFunction
}

// A knownFunction takes and gives types by their letters.
type knownFunction struct {
	name, takes, gives string
}

// A boundName has a type by its letter.
type boundName struct{ name, letter string }

const runLetters = "IBLPD"

func (m *runMaker) one(list ...string) string { return list[m.IntN(len(list))] }

func (m *runMaker) letter() string { return string(runLetters[m.IntN(len(runLetters))]) }

func (m *runMaker) newName() string {
	m.names++
	return "x" + strconv.Itoa(m.names)
}

// p draws a pattern of a type.
func (m *runMaker) p(letter string, levels int) (string, []boundName) {
	name := m.newName()
	own := []boundName{{name, letter}}
	kinds := m.IntN(9)
	if levels <= 0 {
		kinds = m.IntN(3)
	}
	switch kinds {
	case 0:
		return "_", nil
	case 1, 2:
		return name, own
	case 3:
		inner, more := m.p(letter, levels-1)
		return "(" + name + "@" + inner + ")", append(own, more...)
	case 4:
		inner, more := m.p(letter, levels-1)
		return "(!" + inner + ")", more
	case 5, 6:
		inner, more := m.p(letter, levels-1)
		return "(~" + inner + ")", more
	}
	switch letter {
	case "I":
		return m.one("0", "1", "2", "(-1)"), nil
	case "B":
		return m.one("True", "False"), nil
	case "P":
		return m.two("(", "I", ",", "B", ")", levels)
	case "D":
		if m.IntN(2) == 0 {
			return "A", nil
		}
		return m.two("(C", "I", " ", "L", ")", levels)
	}
	switch m.IntN(4) {
	case 0:
		return "[]", nil
	case 1:
		inner, more := m.p("I", levels-1)
		return "[" + inner + "]", more
	case 2:
		return m.two("[", "I", ",", "I", "]", levels)
	}
	return m.two("(", "I", ":", "L", ")", levels)
}

func (m *runMaker) two(ahead, a, between, b, behind string, levels int) (string, []boundName) {
	left, more := m.p(a, levels-1)
	right, others := m.p(b, levels-1)
	return glue(ahead, left, between, right, behind), append(more, others...)
}

// e draws an expression of a type.
func (m *runMaker) e(letter string, levels int, env []boundName) string {
	var fits []string
	for _, b := range env {
		if b.letter == letter {
			fits = append(fits, b.name)
		}
	}
	if len(fits) > 0 && (levels <= 0 || m.IntN(3) == 0) {
		return fits[m.IntN(len(fits))]
	}
	if levels > 0 && m.IntN(3) > 0 {
		return "(" + m.large(letter, levels-1, env) + ")"
	}
	return m.small(letter, levels-1, env)
}

// small draws an expression by what its type is.
func (m *runMaker) small(letter string, levels int, env []boundName) string {
	e := func(letter string) string { return m.e(letter, levels, env) }
	form := letter + strconv.Itoa(m.IntN(4))
	if levels < 0 {
		form = ""
	}
	switch form {
	case "I0":
		return glue("(", m.one("primAdd", "primSub", "primMul"), e("I"), e("I"), ")")
	case "I1":
		return glue("(", m.one("primDiv", "primMod"), e("I"), e("I"), ")")
	case "B0", "B1":
		return glue("(", m.one("primEq", "primLess"), e("I"), e("I"), ")")
	case "L0":
		return glue("(", e("I"), ":", e("L"), ")")
	case "L1":
		return glue("[", e("I"), m.one(",", ".."), e("I"), "]")
	case "L2":
		return m.comprehension(levels, env)
	case "D0", "D1", "D2":
		return glue("(C", e("I"), e("L"), ")")
	}
	switch letter {
	case "I":
		return m.one("0", "1", "2", "(- 1)")
	case "B":
		return m.one("True", "False")
	case "L":
		return m.one("[]", "[1]", "[0,2]")
	case "P":
		return glue("(", e("I"), ",", e("B"), ")")
	}
	return "A"
}

func (m *runMaker) comprehension(levels int, env []boundName) string {
	inner := slices.Clip(env)
	var qualifiers []string
	for range 1 + m.IntN(2) {
		if m.IntN(3) == 0 {
			qualifiers = append(qualifiers, m.e("B", levels, inner))
			continue
		}
		source := m.e("L", levels, inner)
		pattern, bound := m.p("I", 2)
		qualifiers = append(qualifiers, pattern+"<-"+source)
		inner = append(slices.Clip(inner), bound...)
	}
	return glue("[", m.e("I", levels, inner), "|", strings.Join(qualifiers, ","), "]")
}

// large draws an expression of a form that may be of any type.
func (m *runMaker) large(letter string, levels int, env []boundName) string {
	e := func(letter string) string { return m.e(letter, levels, env) }
	switch m.IntN(7) {
	case 0:
		return glue("if", e("B"), "then", e(letter), "else", e(letter))
	case 1:
		looked := m.letter()
		text := glue("case", e(looked), "of {")
		for range 1 + m.IntN(2) {
			pattern, bound := m.p(looked, 2)
			text = glue(text, pattern, m.right(letter, "->", levels, append(slices.Clip(env), bound...)), ";")
		}
		return text + "}"
	case 2:
		block, bound := m.block(levels, env)
		return glue("let {", block, "} in", m.e(letter, levels, append(slices.Clip(env), bound...)))
	case 3:
		first, second := m.letter(), m.letter()
		a, bound := m.p(first, 2)
		b, more := m.p(second, 2)
		return glue("(\\", a, b, "->", m.e(letter, levels, slices.Concat(env, bound, more)), ")", e(first), e(second))
	case 4:
		return glue("primSeq", e(m.letter()), e(letter))
	}
	for range 6 {
		if len(m.functions) == 0 {
			break
		}
		if f := m.functions[m.IntN(len(m.functions))]; f.gives == letter {
			parts := []string{f.name}
			for _, takes := range f.takes {
				parts = append(parts, e(string(takes)))
			}
			return strings.Join(parts, " ")
		}
	}
	return m.small(letter, levels, env)
}

// right draws a right side, at times with guards and a block.
func (m *runMaker) right(letter, mark string, levels int, env []boundName) string {
	block := ""
	if m.IntN(4) == 0 {
		text, bound := m.block(levels, env)
		block, env = "where {"+text+"}", append(slices.Clip(env), bound...)
	}
	if m.IntN(3) > 0 {
		return glue(mark, m.e(letter, levels, env), block)
	}
	text := ""
	for range 1 + m.IntN(2) {
		text = glue(text, "|", m.e("B", levels-1, env), mark, m.e(letter, levels-1, env))
	}
	return glue(text, block)
}

// block draws things that know what is around, and at times those ahead of them.
func (m *runMaker) block(levels int, env []boundName) (string, []boundName) {
	var texts []string
	var bound []boundName
	for range 1 + m.IntN(2) {
		letter := m.letter()
		name := m.newName()
		texts = append(texts, name+" "+m.right(letter, "=", levels-1, append(slices.Clip(env), bound...)))
		bound = append(bound, boundName{name, letter})
	}
	return strings.Join(texts, ";"), bound
}

// module draws functions and things, which know the functions ahead of them.
func (m *runMaker) module(functions, things int) string {
	m.names, m.functions = 0, nil
	texts := []string{"data D = A | C Int [Int]"}
	for i := range functions + things {
		f := knownFunction{name: "f" + strconv.Itoa(i+1), gives: m.letter()}
		if i < functions {
			f.takes = m.letter() + m.one("", m.letter())
		}
		for range 1 + m.IntN(3)*len(f.takes) {
			text, env := f.name, []boundName(nil)
			for _, takes := range f.takes {
				pattern, bound := m.p(string(takes), 3)
				text, env = glue(text, pattern), append(env, bound...)
			}
			texts = append(texts, glue(text, m.right(f.gives, "=", 4, env)))
		}
		if i < functions {
			m.functions = append(m.functions, f)
		}
	}
	return "module M where {" + strings.Join(texts, ";") + "}"
}

// What a thing is by its core it is by its clauses, as they are written: value, what is told ahead of an error, and its text.
func TestDrawnProgramsMeanTheSame(t *testing.T) {
	t.Parallel()
	m := &runMaker{Rand: rand.New(rand.NewPCG(14, 1))}
	seen := map[string]int{}
	for range 100 {
		list := []impl.Node{parsed(t, m.module(5, 12))}
		if r := impl.InferProgram(list); r.Code != 0 {
			t.Fatalf("%s\nhas the code %d at %s", impl.Print(list[0]), r.Code, r.Name)
		}
		checkSugar(t, list, "M.f1")
		p := runProgramOf(list, "M.f1")
		for i := range 12 {
			name := "M.f" + strconv.Itoa(6+i)
			got, want := p.byCore(name, (*runner).tell), p.byClauses(name, (*runner).tell)
			_, why, isError := strings.Cut(got, "!")
			switch {
			case got == "?" || want == "?":
				why = "never"
			case got != want:
				t.Errorf("%s\n%s is %s, not %s", impl.Print(list[0]), name, got, want)
			case !isError:
				why = "value"
			}
			for _, ahead := range []string{"M.f", "x"} {
				if strings.HasPrefix(why, "no match in "+ahead) {
					why = "no match in " + ahead
				}
			}
			seen[why]++
		}
	}
	for _, why := range []string{"value", "division by zero", "no match in case", "no match in lambda", "no match in lazy", "no match in M.f", "no match in x"} {
		if seen[why] < 5 {
			t.Errorf("of %s there are but %d: %v", why, seen[why], seen)
		}
	}
}
