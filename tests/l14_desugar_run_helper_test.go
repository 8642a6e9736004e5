package tests

import (
	"math/big"
	"slices"
	"strings"

	"loop.example/g00017/impl"
)

// Two ways to work out a program: by its clauses as they are written, one after the other, and by its core. Both have the same values and the same prims.

// A runCell is something suspended, or what it has come to.
type runCell struct {
	make   func() runValue
	value  runValue
	isBusy bool
}

// A runValue is a constructor with fields, a number, a char ('c as its constructor), or a function of one argument.
type runValue struct {
	con    string
	fields []*runCell
	number *big.Int
	call   func(*runCell) runValue
}

// A runEnv has what names stand for, the innermost first.
type runEnv struct {
	name  string
	cell  *runCell
	outer *runEnv
}

// A runEnd is how a run ends ahead of a value: with the text of an error, or never.
type runEnd struct {
	text  string
	never bool
}

type runner struct {
	steps int
	arity map[string]int
}

func (e *runEnv) find(name string) *runCell {
	for ; e != nil; e = e.outer {
		if e.name == name {
			return e.cell
		}
	}
	return nil
}

func (e *runEnv) with(name string, cell *runCell) *runEnv { return &runEnv{name, cell, e} }

func suspended(make func() runValue) *runCell { return &runCell{make: make} }

func doneCell(v runValue) *runCell { return &runCell{value: v} }

func (c *runCell) force() runValue {
	if c.isBusy {
		panic(runEnd{never: true})
	}
	if c.make != nil {
		c.isBusy = true
		c.value = c.make()
		c.make, c.isBusy = nil, false
	}
	return c.value
}

func (r *runner) tick() {
	if r.steps--; r.steps < 0 {
		panic(runEnd{never: true})
	}
}

// runFunction takes so many arguments, one by one.
func runFunction(count int, body func([]*runCell) runValue) runValue {
	var taking func(taken []*runCell) runValue
	taking = func(taken []*runCell) runValue {
		if len(taken) == count {
			return body(taken)
		}
		return runValue{call: func(arg *runCell) runValue { return taking(append(slices.Clip(taken), arg)) }}
	}
	return taking(nil)
}

func runBool(holds bool) runValue {
	if holds {
		return runValue{con: "True"}
	}
	return runValue{con: "False"}
}

func runText(text string) runValue {
	v := runValue{con: "[]"}
	for _, b := range slices.Backward([]byte(text)) {
		v = runValue{con: ":", fields: []*runCell{doneCell(runValue{con: "'" + string([]byte{b})}), doneCell(v)}}
	}
	return v
}

// textOfList works out a list of chars.
func (r *runner) textOfList(v runValue) string {
	text := ""
	for ; v.con == ":"; v = v.fields[1].force() {
		r.tick()
		text += v.fields[0].force().con[1:]
	}
	return text
}

// prim works out a prim of its arguments.
func (r *runner) prim(name string, args []*runCell) runValue {
	r.tick()
	first := args[0].force()
	switch name {
	case "primSeq":
		return args[1].force()
	case "primError":
		panic(runEnd{text: r.textOfList(first)})
	case "primOrd":
		return runValue{number: big.NewInt(int64(first.con[1]))}
	case "primShow":
		return runText(first.number.String())
	case "primChr":
		if !first.number.IsInt64() || first.number.Int64() < 0 || first.number.Int64() > 255 {
			panic(runEnd{text: "no char"})
		}
		return runValue{con: "'" + string([]byte{byte(first.number.Int64())})}
	}
	a, b := first.number, args[1].force().number
	switch name {
	case "primEq":
		return runBool(a.Cmp(b) == 0)
	case "primLess":
		return runBool(a.Cmp(b) < 0)
	case "primAdd":
		return runValue{number: new(big.Int).Add(a, b)}
	case "primSub":
		return runValue{number: new(big.Int).Sub(a, b)}
	case "primMul":
		return runValue{number: new(big.Int).Mul(a, b)}
	}
	if b.Sign() == 0 {
		panic(runEnd{text: "division by zero"})
	}
	if name == "primDiv" {
		q, m := new(big.Int).QuoRem(a, b, new(big.Int))
		if m.Sign() != 0 && m.Sign() != b.Sign() {
			q.Sub(q, big.NewInt(1))
		}
		return runValue{number: q}
	}
	m := new(big.Int).Rem(a, b)
	if m.Sign() != 0 && m.Sign() != b.Sign() {
		m.Add(m, b)
	}
	return runValue{number: m}
}

// core works out a term.
func (r *runner) core(c *impl.Core, env *runEnv) runValue {
	r.tick()
	var kids []*runCell
	for i := range c.Kids {
		kids = append(kids, suspended(func() runValue { return r.core(&c.Kids[i], env) }))
	}
	switch c.Kind {
	case impl.CVar:
		return env.find(c.Name).force()
	case impl.CInt:
		return runValue{number: valueOf(c.Big)}
	case impl.CChar:
		return runValue{con: "'" + c.Name}
	case impl.CText:
		return runText(c.Name)
	case impl.CCon:
		return runValue{con: c.Name, fields: kids}
	case impl.CPrim:
		return r.prim(c.Name, kids)
	case impl.CApp:
		v := kids[0].force()
		for _, arg := range kids[1:] {
			v = v.call(arg)
		}
		return v
	case impl.CLam:
		return runFunction(len(c.Names), func(args []*runCell) runValue {
			inner := env
			for i, name := range c.Names {
				inner = inner.with(name, args[i])
			}
			return r.core(&c.Kids[0], inner)
		})
	case impl.CLet:
		for i, name := range c.Names {
			env = env.with(name, kids[i])
		}
		return kids[len(c.Names)].force()
	}
	return r.coreCase(c, kids[0].force(), env)
}

func (r *runner) coreCase(c *impl.Core, v runValue, env *runEnv) runValue {
	if c.Name != "" {
		env = env.with(c.Name, doneCell(v))
	}
	for i := range c.Alts {
		if c.Alts[i].Con == v.con {
			for k, name := range c.Alts[i].Names {
				env = env.with(name, v.fields[k])
			}
			return r.core(&c.Alts[i].Body, env)
		}
	}
	return r.core(&c.Kids[1], env)
}

// The second way: trees.

// block has the things of clauses in an environment.
func (r *runner) block(decls []impl.Node, env *runEnv) *runEnv {
	things := slowThings(decls)
	var cells []*runCell
	for _, one := range things {
		cells = append(cells, &runCell{})
		env = env.with(one.name, cells[len(cells)-1])
	}
	for i, one := range things {
		cells[i].make = func() runValue { return r.clauses(one.name, one.clauses, env) }
	}
	return env
}

// clauses tries one after the other once there are as many arguments as patterns.
func (r *runner) clauses(where string, clauses []impl.Node, env *runEnv) runValue {
	return runFunction(len(clauses[0].Kids)-1, func(args []*runCell) runValue { return r.tries(where, clauses, args, env) })
}

func (r *runner) tries(where string, clauses []impl.Node, args []*runCell, env *runEnv) runValue {
	r.tick()
	for _, c := range clauses {
		last := len(c.Kids) - 1
		inner, matches := r.matchAll(c.Kids[:last], args, env)
		if !matches {
			continue
		}
		if v, holds := r.right(c.Kids[last], inner); holds {
			return v
		}
	}
	panic(runEnd{text: "no match in " + where})
}

func (r *runner) right(n impl.Node, env *runEnv) (v runValue, holds bool) {
	if n.Kind != impl.NRhs {
		return r.tree(n, env), true
	}
	env = r.block(n.Kids, env)
	for _, kid := range n.Kids {
		switch {
		case kid.Kind == impl.DClause:
		case kid.Kind != impl.NGuard:
			return r.tree(kid, env), true
		case r.tree(kid.Kids[0], env).con == "True":
			return r.tree(kid.Kids[1], env), true
		}
	}
	return runValue{}, false
}

func (r *runner) matchAll(patterns []impl.Node, cells []*runCell, env *runEnv) (*runEnv, bool) {
	for i, p := range patterns {
		inner, matches := r.match(p, cells[i], env)
		if !matches {
			return nil, false
		}
		env = inner
	}
	return env, true
}

func (r *runner) match(p impl.Node, cell *runCell, env *runEnv) (*runEnv, bool) {
	r.tick()
	switch p.Kind {
	case impl.PWild:
		return env, true
	case impl.PVar:
		return env.with(p.Name, cell), true
	case impl.PAs:
		return r.match(p.Kids[0], cell, env.with(p.Name, cell))
	case impl.PBang:
		cell.force()
		return r.match(p.Kids[0], cell, env)
	case impl.PLazy:
		outer := env
		for _, name := range boundIn(p.Kids[0]) {
			env = env.with(name, suspended(func() runValue {
				inner, matches := r.match(p.Kids[0], cell, outer)
				if !matches {
					panic(runEnd{text: "no match in lazy"})
				}
				return inner.find(name).force()
			}))
		}
		return env, true
	case impl.PNum:
		return env, cell.force().number.String() == p.Name
	case impl.PChar:
		return env, cell.force().con == "'"+p.Name
	}
	own := cellsOf(p)
	v := cell.force()
	if v.con != own.Name {
		return nil, false
	}
	return r.matchAll(own.Kids, v.fields, env)
}

func (r *runner) cells(nodes []impl.Node, env *runEnv) []*runCell {
	return mapped(nodes, func(n impl.Node) *runCell { return suspended(func() runValue { return r.tree(n, env) }) })
}

func (r *runner) builtIn(name string) runValue {
	switch name {
	case "negate":
		return runFunction(1, func(args []*runCell) runValue {
			return runValue{number: new(big.Int).Neg(args[0].force().number)}
		})
	case "primAppend":
		return runFunction(2, func(args []*runCell) runValue { return r.appended(args[0], args[1]) })
	}
	return runFunction(primCounts()[name], func(args []*runCell) runValue { return r.prim(name, args) })
}

func (r *runner) appended(a, b *runCell) runValue {
	r.tick()
	v := a.force()
	if v.con == "[]" {
		return b.force()
	}
	return runValue{con: ":", fields: []*runCell{v.fields[0], suspended(func() runValue { return r.appended(v.fields[1], b) })}}
}

// tree works out an expression.
func (r *runner) tree(n impl.Node, env *runEnv) runValue {
	r.tick()
	last := len(n.Kids) - 1
	switch n.Kind {
	case impl.NVar:
		if cell := env.find(n.Name); cell != nil {
			return cell.force()
		}
		return r.builtIn(n.Name)
	case impl.NCon:
		return runFunction(r.arity[n.Name], func(args []*runCell) runValue { return runValue{con: n.Name, fields: args} })
	case impl.NNum:
		value, _ := new(big.Int).SetString(n.Name, 10)
		return runValue{number: value}
	case impl.NChar:
		return runValue{con: "'" + n.Name}
	case impl.NStr:
		return runText(n.Name)
	case impl.NApp:
		v := r.tree(n.Kids[0], env)
		for _, arg := range r.cells(n.Kids[1:], env) {
			v = v.call(arg)
		}
		return v
	case impl.NLam:
		return r.clauses("lambda", []impl.Node{n}, env)
	case impl.NLet:
		return r.tree(n.Kids[last], r.block(n.Kids[:last], env))
	case impl.NIf:
		if r.tree(n.Kids[0], env).con == "True" {
			return r.tree(n.Kids[1], env)
		}
		return r.tree(n.Kids[2], env)
	case impl.NCase:
		return r.tries("case", n.Kids[1:], r.cells(n.Kids[:1], env), env)
	case impl.NTuple:
		return runValue{con: tupleOf(make([]impl.Type, len(n.Kids))).Name, fields: r.cells(n.Kids, env)}
	case impl.NList:
		v := runValue{con: "[]"}
		for _, cell := range slices.Backward(r.cells(n.Kids, env)) {
			v = runValue{con: ":", fields: []*runCell{cell, doneCell(v)}}
		}
		return v
	case impl.NRange:
		ends := r.cells(n.Kids, env)
		return r.numbers(ends[0], ends[1])
	}
	return r.comprehension(n.Kids[1:], n.Kids[0], env, doneCell(runValue{con: "[]"}))
}

func (r *runner) numbers(from, to *runCell) runValue {
	r.tick()
	last, at := to.force().number, from.force().number
	if last.Cmp(at) < 0 {
		return runValue{con: "[]"}
	}
	next := doneCell(runValue{number: new(big.Int).Add(at, big.NewInt(1))})
	return runValue{con: ":", fields: []*runCell{from, suspended(func() runValue { return r.numbers(next, to) })}}
}

func (r *runner) comprehension(qualifiers []impl.Node, head impl.Node, env *runEnv, tail *runCell) runValue {
	r.tick()
	if len(qualifiers) == 0 {
		return runValue{con: ":", fields: append(r.cells([]impl.Node{head}, env), tail)}
	}
	q := qualifiers[0]
	if q.Kind == impl.NTest {
		if r.tree(q.Kids[0], env).con == "True" {
			return r.comprehension(qualifiers[1:], head, env, tail)
		}
		return tail.force()
	}
	var through func(list *runCell) runValue
	through = func(list *runCell) runValue {
		v := list.force()
		if v.con == "[]" {
			return tail.force()
		}
		rest := suspended(func() runValue { return through(v.fields[1]) })
		if inner, matches := r.match(q.Kids[0], v.fields[0], env); matches {
			return r.comprehension(qualifiers[1:], head, inner, rest)
		}
		return rest.force()
	}
	return through(r.cells(q.Kids[1:], env)[0])
}

// tell writes a value as far as it can be worked out, from left to right.
func (r *runner) tell(text *strings.Builder, v runValue) {
	r.tick()
	switch {
	case v.call != nil:
		text.WriteString("function")
	case v.number != nil:
		text.WriteString(v.number.String())
	default:
		text.WriteString("(" + v.con)
		for _, field := range v.fields {
			text.WriteString(" ")
			r.tell(text, field.force())
		}
		text.WriteString(")")
	}
}

// told has what a run tells: a value, what was told of it ahead of an error with "!" and its text, or "?" if it does not end.
func (r *runner) told(steps int, run func(*strings.Builder)) (text string) {
	var out strings.Builder
	r.steps = steps
	defer func() {
		if end, ours := recover().(runEnd); ours {
			text = out.String() + "!" + end.text
			if end.never {
				text = "?"
			}
		}
	}()
	run(&out)
	return out.String()
}

const runSteps = 20000

// A runProgram is worked out in both ways, each time from the beginning.
type runProgram struct {
	core  impl.Core
	binds []impl.Node
	arity map[string]int
}

func runProgramOf(list []impl.Node, main string) runProgram {
	p := runProgram{core: impl.CoreOf(list, main), binds: impl.InferProgram(list).Binds, arity: map[string]int{}}
	tables := impl.TableOf(list).Tables
	for _, c := range tables.Cons {
		p.arity[c.Name] = len(c.Fields)
	}
	for _, c := range tables.Classes {
		p.arity["dict:"+c.Name] = len(c.Supers) + len(c.Methods)
	}
	return p
}

// byCore has what is told of a thing by the core.
func (p runProgram) byCore(name string, tell func(*runner, *strings.Builder, runValue)) string {
	c := p.core
	c.Kids = slices.Clone(c.Kids)
	c.Kids[len(c.Kids)-1] = coreVar(name)
	r := &runner{}
	return r.told(runSteps, func(out *strings.Builder) { tell(r, out, r.core(&c, nil)) })
}

// byClauses has what is told of a thing by the clauses.
func (p runProgram) byClauses(name string, tell func(*runner, *strings.Builder, runValue)) string {
	r := &runner{arity: p.arity}
	global := r.block(p.binds, nil)
	return r.told(runSteps, func(out *strings.Builder) { tell(r, out, global.find(name).force()) })
}

// tellChars writes a list of chars.
func (r *runner) tellChars(out *strings.Builder, v runValue) {
	for ; v.con == ":"; v = v.fields[1].force() {
		r.tick()
		out.WriteString(v.fields[0].force().con[1:])
	}
}
