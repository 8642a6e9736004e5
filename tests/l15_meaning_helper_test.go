package tests

import (
	"math/big"
	"slices"
	"strings"
	"testing"

	"loop.example/g00017/impl"
)

// A second reading of the chapter: it calls itself where something waits, looks names up in lists, and makes all that is given at once.

// A meanThing is known, suspended, or, with neither, being worked out.
type meanThing struct {
	value *meanValue
	work  func() *meanValue
}

// A meanValue is a function (with a term), a constructor, a number or a char.
type meanValue struct {
	lam    *impl.Core
	env    []meanBinding
	taken  []*meanThing
	con    string
	fields []*meanThing
	number *big.Int
	char   string
}

type meanBinding struct {
	name  string
	thing *meanThing
}

// A meanEnd is how all ends, with the text of an error.
type meanEnd struct {
	end  int64
	text string
}

type meanRun struct {
	steps, most   int64
	waiting, peak int
	out           []byte
}

// meaningSlowly has what Meaning is to answer, and the most that waits at once.
func meaningSlowly(c impl.Core, mode int64, input string, steps int64) (o impl.Outcome, peak int) {
	if coreFaultSlowly(c) != 0 || len(freeNamesSlowly(c)) > 0 || mode != 1 && mode != 2 || len(input) > 60000 || steps < 1 || steps > 2000000 {
		return impl.Outcome{End: impl.EndBad}, 0
	}
	r := &meanRun{most: steps}
	defer func() {
		if end, ours := recover().(meanEnd); ours {
			o, peak = impl.Outcome{End: end.end, Out: string(r.out), Error: end.text, Steps: r.steps}, r.peak
		}
	}()
	r.tell(&c, mode, input)
	return
}

func (r *meanRun) tell(c *impl.Core, mode int64, input string) {
	first := func() *meanValue { return r.work(c, nil) }
	if mode == 1 {
		r.read(first(), &r.out)
	} else {
		r.read(r.apply(r.wait(first), []*meanThing{{value: meanText(input)}}), &r.out)
	}
	if len(r.out) > 20000 {
		r.out = r.out[:20000]
		panic(meanEnd{end: impl.EndOut})
	}
	panic(meanEnd{end: impl.EndDone})
}

// read works out a list of chars as far as one more than may be told.
func (r *meanRun) read(list *meanValue, text *[]byte) {
	for list.con != "[]" || len(list.fields) > 0 {
		if list.con != ":" || len(list.fields) != 2 {
			panic(meanEnd{end: impl.EndStuck})
		}
		char := r.ask(list.fields[0])
		if char.char == "" {
			panic(meanEnd{end: impl.EndStuck})
		}
		if *text = append(*text, char.char...); len(*text) > 20000 {
			return
		}
		list = r.ask(list.fields[1])
	}
}

func (r *meanRun) wait(work func() *meanValue) *meanValue {
	if r.waiting == 20000 {
		panic(meanEnd{end: impl.EndDeep})
	}
	r.waiting++
	r.peak = max(r.peak, r.waiting)
	v := work()
	r.waiting--
	return v
}

func (r *meanRun) ask(thing *meanThing) *meanValue {
	if thing.value == nil {
		work := thing.work
		if work == nil {
			panic(meanEnd{end: impl.EndLoop})
		}
		thing.work = nil
		thing.value = r.wait(work)
	}
	return thing.value
}

func meanText(text string) *meanValue {
	list := &meanValue{con: "[]"}
	for _, b := range slices.Backward([]byte(text)) {
		list = &meanValue{con: ":", fields: []*meanThing{{value: &meanValue{char: string([]byte{b})}}, {value: list}}}
	}
	return list
}

func bindMeant(env []meanBinding, names []string, things []*meanThing) []meanBinding {
	env = slices.Clip(env)
	for i, name := range names {
		env = append(env, meanBinding{name, things[i]})
	}
	return env
}

// findMeant has what a name stands for.
func findMeant(env []meanBinding, name string) *meanThing {
	for _, one := range slices.Backward(env) {
		if one.name == name {
			return one.thing
		}
	}
	return nil
}

// atOnce has the value of a term that is what it is at once, or none.
func (r *meanRun) atOnce(c *impl.Core, env []meanBinding) *meanValue {
	switch c.Kind {
	case impl.CInt:
		return &meanValue{number: valueOf(c.Big)}
	case impl.CChar:
		return &meanValue{char: c.Name}
	case impl.CLam:
		return &meanValue{lam: c, env: env}
	case impl.CCon:
		return &meanValue{con: c.Name, fields: r.given(c.Kids, env)}
	}
	return nil
}

func (r *meanRun) given(kids []impl.Core, env []meanBinding) []*meanThing {
	var things []*meanThing
	for i := range kids {
		if kids[i].Kind == impl.CVar {
			things = append(things, findMeant(env, kids[i].Name))
			continue
		}
		things = append(things, &meanThing{})
		r.give(things[i], &kids[i], env)
	}
	return things
}

// give lets a thing be what a term is, if need be suspended.
func (r *meanRun) give(thing *meanThing, c *impl.Core, env []meanBinding) {
	if thing.value = r.atOnce(c, env); thing.value == nil {
		thing.work = func() *meanValue { return r.work(c, env) }
	}
}

func (r *meanRun) work(c *impl.Core, env []meanBinding) *meanValue {
	if r.steps == r.most {
		panic(meanEnd{end: impl.EndSteps})
	}
	r.steps++
	switch c.Kind {
	case impl.CVar:
		return r.ask(findMeant(env, c.Name))
	case impl.CText:
		return meanText(c.Name)
	case impl.CApp:
		f := r.wait(func() *meanValue { return r.work(&c.Kids[0], env) })
		return r.apply(f, r.given(c.Kids[1:], env))
	case impl.CLet:
		things := make([]*meanThing, len(c.Names))
		for i := range things {
			things[i] = &meanThing{}
		}
		env = bindMeant(env, c.Names, things)
		for i, thing := range things {
			r.give(thing, &c.Kids[i], env)
		}
		return r.work(&c.Kids[len(things)], env)
	case impl.CCase:
		return r.choose(c, r.wait(func() *meanValue { return r.work(&c.Kids[0], env) }), env)
	case impl.CPrim:
		return r.prim(c, env)
	}
	return r.atOnce(c, env)
}

func (r *meanRun) apply(f *meanValue, args []*meanThing) *meanValue {
	if f.lam == nil {
		panic(meanEnd{end: impl.EndStuck})
	}
	all := slices.Concat(f.taken, args)
	count := len(f.lam.Names)
	if len(all) < count {
		return &meanValue{lam: f.lam, env: f.env, taken: all}
	}
	body := func() *meanValue { return r.work(&f.lam.Kids[0], bindMeant(f.env, f.lam.Names, all[:count])) }
	if len(all) == count {
		return body()
	}
	return r.apply(r.wait(body), all[count:])
}

func (r *meanRun) choose(c *impl.Core, v *meanValue, env []meanBinding) *meanValue {
	env = bindMeant(env, []string{c.Name}, []*meanThing{{value: v}})
	for i, alt := range c.Alts {
		if alt.Con == v.con && len(alt.Names) == len(v.fields) {
			return r.work(&c.Alts[i].Body, bindMeant(env, alt.Names, v.fields))
		}
	}
	if len(c.Kids) < 2 {
		panic(meanEnd{end: impl.EndStuck})
	}
	return r.work(&c.Kids[1], env)
}

func (r *meanRun) prim(c *impl.Core, env []meanBinding) *meanValue {
	var values []*meanValue
	for i := range c.Kids {
		if c.Name == "primSeq" && i == 1 {
			return r.work(&c.Kids[1], env)
		}
		values = append(values, r.wait(func() *meanValue { return r.work(&c.Kids[i], env) }))
	}
	return r.primOf(c.Name, values)
}

// primOf has what a prim makes of values.
func (r *meanRun) primOf(name string, values []*meanValue) *meanValue {
	switch name {
	case "primError":
		var text []byte
		r.read(values[0], &text)
		panic(meanEnd{impl.EndError, string(text[:min(len(text), 20000)])})
	case "primOrd":
		if values[0].char == "" {
			panic(meanEnd{end: impl.EndStuck})
		}
		return &meanValue{number: big.NewInt(int64(values[0].char[0]))}
	}
	var numbers []*big.Int
	for _, v := range values {
		if v.number == nil {
			panic(meanEnd{end: impl.EndStuck})
		}
		numbers = append(numbers, v.number)
	}
	return primOfNumbers(name, numbers)
}

func meanBool(holds bool) *meanValue {
	if holds {
		return &meanValue{con: "True"}
	}
	return &meanValue{con: "False"}
}

func primOfNumbers(name string, list []*big.Int) *meanValue {
	made := new(big.Int)
	switch name {
	case "primShow":
		return meanText(list[0].String())
	case "primChr":
		if list[0].Sign() < 0 || list[0].Cmp(big.NewInt(255)) > 0 {
			panic(meanEnd{impl.EndError, "no char"})
		}
		return &meanValue{char: string([]byte{byte(list[0].Int64())})}
	case "primEq":
		return meanBool(list[0].Cmp(list[1]) == 0)
	case "primLess":
		return meanBool(list[0].Cmp(list[1]) < 0)
	case "primAdd":
		made.Add(list[0], list[1])
	case "primSub":
		made.Sub(list[0], list[1])
	case "primMul":
		made.Mul(list[0], list[1])
	default:
		made = dividedSlowly(name, list[0], list[1])
	}
	if !fits(made) {
		panic(meanEnd{impl.EndError, "too large"})
	}
	return &meanValue{number: made}
}

// dividedSlowly rounds to the lesser number.
func dividedSlowly(name string, a, b *big.Int) *big.Int {
	if b.Sign() == 0 {
		panic(meanEnd{impl.EndError, "division by zero"})
	}
	quot, rem := new(big.Int).QuoRem(a, b, new(big.Int))
	if rem.Sign()*b.Sign() < 0 {
		quot.Sub(quot, big.NewInt(1))
		rem.Add(rem, b)
	}
	if name == "primDiv" {
		return quot
	}
	return rem
}

// A meant is a term, as it is written, with all that is told of it.
type meant struct {
	text  string
	end   int64
	out   string
	error string
	steps int64
}

const someSteps = 5000

// checkMeant compares what is told of terms with rows, and with the second reading.
func checkMeant(t *testing.T, rows []meant) {
	t.Helper()
	for _, row := range rows {
		c := readCore(row.text)
		want := impl.Outcome{End: row.end, Out: row.out, Error: row.error, Steps: row.steps}
		if got := impl.Meaning(c, 1, "", someSteps); got != want {
			t.Errorf("%s\ntells %v, not %v", row.text, got, want)
		}
		checkRuns17(t, c, 1, "", someSteps)
	}
}

// checkRuns17 holds a run against the second reading, and runs it again with as many steps as it took, with more, with fewer and with one.
func checkRuns17(t *testing.T, c impl.Core, mode int64, input string, steps int64) impl.Outcome {
	t.Helper()
	got := impl.Meaning(c, mode, input, steps)
	if want, _ := meaningSlowly(c, mode, input, steps); got != want {
		t.Errorf("%s\ntells %v, not %v", coreWritten(c), got, want)
	}
	checkSteps(t, c, mode, input, steps, got)
	return got
}

// checkSteps asks for promise 17 of a run that is told.
func checkSteps(t *testing.T, c impl.Core, mode int64, input string, steps int64, got impl.Outcome) {
	t.Helper()
	if got.Steps < 1 || got.Steps > steps || got.End == impl.EndSteps && got.Steps != steps {
		t.Errorf("%s\ntakes %d steps of %d", coreWritten(c), got.Steps, steps)
		return
	}
	if again := impl.Meaning(c, mode, input, got.Steps); again != got {
		t.Errorf("%s\nwith its %d steps tells %v, not %v", coreWritten(c), got.Steps, again, got)
	}
	for _, more := range []int64{got.Steps + 1, got.Steps * 2, impl.MaxSteps} {
		if got.End == impl.EndSteps || more > impl.MaxSteps {
			continue
		}
		if again := impl.Meaning(c, mode, input, more); again != got {
			t.Errorf("%s\nwith %d steps tells %v, not %v", coreWritten(c), more, again, got)
		}
	}
	for _, fewer := range []int64{got.Steps - 1, got.Steps / 2, 1} {
		if fewer < 1 || fewer == got.Steps {
			continue
		}
		again := impl.Meaning(c, mode, input, fewer)
		if again.End != impl.EndSteps || again.Steps != fewer || again.Error != "" || !strings.HasPrefix(got.Out, again.Out) || !impl.Stands(again, got) {
			t.Errorf("%s\nwith %d steps tells %v, and with enough %v", coreWritten(c), fewer, again, got)
		}
	}
}
