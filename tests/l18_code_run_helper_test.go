package tests

import (
	"slices"

	"loop.example/g00017/impl"
)

// A formRun works out forms as the document tells of the machine, without a heap: what is made lives as long as it is named.
type formRun struct {
	meanRun
	forms     []impl.Form
	functions map[*meanValue]*formFunction
}

// A formFunction is a form with what it has brought along; its value has the arguments so far.
type formFunction struct {
	form    *impl.Form
	brought []*meanThing
}

// runFormsSlowly has what a run of forms tells.
func runFormsSlowly(list []impl.Form, mode int64, input string, steps int64) (o impl.Outcome) {
	r := &formRun{meanRun: meanRun{most: steps}, forms: list, functions: map[*meanValue]*formFunction{}}
	defer func() {
		if end, ours := recover().(meanEnd); ours {
			o = impl.Outcome{End: end.end, Out: string(r.out), Error: end.text, Steps: r.steps}
		}
	}()
	first := func() *meanValue { return r.workForm(&list[0], nil) }
	if mode == 1 {
		r.read(first(), &r.out)
	} else {
		r.read(r.apply(r.wait(first), []*meanThing{{value: meanText(input)}}), &r.out)
	}
	if len(r.out) > impl.MaxOut {
		r.out = r.out[:impl.MaxOut]
		panic(meanEnd{end: impl.EndOut})
	}
	panic(meanEnd{end: impl.EndDone})
}

// workForm works out a form with what is given for its first slots.
func (r *formRun) workForm(form *impl.Form, given []*meanThing) *meanValue {
	slots := make([]*meanThing, form.Slots)
	copy(slots, given)
	return r.work(&form.Body, slots)
}

// taken has what slots name; a slot that has nothing ends all.
func (r *formRun) taken(refs []int64, slots []*meanThing) []*meanThing {
	var list []*meanThing
	for _, ref := range refs {
		if slots[ref] == nil {
			panic(meanEnd{end: impl.EndStuck})
		}
		list = append(list, slots[ref])
	}
	return list
}

// fill makes in a thing what a code makes.
func (r *formRun) fill(thing *meanThing, c *impl.Code, slots []*meanThing) {
	brought := r.taken(c.Refs, slots)
	switch c.Kind {
	case impl.KInt:
		thing.value = &meanValue{number: valueOf(c.Big)}
	case impl.KChar:
		thing.value = &meanValue{char: c.Name}
	case impl.KCon:
		thing.value = &meanValue{con: c.Name, fields: brought}
	case impl.KMake:
		form := &r.forms[c.A]
		if form.Params == 0 {
			thing.work = func() *meanValue { return r.workForm(form, brought) }
			return
		}
		thing.value = &meanValue{}
		r.functions[thing.value] = &formFunction{form, brought}
	}
}

func (r *formRun) work(c *impl.Code, slots []*meanThing) *meanValue {
	if r.steps == r.most {
		panic(meanEnd{end: impl.EndSteps})
	}
	r.steps++
	switch c.Kind {
	case impl.KSlot:
		return r.ask(r.taken([]int64{c.A}, slots)[0])
	case impl.KText:
		return meanText(c.Name)
	case impl.KApp:
		args := r.taken(c.Refs, slots)
		called := r.taken([]int64{c.A}, slots)[0]
		return r.apply(r.wait(func() *meanValue { return r.ask(called) }), args)
	case impl.KLet:
		last := len(c.Kids) - 1
		for i := range last {
			slots[c.A+int64(i)] = &meanThing{}
		}
		for i := range last {
			r.fill(slots[c.A+int64(i)], &c.Kids[i], slots)
		}
		return r.work(&c.Kids[last], slots)
	case impl.KCase:
		return r.choose(c, r.wait(func() *meanValue { return r.work(&c.Kids[0], slots) }), slots)
	case impl.KPrim:
		return r.prim(c, r.taken(c.Refs, slots))
	}
	var thing meanThing
	r.fill(&thing, c, slots)
	return thing.value
}

func (r *formRun) apply(f *meanValue, args []*meanThing) *meanValue {
	function := r.functions[f]
	if function == nil {
		panic(meanEnd{end: impl.EndStuck})
	}
	all := slices.Concat(f.taken, args)
	count := int(function.form.Params)
	if len(all) < count {
		more := &meanValue{taken: all}
		r.functions[more] = function
		return more
	}
	body := func() *meanValue { return r.workForm(function.form, slices.Concat(function.brought, all[:count])) }
	if len(all) == count {
		return body()
	}
	return r.apply(r.wait(body), all[count:])
}

func (r *formRun) choose(c *impl.Code, v *meanValue, slots []*meanThing) *meanValue {
	if c.A >= 0 {
		slots[c.A] = &meanThing{value: v}
	}
	for i := range c.Alts {
		alt := &c.Alts[i]
		if v.con == alt.Con && v.con != "" && int64(len(v.fields)) == alt.Count {
			copy(slots[alt.First:], v.fields)
			return r.work(&alt.Body, slots)
		}
	}
	if len(c.Kids) < 2 {
		panic(meanEnd{end: impl.EndStuck})
	}
	return r.work(&c.Kids[1], slots)
}

func (r *formRun) prim(c *impl.Code, args []*meanThing) *meanValue {
	var values []*meanValue
	for i, arg := range args {
		if c.Name == "primSeq" && i == 1 {
			return r.ask(arg)
		}
		values = append(values, r.wait(func() *meanValue { return r.ask(arg) }))
	}
	return r.primOf(c.Name, values)
}
