package tests

import (
	"fmt"
	"math/big"
	"slices"
	"strings"
	"testing"

	"loop.example/g00017/impl"
)

// A second reading of the chapter: it calls itself where something waits, its cells are values of Go that name each other, all of them are in one list, and a collection marks those that can be come to.

// A slowCell is of one of these kinds: a number, a char, a "built" one, a "function", a "suspended" one, a "hole", a "pointer".
type slowCell struct {
	kind   string
	number *big.Int
	name   string // the char, or the constructor's name
	form   *impl.Form
	fields []*slowCell // what was brought along, and arguments so far, of functions
	leads  *slowCell
}

// A slowHolder is something that waits, with what it names: the slots of a form, and cells.
type slowHolder struct {
	slots []*slowCell
	cells []*slowCell
}

type slowMachine struct {
	forms       []impl.Form
	steps, most int64
	room        int
	cells       []*slowCell
	held        []*slowHolder
	lists       []*slowCell // those that are told: the output, then the texts of errors
	out         []byte
	result      impl.RunResult
	waited      int // the most that has waited at once
}

// A slowRun has the arguments of RunForms.
type slowRun struct {
	list  []impl.Form
	mode  int64
	input string
	steps int64
	heap  int64
}

func (r slowRun) answer() impl.RunResult {
	return impl.RunForms(r.list, r.mode, r.input, r.steps, r.heap)
}

// slowly has what RunForms is to answer, and the most that waits at once.
func (r slowRun) slowly() (result impl.RunResult, waited int) {
	if formFaultSlowly(r.list) != 0 || r.mode != 1 && r.mode != 2 || len(r.input) > 60000 || r.steps < 1 || r.steps > 2000000 || r.heap < 100 || r.heap > 200000 {
		return impl.RunResult{Outcome: impl.Outcome{End: impl.EndBad}}, 0
	}
	m := &slowMachine{forms: r.list, most: r.steps, room: int(r.heap)}
	defer func() {
		if end, ours := recover().(meanEnd); ours {
			m.result.Outcome = impl.Outcome{End: end.end, Out: string(m.out), Error: end.text, Steps: m.steps}
			result, waited = m.result, m.waited
		}
	}()
	m.tell(r.mode, r.input)
	return
}

func (m *slowMachine) tell(mode int64, input string) {
	first := func() *slowCell { return m.work(&m.forms[0].Body, m.slotsOf(&m.forms[0])) }
	list := (*slowCell)(nil)
	if mode == 1 {
		list = first()
	} else {
		given := &slowHolder{cells: []*slowCell{m.text(input, nil)}}
		function := m.wait(given, first)
		list = m.apply(function, given.cells)
	}
	m.read(list, &m.out)
	if len(m.out) > 20000 {
		m.out = m.out[:20000]
		panic(meanEnd{end: impl.EndOut})
	}
	panic(meanEnd{end: impl.EndDone})
}

// read works out a list of chars as far as one more than may be told.
func (m *slowMachine) read(list *slowCell, text *[]byte) {
	at := len(m.lists)
	m.lists = append(m.lists, list)
	for ; !isSlowBuilt(list, "[]", 0); list = m.ask(m.lists[at]) {
		if !isSlowBuilt(list, ":", 2) {
			panic(meanEnd{end: impl.EndStuck})
		}
		m.lists[at] = list
		char := m.ask(list.fields[0])
		if char.kind != "char" {
			panic(meanEnd{end: impl.EndStuck})
		}
		if *text = append(*text, char.name...); len(*text) > 20000 {
			return
		}
		m.lists[at] = m.lists[at].fields[1]
	}
}

func isSlowBuilt(c *slowCell, name string, fields int) bool {
	return c.kind == "built" && c.name == name && len(c.fields) == fields
}

// claim counts cells that are to be made; beside what waits and is told the slots of a form at work, or a function and arguments, are held.
func (m *slowMachine) claim(count int, atWork []*slowCell) {
	if len(m.cells)+count > m.room {
		m.collect(atWork)
		if len(m.cells)+count > m.room {
			panic(meanEnd{end: impl.EndHeap})
		}
	}
	m.result.Made += int64(count)
	m.result.Peak = max(m.result.Peak, int64(len(m.cells)+count))
}

func (m *slowMachine) collect(atWork []*slowCell) {
	m.result.Collections++
	roots := [][]*slowCell{atWork, m.lists}
	for _, h := range m.held {
		roots = append(roots, h.slots, h.cells)
	}
	marked := map[*slowCell]bool{}
	var open []*slowCell
	for len(roots) > 0 || len(open) > 0 {
		for _, list := range roots {
			for i, c := range list {
				if c != nil {
					list[i] = followed(c)
					open = append(open, list[i])
				}
			}
		}
		roots = nil
		for _, c := range open {
			if !marked[c] {
				marked[c] = true
				roots = append(roots, c.fields)
			}
		}
		open = nil
	}
	m.cells = slices.DeleteFunc(m.cells, func(c *slowCell) bool { return !marked[c] })
}

// followed has the cell to which pointers lead.
func followed(c *slowCell) *slowCell {
	for c.kind == "pointer" {
		c = c.leads
	}
	return c
}

// add makes a cell, which was claimed.
func (m *slowMachine) add(c slowCell) *slowCell {
	m.cells = append(m.cells, &c)
	return &c
}

func (m *slowMachine) text(text string, atWork []*slowCell) *slowCell {
	m.claim(2*len(text)+1, atWork)
	list := m.add(slowCell{kind: "built", name: "[]"})
	for _, b := range slices.Backward([]byte(text)) {
		list = m.add(slowCell{kind: "built", name: ":", fields: []*slowCell{m.add(slowCell{kind: "char", name: string([]byte{b})}), list}})
	}
	return list
}

// wait works something out, while something waits for it.
func (m *slowMachine) wait(h *slowHolder, work func() *slowCell) *slowCell {
	if len(m.held) == 20000 {
		panic(meanEnd{end: impl.EndDeep})
	}
	m.held = append(m.held, h)
	m.waited = max(m.waited, len(m.held))
	v := work()
	m.held = m.held[:len(m.held)-1]
	return v
}

// ask enters a cell.
func (m *slowMachine) ask(c *slowCell) *slowCell {
	c = followed(c)
	switch c.kind {
	case "hole":
		panic(meanEnd{end: impl.EndLoop})
	case "suspended":
		slots := m.slotsOf(c.form, c.fields...)
		body := &c.form.Body
		*c = slowCell{kind: "hole"}
		v := m.wait(&slowHolder{cells: []*slowCell{c}}, func() *slowCell { return m.work(body, slots) })
		*c = slowCell{kind: "pointer", leads: v}
		m.result.Updates++
		return v
	}
	return c
}

func (m *slowMachine) slotsOf(form *impl.Form, given ...*slowCell) []*slowCell {
	slots := make([]*slowCell, form.Slots)
	copy(slots, given)
	return slots
}

// needed has all slots that a code names, to be asked what is in them.
func needed(c *impl.Code) []int64 {
	refs := slices.Clone(c.Refs)
	switch c.Kind {
	case impl.KSlot, impl.KApp:
		refs = append(refs, c.A)
	case impl.KLet:
		for _, kid := range c.Kids[:len(c.Kids)-1] {
			for _, ref := range kid.Refs {
				if ref < c.A || ref >= c.A+int64(len(c.Kids)-1) {
					refs = append(refs, ref)
				}
			}
		}
	}
	return refs
}

func cellsIn(refs []int64, slots []*slowCell) []*slowCell {
	var list []*slowCell
	for _, ref := range refs {
		list = append(list, slots[ref])
	}
	return list
}

// work works out a code, and what follows it without waiting.
func (m *slowMachine) work(c *impl.Code, slots []*slowCell) *slowCell {
	for {
		if m.steps == m.most {
			panic(meanEnd{end: impl.EndSteps})
		}
		m.steps++
		if slices.Contains(cellsIn(needed(c), slots), nil) {
			panic(meanEnd{end: impl.EndStuck})
		}
		switch c.Kind {
		case impl.KSlot:
			return m.ask(slots[c.A])
		case impl.KText:
			return m.text(c.Name, slots)
		case impl.KLet:
			m.let(c, slots)
			c = &c.Kids[len(c.Kids)-1]
		case impl.KCase:
			looked := m.wait(&slowHolder{slots: slots}, func() *slowCell { return m.work(&c.Kids[0], slots) })
			c = m.choose(c, looked, slots)
		case impl.KApp:
			args := &slowHolder{cells: cellsIn(c.Refs, slots)}
			called := slots[c.A]
			f := m.wait(args, func() *slowCell { return m.ask(called) })
			v, form, given := m.applyLast(f, args.cells)
			if v != nil {
				return v
			}
			c, slots = &form.Body, m.slotsOf(form, given...)
		case impl.KPrim:
			v, second := m.prim(c, slots)
			if second == nil {
				return v
			}
			return m.ask(second)
		default:
			m.claim(1, slots)
			return m.add(m.made(c, slots))
		}
	}
}

// made has the cell that a code makes.
func (m *slowMachine) made(c *impl.Code, slots []*slowCell) slowCell {
	fields := cellsIn(c.Refs, slots)
	switch c.Kind {
	case impl.KInt:
		return slowCell{kind: "number", number: valueOf(c.Big)}
	case impl.KChar:
		return slowCell{kind: "char", name: c.Name}
	case impl.KCon:
		return slowCell{kind: "built", name: c.Name, fields: fields}
	}
	form := &m.forms[c.A]
	if form.Params == 0 {
		return slowCell{kind: "suspended", form: form, fields: fields}
	}
	return slowCell{kind: "function", form: form, fields: fields}
}

func (m *slowMachine) let(c *impl.Code, slots []*slowCell) {
	made := c.Kids[:len(c.Kids)-1]
	m.claim(len(made), slots)
	for i := range made {
		slots[c.A+int64(i)] = m.add(slowCell{})
	}
	for i := range made {
		*slots[c.A+int64(i)] = m.made(&made[i], slots)
	}
}

// choose has the code with which a case goes on.
func (m *slowMachine) choose(c *impl.Code, v *slowCell, slots []*slowCell) *impl.Code {
	if c.A >= 0 {
		slots[c.A] = v
	}
	for i := range c.Alts {
		if alt := &c.Alts[i]; isSlowBuilt(v, alt.Con, int(alt.Count)) {
			copy(slots[alt.First:], v.fields)
			return &alt.Body
		}
	}
	if len(c.Kids) < 2 {
		panic(meanEnd{end: impl.EndStuck})
	}
	return &c.Kids[1]
}

func (m *slowMachine) apply(f *slowCell, args []*slowCell) *slowCell {
	v, form, given := m.applyLast(f, args)
	if v == nil {
		v = m.work(&form.Body, m.slotsOf(form, given...))
	}
	return v
}

// applyLast has a value, or the form that is to be worked out at last, with what is given to it.
func (m *slowMachine) applyLast(f *slowCell, args []*slowCell) (v *slowCell, form *impl.Form, given []*slowCell) {
	for {
		if f.kind != "function" {
			panic(meanEnd{end: impl.EndStuck})
		}
		form = f.form
		all := slices.Concat(f.fields, args)
		count := int(form.Free + form.Params)
		if len(all) < count {
			with := append(slices.Clone(args), f)
			m.claim(1, with)
			last := len(with) - 1
			return m.add(slowCell{kind: "function", form: form, fields: slices.Concat(with[last].fields, with[:last])}), nil, nil
		}
		if len(all) == count {
			return nil, form, all
		}
		left := &slowHolder{cells: all[count:]}
		slots := m.slotsOf(form, all[:count]...)
		f = m.wait(left, func() *slowCell { return m.work(&form.Body, slots) })
		args = left.cells
	}
}

// prim has what a prim makes, or what is asked for in its place.
func (m *slowMachine) prim(c *impl.Code, slots []*slowCell) (v, second *slowCell) {
	holder := &slowHolder{slots: slots}
	for i, ref := range c.Refs {
		if c.Name == "primSeq" && i == 1 {
			return nil, slots[ref]
		}
		got := m.wait(holder, func() *slowCell { return m.ask(slots[ref]) })
		holder.cells = append(holder.cells, got)
	}
	var values []*meanValue
	for _, got := range holder.cells {
		values = append(values, &meanValue{number: got.number})
		if got.kind == "char" {
			values[len(values)-1].char = got.name
		}
	}
	if c.Name == "primError" {
		var text []byte
		m.read(holder.cells[0], &text)
		panic(meanEnd{impl.EndError, string(text[:min(len(text), 20000)])})
	}
	made := (&meanRun{}).primOf(c.Name, values)
	if c.Name == "primShow" {
		return m.text(values[0].number.String(), nil), nil
	}
	m.claim(1, nil)
	switch {
	case made.number != nil:
		return m.add(slowCell{kind: "number", number: made.number}), nil
	case made.char != "":
		return m.add(slowCell{kind: "char", name: made.char}), nil
	}
	return m.add(slowCell{kind: "built", name: made.con}), nil
}

// check holds a run against the second reading.
func (r slowRun) check(t *testing.T) impl.RunResult {
	t.Helper()
	got := r.answer()
	if want, _ := r.slowly(); got != want {
		t.Errorf("%s\nmode %d, %d steps, a heap of %d\nanswers %s\nnot     %s", shortForms(r.list), r.mode, r.steps, r.heap, shortRun(got), shortRun(want))
	}
	return got
}

func shortForms(list []impl.Form) string {
	text := impl.FormatForms(list)
	if len(text) > 3000 {
		text = text[:3000] + ".."
	}
	return text
}

// shortRun tells a run's answer in a line.
func shortRun(r impl.RunResult) string {
	if len(r.Outcome.Out) > 60 {
		r.Outcome.Out = r.Outcome.Out[:60] + ".."
	}
	if len(r.Outcome.Error) > 60 {
		r.Outcome.Error = r.Outcome.Error[:60] + ".."
	}
	return fmt.Sprintf("end %d, out %q, error %q, steps %d, made %d, updates %d, collections %d, peak %d", r.Outcome.End, r.Outcome.Out, r.Outcome.Error, r.Outcome.Steps, r.Made, r.Updates, r.Collections, r.Peak)
}

// A ran row has forms, as they are written, with all that is told of their run in a heap that is never full.
type ran struct {
	forms                string
	end                  int64
	out, error           string
	steps, made, updates int64
}

// want has the answer: without collections all cells that were made are there at the end.
func (r ran) want() impl.RunResult {
	return impl.RunResult{Outcome: impl.Outcome{End: r.end, Out: r.out, Error: r.error, Steps: r.steps}, Made: r.made, Updates: r.updates, Peak: r.made}
}

// checkRan compares runs with rows, with the second reading, and with runs in other steps and heaps.
func checkRan(t *testing.T, rows []ran) {
	t.Helper()
	for _, row := range rows {
		run := slowRun{readForms(row.forms), 1, "", someSteps, 50000}
		if got := run.check(t); got != row.want() {
			t.Errorf("%s\nanswers %s\nnot     %s", row.forms, shortRun(got), shortRun(row.want()))
		}
		run.checkSteps(t)
		run.checkHeaps(t)
	}
}

// checkSteps asks for the first half of promise 17: as many steps as a run took, or more, turn nothing; fewer tell a beginning.
func (r slowRun) checkSteps(t *testing.T) {
	t.Helper()
	got := r.answer()
	took := got.Outcome.Steps
	if took > r.steps || got.Outcome.End == impl.EndSteps && took != r.steps {
		t.Errorf("%s\ntakes %d steps of %d", shortForms(r.list), took, r.steps)
		return
	}
	with := func(steps int64) impl.RunResult { return slowRun{r.list, r.mode, r.input, steps, r.heap}.answer() }
	for _, steps := range []int64{took, took + 1, 2 * took, impl.MaxSteps} {
		if steps < 1 || steps > impl.MaxSteps || steps > took && got.Outcome.End == impl.EndSteps {
			continue
		}
		if again := with(steps); again != got {
			t.Errorf("%s\nwith %d steps answers %s\nnot %s", shortForms(r.list), steps, shortRun(again), shortRun(got))
		}
	}
	before := impl.RunResult{}
	for steps := int64(1); steps < took; steps += 1 + took/40 {
		again := with(steps)
		o := again.Outcome
		isBeginning := o.End == impl.EndSteps && o.Steps == steps && o.Error == "" && strings.HasPrefix(got.Outcome.Out, o.Out) && impl.Stands(o, got.Outcome)
		if !isBeginning || !isFurther(before, again) || !isFurther(again, got) {
			t.Errorf("%s\nwith %d steps answers %s\nand with enough %s", shortForms(r.list), steps, shortRun(again), shortRun(got))
		}
		before = again
	}
}

// isFurther says whether all that is counted in one answer is so in the other one.
func isFurther(a, b impl.RunResult) bool {
	return strings.HasPrefix(b.Outcome.Out, a.Outcome.Out) && a.Made <= b.Made && a.Updates <= b.Updates && a.Collections <= b.Collections && a.Peak <= b.Peak
}

// checkHeaps asks for the second half of promise 17 of a run whose heap suffices, and answers the least heap that does.
func (r slowRun) checkHeaps(t *testing.T) int64 {
	t.Helper()
	got := r.answer()
	with := func(heap int64) impl.RunResult { return slowRun{r.list, r.mode, r.input, r.steps, heap}.answer() }
	low, high := int64(100), r.heap // the least one is from low on, up to high
	for low < high {
		heap := (low + high) / 2
		if with(heap).Outcome.End == impl.EndHeap {
			low = heap + 1
		} else {
			high = heap
		}
	}
	for _, heap := range []int64{low, low + 1, low + 2, low + 7, 2 * low, impl.MaxHeap} {
		again := with(min(heap, impl.MaxHeap))
		if again.Outcome != got.Outcome || again.Made != got.Made || again.Updates != got.Updates || again.Peak > heap || (again.Made > heap) != (again.Collections > 0) {
			t.Errorf("%s\nin a heap of %d answers %s\nand of %d %s", shortForms(r.list), heap, shortRun(again), r.heap, shortRun(got))
		}
	}
	if low > 100 {
		if most := with(low); most.Peak != low {
			t.Errorf("%s\nin the least heap, of %d, answers %s", shortForms(r.list), low, shortRun(most))
		}
		less := with(low - 1)
		o := less.Outcome
		if o.End != impl.EndHeap || o.Error != "" || !strings.HasPrefix(got.Outcome.Out, o.Out) || o.Steps > got.Outcome.Steps || less.Collections == 0 || less.Peak >= low {
			t.Errorf("%s\nin a heap of %d answers %s", shortForms(r.list), low-1, shortRun(less))
		}
	}
	return low
}
