package tests

import (
	"fmt"
	"regexp"
	"slices"
	"strconv"
	"strings"
	"testing"

	"loop.example/g00017/impl"
)

// A codeReader reads codes as they are written, if constructors have neither blanks nor brackets in them.
type codeReader struct{ words []string }

var codeWords = regexp.MustCompile(`"(?:\\.|[^"\\])*"|'(?:\\.|[^'\\])*'|[()]|[^\s()]+`)

// readForms reads lines of forms, each with its number ahead.
func readForms(text string) []impl.Form {
	var list []impl.Form
	for line := range strings.Lines(text) {
		r := &codeReader{codeWords.FindAllString(line, -1)}
		if r.number() != int64(len(list)) {
			panic(line + " has another number")
		}
		form := impl.Form{Free: r.number(), Params: r.number()}
		form.Slots = r.number()
		form.Body = r.code()
		if len(r.words) > 0 {
			panic(line + " goes on")
		}
		list = append(list, form)
	}
	return list
}

// readCode reads a code.
func readCode(text string) impl.Code { return readForms("0 0 0 0 " + text)[0].Body }

func (r *codeReader) next() string {
	word := r.words[0]
	r.words = r.words[1:]
	return word
}

func (r *codeReader) number() int64 {
	v, err := strconv.ParseInt(strings.TrimPrefix(r.next(), "s"), 10, 64)
	if err != nil {
		panic(err)
	}
	return v
}

func (r *codeReader) slots() []int64 {
	var list []int64
	for r.words[0] != ")" {
		list = append(list, r.number())
	}
	r.next()
	return list
}

func (r *codeReader) code() impl.Code {
	word := r.next()
	switch {
	case word == "(":
		return r.inner()
	case word[0] == 's':
		r.words = append([]string{word}, r.words...)
		return impl.Code{Kind: impl.KSlot, A: r.number()}
	}
	leaf := readLeaf(word)
	return impl.Code{Kind: map[int64]int64{impl.CInt: impl.KInt, impl.CChar: impl.KChar, impl.CText: impl.KText}[leaf.Kind], Name: leaf.Name, Big: leaf.Big}
}

func (r *codeReader) inner() impl.Code {
	switch r.next() {
	case "con":
		return impl.Code{Kind: impl.KCon, Name: r.next(), Refs: r.slots()}
	case "prim":
		return impl.Code{Kind: impl.KPrim, Name: r.next(), Refs: r.slots()}
	case "app":
		at := r.number()
		return impl.Code{Kind: impl.KApp, A: at, Refs: r.slots()}
	case "make":
		at := r.number()
		return impl.Code{Kind: impl.KMake, A: at, Refs: r.slots()}
	case "let":
		made := impl.Code{Kind: impl.KLet, A: r.number()}
		for r.words[0] != ")" {
			made.Kids = append(made.Kids, r.code())
		}
		r.next()
		return made
	}
	return r.choice()
}

func (r *codeReader) choice() impl.Code {
	made := impl.Code{Kind: impl.KCase, A: -1, Kids: []impl.Code{r.code()}}
	if r.words[0] == "-" {
		r.next()
	} else {
		made.A = r.number()
	}
	for word := r.next(); word != ")"; word = r.next() {
		if word == "_" {
			made.Kids = append(made.Kids, r.code())
			continue
		}
		alt := impl.CodeAlt{Con: r.next(), First: r.number()}
		alt.Count = r.number()
		alt.Body = r.code()
		made.Alts = append(made.Alts, alt)
		r.next()
	}
	return made
}

// formsText tells all fields of forms, whatever is wrong with them.
func formsText(list []impl.Form) string {
	var text strings.Builder
	for _, form := range list {
		fmt.Fprintf(&text, "%d %d %d ", form.Free, form.Params, form.Slots)
		addCodeText(&text, form.Body)
	}
	return text.String()
}

func addCodeText(text *strings.Builder, c impl.Code) {
	fmt.Fprintf(text, "<%d %q %v %x %d %d %d", c.Kind, c.Name, c.Big.Minus, c.Big.Limbs, c.A, c.B, c.Refs)
	for _, kid := range c.Kids {
		addCodeText(text, kid)
	}
	for _, alt := range c.Alts {
		fmt.Fprintf(text, "|%q %d %d", alt.Con, alt.First, alt.Count)
		addCodeText(text, alt.Body)
	}
	text.WriteString(">")
}

// A second reading of the chapter: what stands around is written when what it is around is asked for, and names are looked up in maps of each place's own.
type slowFormer struct{ forms []impl.Form }

type slowPlace struct {
	slots map[string]int64
	next  *int64
}

func formsSlowly(c impl.Core) []impl.Form {
	if coreFaultSlowly(c) != 0 || len(freeNamesSlowly(c)) > 0 {
		return nil
	}
	var f slowFormer
	f.form(c, nil, c, slowPlace{})
	return f.forms
}

// more has a place in which names stand for new slots.
func (p slowPlace) more(names ...string) (inner slowPlace, first int64) {
	inner, first = slowPlace{map[string]int64{}, p.next}, *p.next
	for name, slot := range p.slots {
		inner.slots[name] = slot
	}
	for _, name := range names {
		inner.slots[name] = *p.next
		*p.next++
	}
	return inner, first
}

func (f *slowFormer) form(c impl.Core, params []string, body impl.Core, around slowPlace) impl.Code {
	made := impl.Code{Kind: impl.KMake, A: int64(len(f.forms))}
	f.forms = append(f.forms, impl.Form{})
	free := impl.FreeNames(c)
	for _, name := range free {
		made.Refs = append(made.Refs, around.slots[name])
	}
	inner, _ := slowPlace{nil, new(int64)}.more(append(free, params...)...)
	code := f.code(body, inner)
	f.forms[made.A] = impl.Form{Free: int64(len(free)), Params: int64(len(params)), Slots: *inner.next, Body: code}
	return made
}

func (f *slowFormer) made(c impl.Core, p slowPlace) impl.Code {
	switch c.Kind {
	case impl.CInt, impl.CChar:
		return f.code(c, p)
	case impl.CLam:
		return f.form(c, c.Names, c.Kids[0], p)
	}
	return f.form(c, nil, c, p)
}

// within has the code of atoms, as it is written with their slots, within what makes them.
func (f *slowFormer) within(kids []impl.Core, p slowPlace, slots []int64, write func(slots []int64) impl.Code) impl.Code {
	if len(kids) == 0 {
		return write(slots)
	}
	follow := func(slot int64) impl.Code { return f.within(kids[1:], p, append(slices.Clip(slots), slot), write) }
	fill := func(made impl.Code) impl.Code {
		slot := *p.next
		*p.next++
		return impl.Code{Kind: impl.KLet, A: slot, Kids: []impl.Code{made, follow(slot)}}
	}
	switch kids[0].Kind {
	case impl.CVar:
		return follow(p.slots[kids[0].Name])
	case impl.CCon:
		return f.within(kids[0].Kids, p, nil, func(fields []int64) impl.Code {
			return fill(impl.Code{Kind: impl.KCon, Name: kids[0].Name, Refs: fields})
		})
	}
	return fill(f.made(kids[0], p))
}

func (f *slowFormer) code(c impl.Core, p slowPlace) impl.Code {
	switch c.Kind {
	case impl.CVar:
		return impl.Code{Kind: impl.KSlot, A: p.slots[c.Name]}
	case impl.CInt:
		return impl.Code{Kind: impl.KInt, Big: c.Big}
	case impl.CChar:
		return impl.Code{Kind: impl.KChar, Name: c.Name}
	case impl.CText:
		return impl.Code{Kind: impl.KText, Name: c.Name}
	case impl.CLam:
		made := f.made(c, p)
		_, slot := p.more("")
		return impl.Code{Kind: impl.KLet, A: slot, Kids: []impl.Code{made, {Kind: impl.KSlot, A: slot}}}
	case impl.CLet:
		inner, first := p.more(c.Names...)
		made := impl.Code{Kind: impl.KLet, A: first}
		for _, kid := range c.Kids[:len(c.Names)] {
			made.Kids = append(made.Kids, f.made(kid, inner))
		}
		made.Kids = append(made.Kids, f.code(c.Kids[len(c.Names)], inner))
		return made
	case impl.CCase:
		return f.choice(c, p)
	case impl.CApp:
		return f.within(c.Kids, p, nil, func(slots []int64) impl.Code {
			return impl.Code{Kind: impl.KApp, A: slots[0], Refs: slots[1:]}
		})
	case impl.CCon:
		return f.within(c.Kids, p, nil, func(slots []int64) impl.Code {
			return impl.Code{Kind: impl.KCon, Name: c.Name, Refs: slots}
		})
	}
	if c.Name == "primSeq" {
		return f.choice(impl.Core{Kids: c.Kids}, p)
	}
	return f.within(c.Kids, p, nil, func(slots []int64) impl.Code {
		return impl.Code{Kind: impl.KPrim, Name: c.Name, Refs: slots}
	})
}

func (f *slowFormer) choice(c impl.Core, p slowPlace) impl.Code {
	made := impl.Code{Kind: impl.KCase, A: -1, Kids: []impl.Code{f.code(c.Kids[0], p)}}
	if c.Name != "" {
		p, made.A = p.more(c.Name)
	}
	for _, alt := range c.Alts {
		inner, first := p.more(alt.Names...)
		made.Alts = append(made.Alts, impl.CodeAlt{Con: alt.Con, First: first, Count: int64(len(alt.Names)), Body: f.code(alt.Body, inner)})
	}
	if len(c.Kids) > 1 {
		made.Kids = append(made.Kids, f.code(c.Kids[1], p))
	}
	return made
}

// codeShapes has a mark for each field that a code of a kind may have: "v" name, "b" number, "a" the number A, "r" refs, "k" kids, "|" alternatives; for lists, how many.
var codeShapes = map[int64]*regexp.Regexp{
	impl.KSlot: regexp.MustCompile(`^a?$`),
	impl.KInt:  regexp.MustCompile(`^b?$`),
	impl.KChar: regexp.MustCompile(`^v$`),
	impl.KCon:  regexp.MustCompile(`^v?r*$`),
	impl.KApp:  regexp.MustCompile(`^a?r+$`),
	impl.KLet:  regexp.MustCompile(`^a?kk+$`),
	impl.KCase: regexp.MustCompile(`^a?(kk|kk?\|+)$`),
	impl.KPrim: regexp.MustCompile(`^vrr?$`),
	impl.KMake: regexp.MustCompile(`^a?r*$`),
	impl.KText: regexp.MustCompile(`^v?$`),
}

func codeShape(c impl.Code) string {
	mark := func(letter string, isHere bool) string {
		if isHere {
			return letter
		}
		return ""
	}
	return mark("B", c.B != 0) + mark("v", c.Name != "") + mark("b", c.Big.Minus || len(c.Big.Limbs) > 0) + mark("a", c.A != 0) + strings.Repeat("r", len(c.Refs)) + strings.Repeat("k", len(c.Kids)) + strings.Repeat("|", len(c.Alts))
}

// slotsNamed has all slots that a code names, but for those of codes below it.
func slotsNamed(c impl.Code) []int64 {
	list := slices.Clone(c.Refs)
	if c.Kind == impl.KSlot || c.Kind == impl.KApp || c.Kind == impl.KCase && c.A != -1 {
		list = append(list, c.A)
	}
	if c.Kind == impl.KLet {
		for i := range c.Kids[1:] {
			list = append(list, c.A+int64(i))
		}
	}
	for _, alt := range c.Alts {
		for i := range alt.Count {
			list = append(list, alt.First+i)
		}
	}
	return list
}

// belowCode has the kids of a code, then the bodies.
func belowCode(c impl.Code) []impl.Code {
	list := slices.Clone(c.Kids)
	for _, alt := range c.Alts {
		list = append(list, alt.Body)
	}
	return list
}

func codeCount(c impl.Code) int {
	count := 1
	for _, part := range belowCode(c) {
		count += codeCount(part)
	}
	return count
}

// codeShaped says whether a code is as its kind asks, with all below it; a KLet makes some kinds only.
func codeShaped(c impl.Code, form impl.Form, list []impl.Form, made bool) bool {
	shape := codeShapes[c.Kind]
	good := shape != nil && shape.MatchString(codeShape(c)) && (made || c.Kind != impl.KMake)
	if made {
		good = good && slices.Contains([]int64{impl.KMake, impl.KCon, impl.KInt, impl.KChar}, c.Kind)
	}
	if !good || slices.ContainsFunc(c.Alts, func(alt impl.CodeAlt) bool { return alt.Count < 0 || alt.First < 0 || alt.First > form.Slots }) {
		return false
	}
	if slices.ContainsFunc(slotsNamed(c), func(slot int64) bool { return slot < 0 || slot >= form.Slots }) {
		return false
	}
	switch c.Kind {
	case impl.KInt:
		good = len(c.Big.Limbs) <= 40 && (len(c.Big.Limbs) == 0 && !c.Big.Minus || len(c.Big.Limbs) > 0 && c.Big.Limbs[len(c.Big.Limbs)-1] != 0)
	case impl.KChar:
		good = len(c.Name) == 1
	case impl.KPrim:
		good = primCounts()[c.Name] == len(c.Refs)
	case impl.KMake:
		good = c.A >= 0 && c.A < int64(len(list)) && list[c.A].Free == int64(len(c.Refs))
	}
	for i, part := range belowCode(c) {
		good = good && codeShaped(part, form, list, c.Kind == impl.KLet && i < len(c.Kids)-1)
	}
	return good
}

func formFaultSlowly(list []impl.Form) int64 {
	if len(list) == 0 || len(list) > 20000 || list[0].Free != 0 || list[0].Params != 0 {
		return 1
	}
	count := 0
	for _, form := range list {
		numbers := []int64{form.Free, form.Params, form.Slots}
		if slices.Min(numbers) < 0 || slices.Max(numbers) > 20000 || form.Slots < form.Free+form.Params {
			return 1
		}
		count += codeCount(form.Body)
	}
	if count > 80000 || slices.ContainsFunc(list, func(form impl.Form) bool { return !codeShaped(form.Body, form, list, false) }) {
		return 2
	}
	return 0
}

func formatFormsSlowly(list []impl.Form) string {
	if formFaultSlowly(list) != 0 {
		return ""
	}
	var lines []string
	for i, form := range list {
		lines = append(lines, fmt.Sprintf("%d %d %d %d %s\n", i, form.Free, form.Params, form.Slots, codeWritten(form.Body)))
	}
	return strings.Join(lines, "")
}

func codeWritten(c impl.Code) string {
	slot := func(number int64) string { return fmt.Sprintf("s%d", number) }
	var words []string
	for _, ref := range c.Refs {
		words = append(words, slot(ref))
	}
	for _, kid := range c.Kids {
		words = append(words, codeWritten(kid))
	}
	in := func(ahead ...string) string { return "(" + strings.Join(append(ahead, words...), " ") + ")" }
	switch c.Kind {
	case impl.KSlot:
		return slot(c.A)
	case impl.KInt:
		return valueOf(c.Big).String()
	case impl.KChar:
		return quotedSlowly(c.Name, "'")
	case impl.KText:
		return quotedSlowly(c.Name, `"`)
	case impl.KCon:
		return in("con", c.Name)
	case impl.KPrim:
		return in("prim", c.Name)
	case impl.KApp:
		return in("app", slot(c.A))
	case impl.KLet:
		return in("let", slot(c.A))
	case impl.KMake:
		return in("make", strconv.Itoa(int(c.A)))
	}
	text := "(case " + words[0] + " " + slot(c.A)
	if c.A == -1 {
		text = "(case " + words[0] + " -"
	}
	for _, alt := range c.Alts {
		text += fmt.Sprintf(" { %s %s %d %s }", alt.Con, slot(alt.First), alt.Count, codeWritten(alt.Body))
	}
	for _, word := range words[1:] {
		text += " _ " + word
	}
	return text + ")"
}

// checkForms holds the forms of a term against the second reading, and all that is told of them.
func checkForms(t *testing.T, c impl.Core) []impl.Form {
	t.Helper()
	got, want := impl.FormsOf(c), formsSlowly(c)
	if formsText(got) != formsText(want) {
		t.Errorf("%s has the forms\n%snot\n%s", shortCore(c), formatFormsSlowly(got), formatFormsSlowly(want))
	}
	checkFormsTold(t, got)
	if len(got) > 0 && impl.FormFault(got) != 0 {
		t.Errorf("the forms of %s have the fault %d", shortCore(c), impl.FormFault(got))
	}
	return got
}

// checkFormsTold holds what is told of forms against the second reading.
func checkFormsTold(t *testing.T, list []impl.Form) int64 {
	t.Helper()
	fault := formFaultSlowly(list)
	if got := impl.FormFault(list); got != fault {
		t.Errorf("%s has the fault %d, not %d", formsText(list), got, fault)
	}
	if got, want := impl.FormatForms(list), formatFormsSlowly(list); got != want {
		t.Errorf("%s is written\n%snot\n%s", formsText(list), got, want)
	}
	return fault
}

// A formsRow has a term, and its forms as they are written.
type formsRow struct{ term, forms string }

func checkFormsRows(t *testing.T, rows []formsRow) {
	t.Helper()
	for _, row := range rows {
		c := readCore(row.term)
		got := impl.FormsOf(c)
		if impl.FormatForms(got) != row.forms || formsText(got) != formsText(readForms(row.forms)) {
			t.Errorf("%s has the forms\n%snot\n%s", row.term, impl.FormatForms(got), row.forms)
		}
		checkForms(t, c)
	}
}
