package tests

import (
	"fmt"
	"math/rand/v2"
	"regexp"
	"slices"
	"strconv"
	"strings"
	"testing"

	"loop.example/g00017/impl"
)

func coreVar(name string) impl.Core { return impl.Core{Kind: impl.CVar, Name: name} }

func coreInt(v int64) impl.Core { return impl.Core{Kind: impl.CInt, Big: impl.BigOf(v)} }

func coreChar(text string) impl.Core { return impl.Core{Kind: impl.CChar, Name: text} }

func coreString(text string) impl.Core { return impl.Core{Kind: impl.CText, Name: text} }

func coreCon(name string, kids ...impl.Core) impl.Core {
	return impl.Core{Kind: impl.CCon, Name: name, Kids: kids}
}

func coreApp(kids ...impl.Core) impl.Core { return impl.Core{Kind: impl.CApp, Kids: kids} }

func corePrim(name string, kids ...impl.Core) impl.Core {
	return impl.Core{Kind: impl.CPrim, Name: name, Kids: kids}
}

// coreLam has names with blanks between.
func coreLam(names string, body impl.Core) impl.Core {
	return impl.Core{Kind: impl.CLam, Names: strings.Fields(names), Kids: []impl.Core{body}}
}

func coreLet(names string, kids ...impl.Core) impl.Core {
	return impl.Core{Kind: impl.CLet, Names: strings.Fields(names), Kids: kids}
}

// coreCase has what is looked at, or that and a default, and the alternatives.
func coreCase(name string, kids []impl.Core, alts ...impl.CoreAlt) impl.Core {
	return impl.Core{Kind: impl.CCase, Name: name, Kids: kids, Alts: alts}
}

// coreAlt has a constructor and names with blanks between.
func coreAlt(head string, body impl.Core) impl.CoreAlt {
	words := strings.Fields(head)
	return impl.CoreAlt{Con: words[0], Names: words[1:], Body: body}
}

// A coreReader reads terms as they are written, if names are plain: constructors begin with a capital, ':' or '[', prims with "prim".
type coreReader struct{ words []string }

func readCore(text string) impl.Core {
	pattern := regexp.MustCompile(`"(?:\\.|[^"\\])*"|'(?:\\.|[^'\\])*'|[(){};\\]|[^\s(){};\\]+`)
	r := &coreReader{pattern.FindAllString(text, -1)}
	c := r.term()
	if len(r.words) > 0 {
		panic(text + " goes on")
	}
	return c
}

func (r *coreReader) next() string {
	word := r.words[0]
	r.words = r.words[1:]
	return word
}

// until reads what stands ahead of a word, and the word.
func (r *coreReader) until(end string) []string {
	at := slices.Index(r.words, end)
	list := r.words[:at:at]
	r.words = r.words[at+1:]
	return list
}

func (r *coreReader) terms() []impl.Core {
	var list []impl.Core
	for r.words[0] != ")" {
		list = append(list, r.term())
	}
	r.next()
	return list
}

func (r *coreReader) term() impl.Core {
	word := r.next()
	if word != "(" {
		return readLeaf(word)
	}
	switch first := r.words[0]; {
	case first == "\\":
		r.next()
		names := r.until("->")
		return impl.Core{Kind: impl.CLam, Names: names, Kids: r.terms()}
	case first == "let":
		return r.let()
	case first == "case":
		return r.choice()
	case readLeaf(first).Kind == impl.CCon:
		return impl.Core{Kind: impl.CCon, Name: r.next(), Kids: r.terms()}
	case strings.HasPrefix(first, "prim"):
		return impl.Core{Kind: impl.CPrim, Name: r.next(), Kids: r.terms()}
	}
	return impl.Core{Kind: impl.CApp, Kids: r.terms()}
}

func (r *coreReader) let() impl.Core {
	made := impl.Core{Kind: impl.CLet}
	for word := r.next(); word != "in"; word = r.next() {
		made.Names = append(made.Names, r.until("=")...)
		made.Kids = append(made.Kids, r.term())
	}
	made.Kids = append(made.Kids, r.terms()...)
	return made
}

func (r *coreReader) choice() impl.Core {
	r.next()
	made := impl.Core{Kind: impl.CCase, Kids: []impl.Core{r.term()}}
	r.next()
	made.Name = strings.Join(r.until("{"), "")
	for word := ";"; word == ";"; word = r.next() {
		head := r.until("->")
		if head[0] == "_" {
			made.Kids = append(made.Kids, r.term())
			continue
		}
		made.Alts = append(made.Alts, impl.CoreAlt{Con: head[0], Names: head[1:], Body: r.term()})
	}
	r.next()
	return made
}

func readLeaf(word string) impl.Core {
	switch {
	case word[0] == '\'' || word[0] == '"':
		inner := word[1 : len(word)-1]
		text := strings.NewReplacer(`\n`, "\n", `\\`, `\`, `\'`, `'`, `\"`, `"`).Replace(inner)
		if word[0] == '"' {
			return coreString(text)
		}
		return coreChar(text)
	case strings.Contains(":[ABCDEFGHIJKLMNOPQRSTUVWXYZ", word[:1]):
		return coreCon(word)
	}
	if read := impl.BigRead(word); read.Code == 0 {
		return impl.Core{Kind: impl.CInt, Big: read.Big}
	}
	return coreVar(word)
}

// coreText tells all fields of a term, whatever is wrong with it.
func coreText(c impl.Core) string {
	var text strings.Builder
	addCoreText(&text, c)
	return text.String()
}

func addCoreText(text *strings.Builder, c impl.Core) {
	fmt.Fprintf(text, "<%d %q %v %x %q", c.Kind, c.Name, c.Big.Minus, c.Big.Limbs, c.Names)
	for _, kid := range c.Kids {
		addCoreText(text, kid)
	}
	for _, alt := range c.Alts {
		fmt.Fprintf(text, "|%q %q", alt.Con, alt.Names)
		addCoreText(text, alt.Body)
	}
	text.WriteString(">")
}

// belowCore has the kids of a term, then the bodies.
func belowCore(c impl.Core) []impl.Core {
	list := slices.Clone(c.Kids)
	for _, alt := range c.Alts {
		list = append(list, alt.Body)
	}
	return list
}

// coreMeasures has the terms, the names that count, and the levels.
func coreMeasures(c impl.Core) (terms, names, levels int) {
	terms, levels = 1, 0
	if c.Kind == impl.CLam || c.Kind == impl.CLet {
		names = len(c.Names)
	}
	for _, alt := range c.Alts {
		names += len(alt.Names)
	}
	for _, part := range belowCore(c) {
		moreTerms, moreNames, moreLevels := coreMeasures(part)
		terms, names, levels = terms+moreTerms, names+moreNames, max(levels, moreLevels)
	}
	return terms, names, levels + 1
}

func coreFaultSlowly(c impl.Core) int64 {
	terms, names, levels := coreMeasures(c)
	if terms+names > 20000 || levels > 1000 {
		return 1
	}
	if !coreShaped(c) {
		return 2
	}
	return 0
}

// coreShape has a mark for each field that a term has, and for lists how many there are: "v" name, "b" number, "n" names, "k" kids, "a" alternatives.
func coreShape(c impl.Core) string {
	mark := func(letter string, count int) string { return strings.Repeat(letter, min(count, 3)) }
	number := 0
	if c.Big.Minus || len(c.Big.Limbs) > 0 {
		number = 1
	}
	return mark("v", min(len(c.Name), 1)) + mark("b", number) + mark("n", min(len(c.Names), 1)) + mark("k", len(c.Kids)) + mark("a", min(len(c.Alts), 1))
}

var coreShapes = map[int64]*regexp.Regexp{
	impl.CVar:  regexp.MustCompile(`^v$`),
	impl.CInt:  regexp.MustCompile(`^b?$`),
	impl.CChar: regexp.MustCompile(`^v$`),
	impl.CCon:  regexp.MustCompile(`^vk*$`),
	impl.CApp:  regexp.MustCompile(`^kkk*$`),
	impl.CLam:  regexp.MustCompile(`^nk$`),
	impl.CLet:  regexp.MustCompile(`^nkk+$`),
	impl.CCase: regexp.MustCompile(`^v?(kk|ka|kka)$`),
	impl.CPrim: regexp.MustCompile(`^vkk?$`),
	impl.CText: regexp.MustCompile(`^v$`),
}

func coreShaped(c impl.Core) bool {
	shape := coreShapes[c.Kind]
	if shape == nil || !shape.MatchString(coreShape(c)) || !distinctNames(c.Names) {
		return false
	}
	cons := []string{}
	for _, alt := range c.Alts {
		cons = append(cons, alt.Con)
		if !distinctNames(alt.Names) {
			return false
		}
	}
	good := distinctNames(cons)
	switch c.Kind {
	case impl.CInt:
		good = len(c.Big.Limbs) <= 40 && (len(c.Big.Limbs) == 0 && !c.Big.Minus || len(c.Big.Limbs) > 0 && c.Big.Limbs[len(c.Big.Limbs)-1] != 0)
	case impl.CChar:
		good = len(c.Name) == 1
	case impl.CText:
		good = len(c.Name) <= 60000
	case impl.CLet:
		good = len(c.Kids) == len(c.Names)+1
	case impl.CPrim:
		good = primCounts()[c.Name] == len(c.Kids)
	}
	return good && !slices.ContainsFunc(belowCore(c), func(part impl.Core) bool { return !coreShaped(part) })
}

func distinctNames(names []string) bool {
	for i, name := range names {
		if name == "" || slices.Contains(names[:i], name) {
			return false
		}
	}
	return true
}

func primCounts() map[string]int {
	counts := map[string]int{}
	for _, name := range strings.Fields("primAdd primSub primMul primDiv primMod primEq primLess primSeq") {
		counts[name] = 2
	}
	for _, name := range strings.Fields("primOrd primChr primShow primError") {
		counts[name] = 1
	}
	return counts
}

func coreSizeSlowly(c impl.Core) int64 {
	terms, _, _ := coreMeasures(c)
	return int64(terms)
}

func formatCoreSlowly(c impl.Core) string {
	if coreFaultSlowly(c) != 0 {
		return ""
	}
	return coreWritten(c)
}

func quotedSlowly(text, mark string) string {
	return mark + strings.NewReplacer("\n", `\n`, `\`, `\\`, mark, `\`+mark).Replace(text) + mark
}

func coreWritten(c impl.Core) string {
	var words []string
	for _, kid := range c.Kids {
		words = append(words, coreWritten(kid))
	}
	switch c.Kind {
	case impl.CInt:
		return valueOf(c.Big).String()
	case impl.CChar:
		return quotedSlowly(c.Name, "'")
	case impl.CText:
		return quotedSlowly(c.Name, `"`)
	case impl.CApp:
		return "(" + strings.Join(words, " ") + ")"
	case impl.CLam:
		return `(\` + strings.Join(c.Names, " ") + " -> " + words[0] + ")"
	case impl.CLet:
		var binds []string
		for i, name := range c.Names {
			binds = append(binds, name+" = "+words[i])
		}
		return "(let " + strings.Join(binds, "; ") + " in " + words[len(binds)] + ")"
	case impl.CCase:
		var rows []string
		for _, alt := range c.Alts {
			rows = append(rows, strings.Join(append([]string{alt.Con}, alt.Names...), " ")+" -> "+coreWritten(alt.Body))
		}
		if len(words) == 2 {
			rows = append(rows, "_ -> "+words[1])
		}
		name := ""
		if c.Name != "" {
			name = c.Name + " "
		}
		return "(case " + words[0] + " of " + name + "{ " + strings.Join(rows, "; ") + " })"
	}
	if len(words) == 0 {
		return c.Name
	}
	return "(" + c.Name + " " + strings.Join(words, " ") + ")"
}

// A corePlace is a term right below another one, with the names that are bound there.
type corePlace struct {
	part  *impl.Core
	bound []string
}

// corePlaces has what is right below a term, by order of appearance.
func corePlaces(c *impl.Core) []corePlace {
	var list []corePlace
	for i := range c.Kids {
		list = append(list, corePlace{&c.Kids[i], c.Names})
	}
	if c.Kind != impl.CCase {
		return list
	}
	ordered := list[:1:1]
	for i := range c.Alts {
		ordered = append(ordered, corePlace{&c.Alts[i].Body, append([]string{c.Name}, c.Alts[i].Names...)})
	}
	for _, rest := range list[1:] {
		ordered = append(ordered, corePlace{rest.part, []string{c.Name}})
	}
	return ordered
}

// eachFree looks at the variables that stand free, by order of appearance.
func eachFree(c *impl.Core, bound []string, look func(*impl.Core)) {
	if c.Kind == impl.CVar && !slices.Contains(bound, c.Name) {
		look(c)
	}
	for _, place := range corePlaces(c) {
		eachFree(place.part, slices.Concat(bound, place.bound), look)
	}
}

func freeNamesSlowly(c impl.Core) []string {
	if coreFaultSlowly(c) != 0 {
		return nil
	}
	var names []string
	eachFree(&c, nil, func(v *impl.Core) {
		if !slices.Contains(names, v.Name) {
			names = append(names, v.Name)
		}
	})
	return names
}

func cloneCore(c impl.Core) impl.Core {
	own := impl.Core{Kind: c.Kind, Name: strings.Clone(c.Name), Big: impl.Big{Minus: c.Big.Minus, Limbs: slices.Clone(c.Big.Limbs)}}
	for _, name := range c.Names {
		own.Names = append(own.Names, strings.Clone(name))
	}
	for _, kid := range c.Kids {
		own.Kids = append(own.Kids, cloneCore(kid))
	}
	for _, alt := range c.Alts {
		made := impl.CoreAlt{Con: strings.Clone(alt.Con), Body: cloneCore(alt.Body)}
		for _, name := range alt.Names {
			made.Names = append(made.Names, strings.Clone(name))
		}
		own.Alts = append(own.Alts, made)
	}
	return own
}

func renameSlowly(c impl.Core, from, to string) impl.Core {
	own := cloneCore(c)
	if coreFaultSlowly(c) == 0 && to != "" {
		eachFree(&own, nil, func(v *impl.Core) {
			if v.Name == from {
				v.Name = to
			}
		})
	}
	return own
}

// nameless tells a term by how far away each name is bound, so that terms which differ in bound names alone are told alike; free names as they are given, or as they are.
func nameless(c impl.Core, around []string, free map[string]string) string {
	if c.Kind == impl.CVar {
		for i := len(around) - 1; i >= 0; i-- {
			if around[i] == c.Name {
				return "^" + strconv.Itoa(len(around)-i)
			}
		}
		if given, known := free[c.Name]; known {
			return given
		}
		return c.Name
	}
	text := fmt.Sprint("<", c.Kind, len(c.Names))
	switch c.Kind {
	case impl.CInt, impl.CChar, impl.CCon, impl.CPrim, impl.CText:
		text += fmt.Sprintf(" %q %v", c.Name, valueOf(c.Big))
	}
	for i := range c.Alts {
		text += fmt.Sprint(" ", c.Alts[i].Con, len(c.Alts[i].Names))
	}
	for _, place := range corePlaces(&c) {
		text += " " + nameless(*place.part, slices.Concat(around, place.bound), free)
	}
	return text + ">"
}

// A coreMaker draws terms with few names, so that many stand free and bound at once.
type coreMaker struct{ *rand.Rand }

func newCoreMaker(seed uint64) coreMaker { return coreMaker{rand.New(rand.NewPCG(13, seed))} }

func (m coreMaker) one(words string) string {
	list := strings.Fields(words)
	return list[m.IntN(len(list))]
}

// names draws some different ones.
func (m coreMaker) names(least int) []string {
	list := strings.Fields("a b c d e")
	m.Shuffle(len(list), func(i, j int) { list[i], list[j] = list[j], list[i] })
	return list[:least+m.IntN(3)]
}

func (m coreMaker) leaf() impl.Core {
	switch m.IntN(9) {
	case 0:
		return coreInt(m.Int64N(20) - 10)
	case 1:
		return impl.Core{Kind: impl.CInt, Big: impl.BigMul(impl.BigOf(m.Int64()-m.Int64()), impl.BigOf(m.Int64())).Big}
	case 2:
		return coreChar(string([]byte{byte(m.IntN(256))}))
	case 3:
		return coreString(m.one(`x " ' \ \n n\ab" é`) + "\n")
	case 4:
		return coreCon(m.one("A B [] : M.C"))
	}
	return coreVar(m.one("a b c d e"))
}

func (m coreMaker) several(count, levels int) []impl.Core {
	var list []impl.Core
	for range count {
		list = append(list, m.sound(levels))
	}
	return list
}

// sound draws a term without fault.
func (m coreMaker) sound(levels int) impl.Core {
	if levels < 2 {
		return m.leaf()
	}
	levels -= 1 + m.IntN(2)*m.IntN(2)
	switch m.IntN(8) {
	case 0:
		return m.leaf()
	case 1:
		return coreCon(m.one("A B : M.C"), m.several(m.IntN(4), levels)...)
	case 2:
		return coreApp(m.several(2+m.IntN(2), levels)...)
	case 3:
		return impl.Core{Kind: impl.CLam, Names: m.names(1), Kids: m.several(1, levels)}
	case 4:
		names := m.names(1)
		return impl.Core{Kind: impl.CLet, Names: names, Kids: m.several(len(names)+1, levels)}
	case 5:
		name := m.one("primAdd primSeq primLess primOrd primShow primError")
		return corePrim(name, m.several(primCounts()[name], levels)...)
	}
	return m.choice(levels)
}

func (m coreMaker) choice(levels int) impl.Core {
	made := impl.Core{Kind: impl.CCase, Kids: m.several(1+m.IntN(2), levels)}
	if m.IntN(2) == 0 {
		made.Name = m.one("a b c")
	}
	for _, con := range strings.Fields("A B [] :")[m.IntN(2) : 1+m.IntN(4)] {
		made.Alts = append(made.Alts, impl.CoreAlt{Con: con, Names: m.names(0), Body: m.sound(levels)})
	}
	if len(made.Alts) == 0 {
		made.Kids = m.several(2, levels)
	}
	return made
}

// coreParts has all terms of a term where they stand, itself ahead.
func coreParts(c *impl.Core) []*impl.Core {
	list := []*impl.Core{c}
	for i := range c.Kids {
		list = append(list, coreParts(&c.Kids[i])...)
	}
	for i := range c.Alts {
		list = append(list, coreParts(&c.Alts[i].Body)...)
	}
	return list
}

// spoilt changes one field of one term in a copy of a term; most often it has a fault then.
func (m coreMaker) spoilt(c impl.Core) impl.Core {
	own := cloneCore(c)
	parts := coreParts(&own)
	one := parts[m.IntN(len(parts))]
	change := oneFieldChanges()[m.IntN(len(oneFieldChanges()))]
	change.turn(one)
	return own
}

// A coreChange turns one field of a term, if it has what is to be turned.
type coreChange struct {
	name string
	turn func(*impl.Core)
}

// firstAlt turns the first alternative, if there is one.
func firstAlt(turn func(*impl.CoreAlt)) func(*impl.Core) {
	return func(c *impl.Core) {
		if len(c.Alts) > 0 {
			turn(&c.Alts[0])
		}
	}
}

// lessOne leaves out the last one, if there is one.
func lessOne[T any](list []T) []T { return list[:max(len(list)-1, 0)] }

func oneFieldChanges() []coreChange {
	leaf := coreVar("z")
	return []coreChange{
		{"kind up", func(c *impl.Core) { c.Kind++ }},
		{"kind down", func(c *impl.Core) { c.Kind-- }},
		{"name longer", func(c *impl.Core) { c.Name += "z" }},
		{"name empty", func(c *impl.Core) { c.Name = "" }},
		{"minus", func(c *impl.Core) { c.Big.Minus = !c.Big.Minus }},
		{"limb more", func(c *impl.Core) { c.Big.Limbs = append(c.Big.Limbs, 5) }},
		{"limb 0 more", func(c *impl.Core) { c.Big.Limbs = append(c.Big.Limbs, 0) }},
		{"limb less", func(c *impl.Core) { c.Big.Limbs = lessOne(c.Big.Limbs) }},
		{"names more", func(c *impl.Core) { c.Names = append(c.Names, "z") }},
		{"names empty more", func(c *impl.Core) { c.Names = append(c.Names, "") }},
		{"names twice", func(c *impl.Core) { c.Names = append(c.Names, c.Names...) }},
		{"names less", func(c *impl.Core) { c.Names = lessOne(c.Names) }},
		{"names other way", func(c *impl.Core) { slices.Reverse(c.Names) }},
		{"kid more", func(c *impl.Core) { c.Kids = append(c.Kids, leaf) }},
		{"kid less", func(c *impl.Core) { c.Kids = lessOne(c.Kids) }},
		{"kids other way", func(c *impl.Core) { slices.Reverse(c.Kids) }},
		{"alternative more", func(c *impl.Core) { c.Alts = append(c.Alts, impl.CoreAlt{Con: "Z", Body: leaf}) }},
		{"alternative empty more", func(c *impl.Core) { c.Alts = append(c.Alts, impl.CoreAlt{}) }},
		{"alternatives twice", func(c *impl.Core) { c.Alts = append(c.Alts, c.Alts...) }},
		{"alternative less", func(c *impl.Core) { c.Alts = lessOne(c.Alts) }},
		{"alternatives other way", func(c *impl.Core) { slices.Reverse(c.Alts) }},
		{"alternative's name longer", firstAlt(func(a *impl.CoreAlt) { a.Con += "z" })},
		{"alternative's name empty", firstAlt(func(a *impl.CoreAlt) { a.Con = "" })},
		{"alternative's names more", firstAlt(func(a *impl.CoreAlt) { a.Names = append(a.Names, "z") })},
		{"alternative's names empty more", firstAlt(func(a *impl.CoreAlt) { a.Names = append(a.Names, "") })},
		{"alternative's names twice", firstAlt(func(a *impl.CoreAlt) { a.Names = append(a.Names, a.Names...) })},
		{"alternative's names less", firstAlt(func(a *impl.CoreAlt) { a.Names = lessOne(a.Names) })},
	}
}

// severalCores draws terms with faults and without.
func severalCores() []impl.Core {
	m := newCoreMaker(1)
	list := append([]impl.Core{{}}, plainCores()...)
	for i := range 400 {
		c := m.sound(2 + i%5)
		list = append(list, c, m.spoilt(c))
	}
	return list
}

// plainCores has a term of each kind in each of its forms.
func plainCores() []impl.Core {
	var list []impl.Core
	for _, text := range []string{"x", "0", "-12", "'c'", `"t"`, "C", "(C x)", "(C x y z)", "(f x)", "(f x y)", `(\x -> x)`, `(\x y -> x)`, "(let x = y in x)", "(let x = y; y = x in z)", "(case x of { A -> x })", "(case x of q { A a b -> a; B -> q })", "(case x of { _ -> y })", "(case x of q { _ -> q })", "(case x of q { A a -> a; _ -> q })", "(primAdd x 1)", "(primSeq x y)", "(primError x)"} {
		list = append(list, readCore(text))
	}
	return list
}

// checkCore holds all functions of a term against the second reading.
func checkCore(t *testing.T, c impl.Core) {
	t.Helper()
	if got, want := impl.CoreFault(c), coreFaultSlowly(c); got != want {
		t.Errorf("%s has the fault %d, not %d", coreText(c), got, want)
	}
	if got, want := impl.CoreSize(c), coreSizeSlowly(c); got != want {
		t.Errorf("%s has the size %d, not %d", coreText(c), got, want)
	}
	if got, want := impl.FormatCore(c), formatCoreSlowly(c); got != want {
		t.Errorf("%s is written %s, not %s", coreText(c), got, want)
	}
	if got, want := impl.FreeNames(c), freeNamesSlowly(c); !slices.Equal(got, want) {
		t.Errorf("%s has the free names %q, not %q", coreText(c), got, want)
	}
	turns := [][2]string{{"x", "a"}, {"a", "b"}, {"b", "z"}, {"c", "c"}, {"d", ""}, {"", "a"}, {"A", "B"}, {"primAdd", "a"}}
	if coreSizeSlowly(c) > 500 {
		turns = turns[:1]
	}
	for _, names := range turns {
		if got, want := impl.Rename(c, names[0], names[1]), renameSlowly(c, names[0], names[1]); coreText(got) != coreText(want) {
			t.Errorf("%s with %q as %q is %s, not %s", coreText(c), names[0], names[1], coreText(got), coreText(want))
		}
	}
}
