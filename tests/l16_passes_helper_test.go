package tests

import (
	"fmt"
	"slices"
	"strings"
	"testing"

	"loop.example/g00017/impl"
)

// A second reading of the chapter: terms are never changed but made anew, names are looked up in lists, and the first place is sought from the whole term on behind each change.

func freshSlowly(name string, avoid []string) string {
	for name += "'"; slices.Contains(avoid, name); name += "'" {
	}
	return name
}

// namesSlowly has all names of a term with those that stand at several places again.
func namesSlowly(c impl.Core) []string {
	var list []string
	if (c.Kind == impl.CVar || c.Kind == impl.CCase) && c.Name != "" {
		list = append(list, c.Name)
	}
	list = append(list, c.Names...)
	for _, kid := range c.Kids {
		list = append(list, namesSlowly(kid)...)
	}
	for _, alt := range c.Alts {
		list = append(append(list, alt.Names...), namesSlowly(alt.Body)...)
	}
	return list
}

func allNamesSlowly(c impl.Core) []string {
	if coreFaultSlowly(c) != 0 {
		return nil
	}
	var list []string
	for _, name := range namesSlowly(c) {
		if !slices.Contains(list, name) {
			list = append(list, name)
		}
	}
	return list
}

// freeWithin has the names that stand free in terms, at each place.
func freeWithin(terms ...impl.Core) []string {
	var list []string
	for i := range terms {
		eachFree(&terms[i], nil, func(v *impl.Core) { list = append(list, v.Name) })
	}
	return list
}

// replaced has other names for variables that stand free.
func replaced(c impl.Core, from, to string) impl.Core {
	own := cloneCore(c)
	eachFree(&own, nil, func(v *impl.Core) {
		if v.Name == from {
			v.Name = to
		}
	})
	return own
}

// A binder has names, and the terms in their reach.
type binder struct {
	names []string
	reach []impl.Core
}

func (b binder) clone() binder {
	own := binder{names: slices.Clone(b.names)}
	for _, c := range b.reach {
		own.reach = append(own.reach, cloneCore(c))
	}
	return own
}

// renamed has new names for those that are caught, avoiding some at first and each new one.
func (b binder) renamed(caught []string, avoid ...string) binder {
	own := b.clone()
	for i, name := range own.names {
		if slices.Contains(caught, name) {
			to := freshSlowly(name, avoid)
			avoid = append(avoid, to)
			own.names[i] = to
			for at := range own.reach {
				own.reach[at] = replaced(own.reach[at], name, to)
			}
		}
	}
	return own
}

func substSlowly(c impl.Core, name string, by impl.Core) impl.Core {
	if coreFaultSlowly(c) != 0 || coreFaultSlowly(by) != 0 {
		return c
	}
	terms, names, _ := coreMeasures(by)
	if places := len(freeWithin(c)); places*(terms+names) > 1000000 {
		panic("too much for the second reading")
	}
	made := putSlowly(c, name, by)
	if coreFaultSlowly(made) != 0 {
		return c
	}
	return made
}

func putSlowly(c impl.Core, name string, by impl.Core) impl.Core {
	if !slices.Contains(freeWithin(c), name) {
		return cloneCore(c)
	}
	if c.Kind == impl.CVar {
		return cloneCore(by)
	}
	under := func(b binder) binder {
		if !slices.Contains(b.names, name) && slices.Contains(freeWithin(b.reach...), name) {
			avoid := append(namesSlowly(by), name)
			avoid = append(avoid, b.names...)
			for _, part := range b.reach {
				avoid = append(avoid, namesSlowly(part)...)
			}
			b = b.renamed(freeWithin(by), avoid...)
			for i := range b.reach {
				b.reach[i] = putSlowly(b.reach[i], name, by)
			}
		}
		return b.clone()
	}
	if c.Kind == impl.CCase {
		return putInCase(c, name, by, under)
	}
	own := cloneCore(c)
	inside := under(binder{c.Names, c.Kids})
	own.Names, own.Kids = inside.names, inside.reach
	return own
}

func putInCase(c impl.Core, name string, by impl.Core, under func(binder) binder) impl.Core {
	own := cloneCore(c)
	behind := cloneCore(c)
	behind.Kids[0] = coreInt(0)
	behind.Name = ""
	if c.Name != "" && c.Name != name && slices.Contains(freeWithin(behind), name) && slices.Contains(freeWithin(by), c.Name) {
		own.Name = freshSlowly(c.Name, slices.Concat(namesSlowly(by), namesSlowly(c), []string{name}))
		behind = replaced(behind, c.Name, own.Name)
	}
	own.Alts = behind.Alts
	own.Kids[0] = putSlowly(c.Kids[0], name, by)
	if c.Name == name {
		return own
	}
	for i, kid := range behind.Kids[1:] {
		own.Kids[1+i] = putSlowly(kid, name, by)
	}
	for i, alt := range behind.Alts {
		inside := under(binder{alt.Names, []impl.Core{alt.Body}})
		own.Alts[i].Names, own.Alts[i].Body = inside.names, inside.reach[0]
	}
	return own
}

// letSlowly lets names be terms around another one.
func letSlowly(names []string, terms []impl.Core, in impl.Core) impl.Core {
	if len(names) == 0 {
		return cloneCore(in)
	}
	avoid := append(namesSlowly(in), names...)
	for _, c := range terms {
		avoid = append(avoid, namesSlowly(c)...)
	}
	inside := binder{names, []impl.Core{in}}.renamed(freeWithin(terms...), avoid...)
	return impl.Core{Kind: impl.CLet, Names: inside.names, Kids: append(slices.Clone(terms), inside.reach...)}
}

func betaSlowly(c impl.Core) (impl.Core, bool) {
	if c.Kind != impl.CApp || c.Kids[0].Kind != impl.CLam {
		return c, false
	}
	names, body, args := c.Kids[0].Names, c.Kids[0].Kids[0], c.Kids[1:]
	switch {
	case len(names) == len(args):
		return letSlowly(names, args, body), true
	case len(names) > len(args):
		rest := impl.Core{Kind: impl.CLam, Names: names[len(args):], Kids: []impl.Core{body}}
		return letSlowly(names[:len(args)], args, rest), true
	}
	left := args[len(names):]
	inside := binder{names, []impl.Core{body}}.renamed(freeWithin(left...), namesSlowly(c)...)
	return letSlowly(inside.names, args[:len(names)], coreApp(append(inside.reach, left...)...)), true
}

// isOneOf answers whether a term is of one of some kinds.
func isOneOf(c impl.Core, kinds ...int64) bool { return slices.Contains(kinds, c.Kind) }

func knownSlowly(c impl.Core) (impl.Core, bool) {
	if c.Kind == impl.CCase && isOneOf(c.Kids[0], impl.CCon, impl.CInt, impl.CChar, impl.CLam) {
		return knownCaseSlowly(c)
	}
	if c.Kind != impl.CPrim {
		return c, false
	}
	if c.Name == "primSeq" {
		return c.Kids[1], isOneOf(c.Kids[0], impl.CCon, impl.CInt, impl.CChar, impl.CLam)
	}
	for _, kid := range c.Kids {
		if !isOneOf(kid, impl.CInt, impl.CChar) {
			return c, false
		}
	}
	return workedOut(c)
}

// workedOut has what a prim comes to by the second reading of the meaning, unless it is an end.
func workedOut(c impl.Core) (made impl.Core, holds bool) {
	if c.Name == "primShow" || c.Name == "primError" {
		return c, false
	}
	defer func() {
		if _, ended := recover().(meanEnd); ended {
			made, holds = c, false
		}
	}()
	v := (&meanRun{most: 100}).work(&c, nil)
	switch {
	case v.number != nil:
		return impl.Core{Kind: impl.CInt, Big: bigFrom(v.number)}, true
	case v.char != "":
		return coreChar(v.char), true
	}
	return coreCon(v.con), true
}

func knownCaseSlowly(c impl.Core) (impl.Core, bool) {
	looked := c.Kids[0]
	for _, alt := range c.Alts {
		if looked.Kind != impl.CCon || alt.Con != looked.Name || len(alt.Names) != len(looked.Kids) {
			continue
		}
		body := alt.Body
		if c.Name != "" && !slices.Contains(alt.Names, c.Name) && slices.Contains(freeWithin(body), c.Name) {
			var fields []impl.Core
			for _, name := range alt.Names {
				fields = append(fields, coreVar(name))
			}
			body = coreLet(c.Name, coreCon(alt.Con, fields...), body)
		}
		return letSlowly(alt.Names, looked.Kids, body), true
	}
	if len(c.Kids) == 1 {
		return c, false
	}
	if slices.Contains(freeWithin(c.Kids[1]), c.Name) {
		return letSlowly([]string{c.Name}, []impl.Core{looked}, c.Kids[1]), true
	}
	return c.Kids[1], true
}

func deadSlowly(c impl.Core) (impl.Core, bool) {
	if c.Kind != impl.CLet {
		return c, false
	}
	last := len(c.Names)
	led := freeWithin(c.Kids[last])
	for range c.Names {
		for i, name := range c.Names {
			if slices.Contains(led, name) {
				led = append(led, freeWithin(c.Kids[i])...)
			}
		}
		slices.Sort(led)
		led = slices.Compact(led)
	}
	made := impl.Core{Kind: impl.CLet}
	for i, name := range c.Names {
		if slices.Contains(led, name) {
			made.Names, made.Kids = append(made.Names, name), append(made.Kids, c.Kids[i])
		}
	}
	if len(made.Names) == 0 {
		return c.Kids[last], true
	}
	made.Kids = append(made.Kids, c.Kids[last])
	return made, len(made.Names) < last
}

// countOf counts a name where it stands free.
func countOf(c impl.Core, name string) int {
	count := 0
	for _, one := range freeWithin(c) {
		if one == name {
			count++
		}
	}
	return count
}

// withoutLams has a number in the place of each CLam.
func withoutLams(c impl.Core) impl.Core {
	own := cloneCore(c)
	for _, part := range coreParts(&own) {
		if part.Kind == impl.CLam {
			*part = coreInt(0)
		}
	}
	return own
}

// letsOneSlowly answers whether a term is a CLet of one name that does not stand free in its kid.
func letsOneSlowly(c impl.Core) bool {
	return c.Kind == impl.CLet && len(c.Names) == 1 && countOf(c.Kids[0], c.Names[0]) == 0
}

func inlineSlowly(c impl.Core) (impl.Core, bool) {
	if !letsOneSlowly(c) {
		return c, false
	}
	name, kid, last := c.Names[0], c.Kids[0], c.Kids[1]
	isSmall := isOneOf(kid, impl.CVar, impl.CInt, impl.CChar) || kid.Kind == impl.CCon && len(kid.Kids) == 0
	if !isSmall && (countOf(last, name) != 1 || countOf(withoutLams(last), name) != 1) {
		return c, false
	}
	return putSlowly(last, name, kid), true
}

func floatSlowly(c impl.Core) (impl.Core, bool) {
	if !isOneOf(c, impl.CApp, impl.CCase) || c.Kids[0].Kind != impl.CLet {
		return c, false
	}
	around := cloneCore(c)
	around.Kids[0] = coreInt(0)
	inner := binder{c.Kids[0].Names, c.Kids[0].Kids}.renamed(freeWithin(around), namesSlowly(c)...)
	last := len(inner.names)
	around.Kids[0] = inner.reach[last]
	return impl.Core{Kind: impl.CLet, Names: inner.names, Kids: append(inner.reach[:last:last], around)}, true
}

// strictSlowly answers whether a term is strict in a name.
func strictSlowly(c impl.Core, name string) bool {
	oneIs := func(kid impl.Core) bool { return strictSlowly(kid, name) }
	switch c.Kind {
	case impl.CVar:
		return c.Name == name
	case impl.CApp:
		return oneIs(c.Kids[0])
	case impl.CPrim:
		return c.Name == "primError" || slices.ContainsFunc(c.Kids, oneIs)
	case impl.CLet:
		if slices.Contains(c.Names, name) {
			return false
		}
		return slices.ContainsFunc(askedSlowly(c), oneIs)
	case impl.CCase:
		if oneIs(c.Kids[0]) {
			return true
		}
		holds := c.Name == "" || c.Name != name
		for _, alt := range c.Alts {
			holds = holds && !slices.Contains(alt.Names, name) && oneIs(alt.Body)
		}
		return holds && (len(c.Kids) == 1 || oneIs(c.Kids[1]))
	}
	return false
}

// askedSlowly has the last kid of a CLet, and the kids of those of its names that are surely asked for.
func askedSlowly(c impl.Core) []impl.Core {
	last := len(c.Names)
	asked := []impl.Core{c.Kids[last]}
	in := make([]bool, last)
	for i := 0; i < len(asked); i++ {
		for at, name := range c.Names {
			if !in[at] && strictSlowly(asked[i], name) {
				in[at] = true
				asked = append(asked, c.Kids[at])
			}
		}
	}
	return asked
}

func strictPassSlowly(c impl.Core) (impl.Core, bool) {
	if !letsOneSlowly(c) || isOneOf(c.Kids[0], impl.CVar, impl.CInt, impl.CChar, impl.CCon, impl.CLam) || !strictSlowly(c.Kids[1], c.Names[0]) {
		return c, false
	}
	return coreCase(c.Names[0], c.Kids), true
}

type slowRule func(impl.Core) (impl.Core, bool)

var slowPasses = map[int64]slowRule{
	impl.PassBeta:   betaSlowly,
	impl.PassKnown:  knownSlowly,
	impl.PassDead:   deadSlowly,
	impl.PassInline: inlineSlowly,
	impl.PassFloat:  floatSlowly,
	impl.PassStrict: strictPassSlowly,
}

// changeFirst does a rule at the first place where it applies.
func changeFirst(c impl.Core, rule slowRule) (impl.Core, bool) {
	if made, applies := rule(c); applies {
		return made, true
	}
	for i := range c.Kids {
		if made, applies := changeFirst(c.Kids[i], rule); applies {
			c.Kids = slices.Clone(c.Kids)
			c.Kids[i] = made
			return c, true
		}
	}
	for i := range c.Alts {
		if made, applies := changeFirst(c.Alts[i].Body, rule); applies {
			c.Alts = slices.Clone(c.Alts)
			c.Alts[i].Body = made
			return c, true
		}
	}
	return c, false
}

// passSlowly has what a pass makes of a term without fault, and how often its rule was done.
func passSlowly(c impl.Core, p int64) (impl.Core, int) {
	now, applies, times := c, true, 0
	for applies && times < 5000 {
		if now, applies = changeFirst(now, slowPasses[p]); applies {
			times++
		}
	}
	if coreFaultSlowly(now) != 0 {
		now = c
	}
	return now, times
}

func passesSlowly(c impl.Core, list []int64) impl.CoreResult {
	if coreFaultSlowly(c) != 0 {
		return impl.CoreResult{Code: 1}
	}
	if len(list) > 40 {
		return impl.CoreResult{Code: 3}
	}
	for _, p := range list {
		if slowPasses[p] == nil {
			return impl.CoreResult{Code: 2}
		}
	}
	for _, p := range list {
		c, _ = passSlowly(c, p)
	}
	return impl.CoreResult{Core: c}
}

func passedText(r impl.CoreResult) string { return fmt.Sprint(r.Code, " ", coreText(r.Core)) }

// shortCore tells a term as it is written, or all of it if it has a fault.
func shortCore(c impl.Core) string {
	if coreFaultSlowly(c) != 0 {
		return coreText(c)
	}
	return coreWritten(c)
}

// checkPasses holds each pass of a term against the second reading, and answers how often a rule was done.
func checkPasses(t *testing.T, c impl.Core) int {
	t.Helper()
	sum := 0
	for p := range int64(len(slowPasses)) {
		want, times := passSlowly(c, p+1)
		got := impl.RunPass(c, p+1)
		sum += times
		if got.Code != 0 || coreText(got.Core) != coreText(want) {
			t.Errorf("%s makes of %s\n%s, not\n%s", impl.PassName(p+1), shortCore(c), shortCore(got.Core), shortCore(want))
		}
	}
	return sum
}

// A passRow has a term, and what a pass makes of it: "-" if it stays.
type passRow struct{ from, to string }

func checkPassRows(t *testing.T, p int64, rows []passRow) {
	t.Helper()
	for _, row := range rows {
		c := readCore(row.from)
		want := row.to
		if want == "-" {
			want = coreWritten(c)
		}
		got := impl.RunPass(c, p)
		if text := impl.FormatCore(got.Core); got.Code != 0 || text != want {
			t.Errorf("%s makes of %s\n%s (code %d), not\n%s", impl.PassName(p), row.from, text, got.Code, want)
		}
		checkPasses(t, c)
	}
}

// quotes has a name with so many ' more.
func quotes(name string, count int) string { return name + strings.Repeat("'", count) }
