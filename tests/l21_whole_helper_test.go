package tests

import (
	"fmt"
	"regexp"
	"slices"
	"strconv"
	"strings"
	"testing"

	"loop.example/g00017/impl"
)

// treesOf reads texts, or has the stage of the first one that is not read.
func treesOf(texts []string) (list []impl.Node, wrong impl.CheckResult) {
	for i, text := range texts {
		r := impl.ParseText(text)
		if r.Code != 0 {
			return nil, impl.CheckResult{Stage: 1, Code: r.Code, Name: strconv.Itoa(i)}
		}
		list = append(list, r.Tree)
	}
	return list, impl.CheckResult{}
}

// checkByParts is what Check is to answer by the functions of the chapters.
func checkByParts(texts []string) impl.CheckResult {
	list, wrong := treesOf(texts)
	if wrong.Stage != 0 {
		return wrong
	}
	if r := impl.Resolve(list); r.Code != 0 {
		return impl.CheckResult{Stage: 2, Code: r.Code, Module: r.Module, Name: r.Name}
	}
	inferred := impl.InferProgram(list)
	if inferred.Code != 0 {
		return impl.CheckResult{Stage: 3, Code: inferred.Code, Name: inferred.Name}
	}
	kind, c := impl.MainKind(inferred), impl.CoreOf(list, "Main.main")
	switch {
	case kind == 0:
		return impl.CheckResult{Stage: 4}
	case isZeroCore(c):
		return impl.CheckResult{Stage: 5}
	}
	return impl.CheckResult{Code: kind, Types: inferred.Types, Core: c, Warnings: impl.Warnings(list)}
}

// checkSlowly is what Check is to answer by the second readings of the layers.
func checkSlowly(texts []string) impl.CheckResult {
	list, wrong := treesOf(texts)
	if wrong.Stage != 0 {
		return wrong
	}
	if r := resolveSlowly(list); r.Code != 0 {
		return impl.CheckResult{Stage: 2, Code: r.Code, Module: r.Module, Name: r.Name}
	}
	inferred := inferSlowly(list)
	if inferred.Code != 0 {
		return impl.CheckResult{Stage: 3, Code: inferred.Code, Name: inferred.Name}
	}
	kind := int64(0)
	for _, x := range inferred.Types {
		if x.Name == "Main.main" {
			kind = map[string]int64{"0 []{Char}": 1, "0 ->{[]{Char} []{Char}}": 2}[schemeText(x.Scheme)]
		}
	}
	c := coreSlowly(list, "Main.main")
	switch {
	case kind == 0:
		return impl.CheckResult{Stage: 4}
	case coreFaultSlowly(c) != 0:
		return impl.CheckResult{Stage: 5}
	}
	return impl.CheckResult{Code: kind, Types: inferred.Types, Core: c, Warnings: warningsSlowly(list)}
}

// wholeText has all that is told of a program.
func wholeText(c impl.CheckResult) string {
	types := textsOf(c.Types, typedText)
	return fmt.Sprintf("%s, code %d\n%s\n%s\n%s", stageText(c), c.Code, strings.Join(types, "\n"), coreText(c.Core), warningsText(c.Warnings))
}

// stageText has a stage as Serve tells it, or nothing.
func stageText(c impl.CheckResult) string {
	if c.Stage == 0 {
		return ""
	}
	words := []string{"stage", strconv.FormatInt(c.Stage, 10), strconv.FormatInt(c.Code, 10), c.Module, c.Name}
	for i, word := range words {
		if word == "" {
			words[i] = "-"
		}
	}
	return strings.Join(words, " ")
}

// checkWhole holds what is told of texts against what the parts tell.
func checkWhole(t *testing.T, texts ...string) impl.CheckResult {
	t.Helper()
	return checkWholeBy(t, checkByParts, texts)
}

func checkWholeBy(t *testing.T, reading func([]string) impl.CheckResult, texts []string) impl.CheckResult {
	t.Helper()
	got := impl.Check(texts)
	if a, b := wholeText(got), wholeText(reading(texts)); a != b {
		t.Errorf("%.4000s\nis\n%.3000s\nnot\n%.3000s", strings.Join(texts, "\n"), a, b)
	}
	return got
}

// A wholeCall has the arguments of RunSource.
type wholeCall struct {
	texts  []string
	passes []int64
	input  string
	steps  int64
	heap   int64
}

func (c wholeCall) answer() impl.RunResult {
	return impl.RunSource(c.texts, c.passes, c.input, c.steps, c.heap)
}

// byParts is what RunSource is to answer by the functions of the chapters.
func (c wholeCall) byParts() impl.RunResult {
	checked := checkByParts(c.texts)
	passed := impl.RunPasses(checked.Core, c.passes)
	if checked.Stage != 0 || passed.Code != 0 {
		return impl.RunResult{Outcome: impl.Outcome{End: impl.EndBad}}
	}
	return impl.RunForms(impl.FormsOf(passed.Core), checked.Code, c.input, c.steps, c.heap)
}

// check holds a run against what the parts tell.
func (c wholeCall) check(t *testing.T) impl.RunResult {
	t.Helper()
	got := c.answer()
	if want := c.byParts(); got != want {
		t.Errorf("%.3000s\npasses %v, %d steps, a heap of %d\ntells %s\nnot   %s", strings.Join(c.texts, "\n"), c.passes, c.steps, c.heap, shortRun(got), shortRun(want))
	}
	return got
}

// request has the text by which Serve is asked for the same; the texts have to end with a line feed, or be empty.
func (c wholeCall) request() string {
	text := "passes"
	for _, p := range c.passes {
		text += " " + impl.PassName(p)
	}
	text += fmt.Sprintf("\nsteps %d\nheap %d\ninput %s\n", c.steps, c.heap, quotedSlowly(c.input, `"`))
	for _, one := range c.texts {
		text += "module\n" + one
	}
	return text
}

// served is what Serve is to answer where it is asked for a run.
func (c wholeCall) served() string {
	checked := checkByParts(c.texts)
	if checked.Stage != 0 {
		return stageText(checked) + "\n"
	}
	text := ""
	for _, x := range checked.Types {
		text += x.Name + " :: " + formatSchemeSlowly(x.Scheme) + "\n"
	}
	for _, w := range checked.Warnings {
		text += []string{"", "missing", "redundant"}[w.Kind] + " " + w.Name + " " + strconv.FormatInt(w.Row, 10) + "\n"
	}
	o := c.byParts().Outcome
	return text + fmt.Sprintf("out %s\nend %d %s\n", quotedSlowly(o.Out, `"`), o.End, quotedSlowly(o.Error, `"`))
}

// requestForm is what Serve may be asked by.
var requestForm = regexp.MustCompile(`^passes((?: (?:beta|known|dead|inline|float|strict))*)\nsteps (0|-?[1-9][0-9]*)\nheap (0|-?[1-9][0-9]*)\ninput "((?:[ !#-\[\]-~]|\\[n\\'"])*)"\n((?s)(?:module\n(?:.*\n)?)?)$`)

// serveSlowly is a second reading of Serve.
func serveSlowly(text string) string {
	parts := requestForm.FindStringSubmatch(text)
	if parts == nil || len(parts[4])+2 > impl.MaxSource {
		return "bad\n"
	}
	var c wholeCall
	for _, name := range strings.Fields(parts[1]) {
		c.passes = append(c.passes, int64(slices.Index(strings.Fields("beta known dead inline float strict"), name)+1))
	}
	steps, wrong := strconv.ParseInt(parts[2], 10, 64)
	heap, odd := strconv.ParseInt(parts[3], 10, 64)
	if wrong != nil || odd != nil {
		return "bad\n"
	}
	c.steps, c.heap = steps, heap
	c.input = strings.NewReplacer(`\n`, "\n", `\\`, `\`, `\'`, "'", `\"`, `"`).Replace(parts[4])
	for _, line := range strings.SplitAfter(parts[5], "\n") {
		if line == "module\n" {
			c.texts = append(c.texts, "")
		} else if line != "" {
			c.texts[len(c.texts)-1] += line
		}
	}
	return c.served()
}

// checkServed holds an answer of Serve against the second reading.
func checkServed(t *testing.T, text string) string {
	t.Helper()
	got, want := impl.Serve(text), serveSlowly(text)
	if got != want {
		t.Errorf("%.2000q\nis answered with\n%.2000s\nnot\n%.2000s", text, got, want)
	}
	return got
}

// inMain has a module Main of lines.
func inMain(lines string) string { return "module Main where\n" + lines + "\n" }
