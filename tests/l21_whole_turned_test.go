package tests

import (
	"math/rand/v2"
	"slices"
	"strings"
	"sync"
	"testing"

	"loop.example/g00017/impl"
)

// withWholes draws programs, several at the same time, half of which leave nothing out.
func withWholes(t *testing.T, seed uint64, count int, look func(m *wholeMaker, texts []string)) {
	var all sync.WaitGroup
	for worker := range uint64(8) {
		all.Go(func() {
			m := newWholeMaker(seed*100 + worker)
			for i := range count {
				m.isSure = i%2 == 0
				look(m, m.program(t))
			}
		})
	}
	all.Wait()
}

// A relayer writes a text with braces as one with layout.
type relayer struct {
	*rand.Rand
	text    strings.Builder
	columns []int // of the blocks that are open, -1 of those with braces
	isFirst bool  // the next token is that of its line
}

// relaid has a printed text with layout, with comments and lines put in where they turn nothing.
func relaid(r *rand.Rand, text string) string {
	w := relayer{Rand: r, isFirst: true}
	w.comment()
	tokens := impl.Lex(text).Tokens
	for i, token := range tokens {
		isSpecial := token.Kind == impl.TokSpecial
		switch {
		case isSpecial && token.Text == "{" && tokens[i+1].Text == "}" && tokens[i+1].Kind == impl.TokSpecial:
			w.text.WriteString(" {")
			w.columns = append(w.columns, -1)
		case isSpecial && token.Text == "{":
			w.columns = append(w.columns, w.inner()+w.IntN(3))
			w.line(0)
		case isSpecial && token.Text == ";":
			w.line(0)
		case isSpecial && token.Text == "}":
			last := len(w.columns) - 1
			if w.columns[last] < 0 {
				w.text.WriteString("}")
			}
			w.columns = w.columns[:last]
		default:
			w.put(token)
		}
	}
	w.text.WriteString("\n")
	w.comment()
	return w.text.String()
}

// inner is the least column of a block in those that are open.
func (w *relayer) inner() int {
	if len(w.columns) == 0 {
		return 0
	}
	return w.columns[len(w.columns)-1] + 1
}

// line begins a line so much further right than the block at hand.
func (w *relayer) line(more int) {
	switch w.IntN(8) {
	case 0:
		w.text.WriteString(" -- this is | a comment = { ; \"")
	case 1:
		w.text.WriteString(" {- this\n{- is -} -- one\n too -}")
	}
	w.text.WriteString("\n")
	w.comment()
	w.text.WriteString(strings.Repeat(" ", w.columns[len(w.columns)-1]+more))
	w.isFirst = true
}

// comment puts in lines without tokens.
func (w *relayer) comment() {
	w.text.WriteString([]string{"", "", "", "", "\n", "   \n", "-- a line\n", "      --- a line\n", "{- module X where\n -}\n"}[w.IntN(9)])
}

// put writes a token, at times on a line of its own, behind a comment or more than one blank.
func (w *relayer) put(token impl.Token) {
	if !w.isFirst {
		switch kind := w.IntN(30); {
		case kind == 0:
			w.text.WriteString("   ")
		case kind == 1:
			w.text.WriteString(" {- {- } -} ( -}")
		case kind == 2 && len(w.columns) > 0:
			w.line(1 + w.IntN(4))
		default:
			w.text.WriteString(" ")
		}
	}
	w.isFirst = false
	w.text.WriteString(impl.Spell(token))
}

// Layout, comments, blank lines and the order of modules turn nothing, and what is printed is the same program.
func TestWholeProgramsWrittenAnotherWay(t *testing.T) {
	t.Parallel()
	withWholes(t, 1, 3, func(m *wholeMaker, texts []string) {
		want := wholeText(checkWhole(t, texts...))
		list, _ := treesOf(texts)
		run := wholeCall{texts, nil, "in\nput\n", 200000, impl.MaxHeap}.answer()
		printed := textsOf(list, impl.Print)
		laid := textsOf(printed, func(text string) string { return relaid(m.Rand, text) })
		again, _ := treesOf(laid)
		if !slices.EqualFunc(again, list, sameSlowly) {
			t.Errorf("%s\nis read in another way than\n%s", strings.Join(laid, "\n"), strings.Join(texts, "\n"))
		}
		for _, other := range [][]string{printed, laid} {
			m.Shuffle(len(other), func(i, j int) { other[i], other[j] = other[j], other[i] })
			if got := wholeText(impl.Check(other)); got != want {
				at := 0
				for at < min(len(got), len(want)) && got[at] == want[at] {
					at++
				}
				t.Errorf("%s\nis\n%.300s\nnot\n%.300s", strings.Join(other, "\n"), got[at:], want[at:])
			}
			if got := (wholeCall{other, nil, "in\nput\n", 200000, impl.MaxHeap}).answer(); got != run {
				t.Errorf("%s\ntells %s, not %s", strings.Join(other, "\n"), shortRun(got), shortRun(run))
			}
		}
	})
}

// Where the order of modules is not told by imports, what each has is the same, and so is what is told.
func TestOrdersOfTexts(t *testing.T) {
	t.Parallel()
	texts := []string{
		"module Main where\nimport B\nimport C\nimport D\nmain = primAppend (c 1) (primAppend b (d 2))\n",
		"module B where\nimport A\nb = a + \"b\" + a\n",
		"module C where\nimport A (K, (+))\nclass K a => L a where { l :: a -> [Char] }\ninstance K Int where { k = primShow }\ninstance L Int where { l x = k x + \"l\" }\nc x = l (x : [])\ninstance L a => L [a] where { l (x : _) = l x }\ninstance K a => K [a] where { k _ = \"\" }\n",
		"module A where\ninfixr 5 +\nx + y = primAppend x y\na = \"a\"\nclass K a where { k :: a -> [Char] }\n",
		"module D where\nd 1 = \"\"\nd x = primShow x\n",
	}
	var want []string
	inEachOrder(texts, func(list []string) {
		c := checkWhole(t, list...)
		types := textsOf(c.Types, typedText)
		slices.Sort(types)
		run := wholeCall{list, nil, "", 1000, 1000}.answer()
		got := append(append(types, warningsText(c.Warnings)), shortRun(run))
		if want == nil {
			want = got
		}
		if !slices.Equal(got, want) || run.Outcome.Out != "1laba2" {
			t.Errorf("%v, not %v", got, want)
		}
	})
}

// toldFor has the schemes of a module's things as toldIn has them.
func toldFor(module impl.Node, types []impl.Typed) map[string]impl.Scheme {
	var own []impl.Typed
	for _, x := range types {
		if name, isOwn := strings.CutPrefix(x.Name, module.Name+"."); isOwn {
			own = append(own, impl.Typed{Name: "M." + name, Scheme: x.Scheme})
		}
	}
	return toldIn(module, impl.InferResult{Types: own})
}

// typeLines has the types that are told, by names, as others may come behind them with signatures.
func typeLines(c impl.CheckResult) []string { return textsOf(c.Types, typedText) }

// Each type that is told may be written ahead of the thing: all types are the same then, and what is told.
func TestToldTypesOfWholeProgramsAreSignatures(t *testing.T) {
	t.Parallel()
	var lock sync.Mutex
	signed, needs := 0, 0
	withWholes(t, 2, 3, func(m *wholeMaker, texts []string) {
		c := impl.Check(texts)
		list, _ := treesOf(texts)
		run := wholeCall{texts, nil, "in\n", 200000, impl.MaxHeap}.answer().Outcome
		check := func(texts []string) {
			got := impl.Check(texts)
			if !slices.Equal(typeLines(got), typeLines(c)) || got.Code != c.Code || got.Stage != 0 {
				t.Errorf("%s\nis\n%s\nnot\n%s", strings.Join(texts, "\n"), wholeText(got), wholeText(c))
			}
			again := wholeCall{texts, nil, "in\n", 400000, impl.MaxHeap}.answer().Outcome
			isOpen := run.End != impl.EndDone && run.End != impl.EndError
			if !isOpen && (again.End != run.End || again.Out != run.Out || again.Error != run.Error) {
				t.Errorf("%s\ntells %v, not %v", strings.Join(texts, "\n"), again, run)
			}
		}
		all := slices.Clone(texts)
		for i, n := range list {
			told := toldFor(n, c.Types)
			all[i] = impl.Print(signedBy(t, n, told))
			lock.Lock()
			signed += len(told)
			lock.Unlock()
			for name, s := range told {
				if len(s.Preds) > 0 {
					lock.Lock()
					needs++
					lock.Unlock()
				}
				if m.IntN(8) == 0 {
					one := slices.Clone(texts)
					one[i] = impl.Print(signedBy(t, n, map[string]impl.Scheme{name: s}))
					check(one)
				}
			}
		}
		check(all)
	})
	if signed < 400 || needs < 50 {
		t.Errorf("there are %d signatures, %d with needs", signed, needs)
	}
}

// Each export of each module is told with the type that Check tells, whoever declares what is in the type.
func TestInterfacesOfWholePrograms(t *testing.T) {
	t.Parallel()
	withWholes(t, 9, 3, func(m *wholeMaker, texts []string) {
		c := impl.Check(texts)
		list, _ := treesOf(texts)
		all := ""
		for _, n := range list {
			got := impl.Interface(n, c.Types)
			if want := interfaceSlowly(n, c.Types); got != want {
				t.Errorf("%s\nis told as\n%s\nnot\n%s", impl.Print(n), got, want)
			}
			all += got
		}
		// The modules export all, so that each type has its line, in the order in which they come.
		var lines []string
		for _, x := range c.Types {
			_, own, _ := strings.Cut(x.Name, ".")
			lines = append(lines, strings.ReplaceAll(asName(own), " ", "")+" :: "+impl.FormatScheme(x.Scheme)+"\n")
		}
		for line := range strings.Lines(all) {
			if len(lines) > 0 && line == lines[0] {
				lines = lines[1:]
			} else if !strings.HasPrefix(line, "data ") && !strings.HasPrefix(line, "class ") {
				t.Errorf("there is no type for %q", line)
			}
		}
		if len(lines) > 0 {
			t.Errorf("%s\nhas no line for %q", strings.Join(texts, "\n"), lines)
		}
	})
}
