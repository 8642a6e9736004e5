package tests

import (
	"cmp"
	"math/rand/v2"
	"slices"
	"strings"
	"sync"
	"testing"
	"unsafe"

	"loop.example/g00017/impl"
)

// severalTokenLists has lists with each code.
func severalTokenLists() [][]impl.Token {
	r, g := rand.New(rand.NewPCG(5, 5)), newSlowGrammar()
	lists := [][]impl.Token{nil, {}, strangeTokens(), otherTokens(), someTokens()}
	for _, text := range append(append(severalModules(), someModules()...), "module M where { x = 1 ; import A }", "module M where { x = }") {
		lists = append(lists, impl.Layout(impl.Lex(text).Tokens))
	}
	for range 100 {
		lists = append(lists, randomModule(r, g, 8))
	}
	return lists
}

func cloneTokens(tokens []impl.Token) []impl.Token {
	own := slices.Clone(tokens)
	for i := range own {
		own[i].Text = strings.Clone(own[i].Text)
	}
	return own
}

func sameParse(a, b impl.ParseResult) bool {
	return a.Code == b.Code && sameSlowly(a.Tree, b.Tree)
}

func TestParsingChangesNothing(t *testing.T) {
	behind := []impl.Token{token(impl.TokOp, "+"), token(impl.TokName, "behind")}
	for _, tokens := range severalTokenLists() {
		room := append(cloneTokens(tokens), behind...)
		got := impl.ParseTokens(room[:len(tokens)])
		if !slices.Equal(room[:len(tokens)], tokens) || !slices.Equal(room[len(tokens):], behind) {
			t.Errorf("%s is changed", shown(tokens))
		}
		if !sameParse(got, impl.ParseTokens(tokens)) || !sameParse(got, impl.ParseTokens(slices.Clip(tokens))) {
			t.Errorf("%s hangs on what stands behind it", shown(tokens))
		}
	}
}

// eachNode goes through a tree.
func eachNode(n impl.Node, look func(impl.Node)) {
	look(n)
	for _, kid := range n.Kids {
		eachNode(kid, look)
	}
}

func TestTreesKeepNothingOfTheTokens(t *testing.T) {
	for _, tokens := range severalTokenLists() {
		own := cloneTokens(tokens)
		eachNode(impl.ParseTokens(own).Tree, func(n impl.Node) {
			for _, tok := range own {
				if within(n.Name, tok.Text) || within(tok.Text, n.Name) {
					t.Errorf("%q lies in a token's text", n.Name)
				}
			}
		})
	}
	for _, text := range someModules() {
		own := strings.Clone(text)
		tree := impl.ParseText(own).Tree
		eachNode(tree, func(n impl.Node) {
			if within(n.Name, own) {
				t.Errorf("%q lies in the text", n.Name)
			}
			if printed := impl.Print(tree); within(n.Name, printed) || within(printed, n.Name) {
				t.Errorf("%q lies in what is printed", n.Name)
			}
		})
	}
}

// spoilLists writes over all lists of a tree, and over the room that they could grow into.
func spoilLists(n impl.Node) {
	for _, kid := range n.Kids {
		spoilLists(kid)
	}
	room := n.Kids[:cap(n.Kids)]
	for i := range room {
		room[i] = tree(-9, "spoilt")
	}
}

// listsApart says whether no two lists of a tree share memory, not even the room behind them.
func listsApart(n impl.Node) bool {
	type span struct{ from, to uintptr }
	var spans []span
	eachNode(n, func(inner impl.Node) {
		if cap(inner.Kids) > 0 {
			from := uintptr(unsafe.Pointer(unsafe.SliceData(inner.Kids)))
			spans = append(spans, span{from, from + uintptr(cap(inner.Kids))*unsafe.Sizeof(impl.Node{})})
		}
	})
	slices.SortFunc(spans, func(a, b span) int { return cmp.Compare(a.from, b.from) })
	for i := 1; i < len(spans); i++ {
		if spans[i].from < spans[i-1].to {
			return false
		}
	}
	return true
}

func TestListsOfTreesAreApart(t *testing.T) {
	for _, tokens := range severalTokenLists() {
		if !listsApart(impl.ParseTokens(tokens).Tree) {
			t.Errorf("%s: two lists share memory", shown(tokens))
		}
	}
}

func TestTreesAreNewMemory(t *testing.T) {
	for _, tokens := range severalTokenLists() {
		own := cloneTokens(tokens)
		first := impl.ParseTokens(own)
		want := impl.ParseResult{Code: first.Code, Tree: cloneTree(first.Tree)}
		spoilLists(first.Tree)
		if !slices.Equal(own, tokens) {
			t.Errorf("%s shares memory with its tree", shown(tokens))
		}
		if again := impl.ParseTokens(own); !sameParse(again, want) {
			t.Errorf("%s is read another way behind a change of its tree", shown(tokens))
		}
	}
	for _, text := range append(severalModules(), someModules()...) {
		first := impl.ParseText(text)
		want := impl.ParseResult{Code: first.Code, Tree: cloneTree(first.Tree)}
		spoilLists(first.Tree)
		if again := impl.ParseText(text); !sameParse(again, want) {
			t.Errorf("%q is read another way behind a change of its tree", text)
		}
	}
}

func TestPrintingChangesNothing(t *testing.T) {
	m := treeMaker{rand.New(rand.NewPCG(5, 6))}
	for round := range 500 {
		n := m.module(round % 6)
		if round%10 == 0 {
			n.Name = "none"
		}
		own := roomyTree(n)
		got := impl.Print(own)
		if !sameSlowly(own, n) || !roomKept(own) {
			t.Errorf("%s is changed", kinded(n))
		}
		if got != impl.Print(n) || got != impl.Print(cloneTree(n)) {
			t.Errorf("%s is printed another way", kinded(n))
		}
	}
}

// With a code there is no tree.
func TestCodesStandAlone(t *testing.T) {
	for _, tokens := range severalTokenLists() {
		if got := impl.ParseTokens(tokens); got.Code != 0 && (got.Tree.Kind != 0 || got.Tree.Name != "" || len(got.Tree.Kids) > 0) {
			t.Errorf("%s has code %d and a tree", shown(tokens), got.Code)
		} else if got.Code == 0 && (impl.NodeFault(got.Tree) != 0 || got.Tree.Kind != impl.DModule) {
			t.Errorf("%s has no code and no module", shown(tokens))
		}
	}
}

// Calls at the same time and in any order answer alike.
func TestParsingHangsOnArgumentsAlone(t *testing.T) {
	lists, texts := severalTokenLists(), append(severalModules(), someModules()...)
	var read, readTexts []impl.ParseResult
	var printed []string
	for _, tokens := range lists {
		read = append(read, impl.ParseTokens(tokens))
	}
	for _, text := range texts {
		got := impl.ParseText(text)
		readTexts, printed = append(readTexts, got), append(printed, impl.Print(got.Tree))
	}
	var all sync.WaitGroup
	for worker := range 8 {
		all.Go(func() {
			for i := range lists {
				at := (i*7 + worker) % len(lists)
				if !sameParse(impl.ParseTokens(lists[at]), read[at]) {
					t.Errorf("%s is read another way", shown(lists[at]))
				}
			}
			for i := range texts {
				at := (i*5 + worker) % len(texts)
				if !sameParse(impl.ParseText(texts[at]), readTexts[at]) || impl.Print(readTexts[at].Tree) != printed[at] {
					t.Errorf("%q is read or printed another way", texts[at])
				}
			}
		})
	}
	all.Wait()
}
