package tests

import (
	"runtime/debug"
	"slices"
	"sort"
	"strings"
	"sync"
	"testing"

	"loop.example/g00017/impl"
)

// A nest is what can stand in itself: so many openings, what is inmost, and as many ends.
type nest struct {
	at                  place
	open, inmost, close string
	code                int64 // of a deep one
}

// nests has each rule that can stand in itself, through each way that leads to itself.
func nests() []nest {
	exp, top := inExp(), inTop()
	return []nest{
		{exp, "(", "a", ")", 0}, {inType(), "(", "a", ")", 0}, {inPattern(), "(", "a", ")", 0}, {inApat(), "(", "a", ")", 0}, {exp, "(", "+", ")", 0}, {exp, "(", "", ")", 0}, {place{"module M where{data T=C", "}", nil}, "(", "a", ")", 0}, {place{"module M where{instance K", "where{}}", nil}, "(", "a", ")", 0},
		{exp, "[", "a", "]", 2}, {inType(), "[", "a", "]", 2}, {inPattern(), "[", "a", "]", 2}, {exp, "(a,", "b", ")", 2}, {exp, "(", "b", ",a)", 2}, {inPattern(), "(a,", "b", ")", 2}, {inPattern(), "(", "b", ",a)", 2}, {inType(), "(a,", "b", ")", 2}, {inType(), "(", "b", ",a)", 2},
		{exp, "(+", "a", ")", 2}, {exp, "(", "a", "+)", 2}, {exp, "(`f`", "a", ")", 2}, {exp, "(", "a", "`f`)", 2}, {exp, "(a+", "b", ")", 2}, {exp, "(", "a", "+b)", 2}, {exp, "(a b", "c", ")", 2}, {exp, "(-", "a", ")", 2}, {exp, "f(", "a", ")", 2}, {exp, "(", "a", ")a", 2},
		{exp, "\\a-> ", "b", "", 2}, {exp, "(\\a->", "b", ")", 2}, {exp, "a+ \\b-> ", "c", "", 2}, {exp, "let{}in ", "a", "", 2}, {exp, "let{a=", "b", "}in c", 2}, {exp, "let{a|", "b", "=c}in d", 2}, {exp, "let{a=b where{c=", "d", "}}in e", 2}, {exp, "let a=", "b", " in c", 2}, {exp, "let a=", "b", "", 1},
		{exp, "if a then b else ", "c", "", 2}, {exp, "if ", "a", " then b else c", 2}, {exp, "if a then ", "b", " else c", 2}, {exp, "case ", "a", " of{_->b}", 2}, {exp, "case a of{_->", "b", "}", 2}, {exp, "case a of{_|", "b", "->c}", 2}, {exp, "case a of{_->b where{c=", "d", "}}", 2}, {exp, "case a of _->", "b", "", 2}, {exp, "case ", "a", " of _->b", 2},
		{exp, "[a..", "b", "]", 2}, {exp, "[", "a", "..b]", 2}, {exp, "[a|", "b", "]", 2}, {exp, "[", "a", "|b]", 2}, {exp, "[a|b<-", "c", "]", 2}, {exp, "[a|b,", "c", "]", 2}, {exp, "[a|b,c<-", "d", "]", 2}, {exp, "[a|(b,c)<-[", "d", "]]", 2}, {exp, "[a|[", "b", "|c<-d]]", 2}, {exp, "[a|(", "b", ")]", 2},
		{inApat(), "a@", "b", "", 2}, {inApat(), "~ ", "a", "", 2}, {inApat(), "! ", "a", "", 2}, {inPattern(), "(C", "", ")", 2}, {inPattern(), "(a:", "b", ")", 2}, {inPattern(), "(", "b", ":a)", 2}, {inPattern(), "(a`C`", "b", ")", 2}, {inApat(), "a@(", "b", ")", 2}, {exp, "\\(", "a", ")->b", 1},
		{inType(), "a->", "b", "", 2}, {inType(), "(a->", "b", ")", 2}, {inType(), "(", "a", "->b)", 2}, {inType(), "T(", "a", ")", 2}, {inType(), "(", "a", ")b", 2},
		{top, "x=a where{", "", "}", 2}, {top, "x|a=b where{", "", "}", 2}, {top, "x=a where ", "", "", 2}, {top, "x=a where{;;", "", ";;}", 2}, {top, "a+b=c where{", "", "}", 2},
	}
}

func (n nest) text(levels int) string {
	return n.at.ahead + strings.Repeat(n.open, levels) + n.inmost + strings.Repeat(n.close, levels) + n.at.behind
}

// most says how many levels a text may have.
func (n nest) most() int {
	return (impl.MaxSource - len(n.text(0))) / len(n.open+n.close)
}

// smallStack is too small for calls from level to level, so that these would end the program here.
const smallStack = 4 << 20

// As deep as a text can have it, nesting is answered: by 0 where it leaves no tree behind, else by 2; by 1 if ends are left out.
func TestDeepTexts(t *testing.T) {
	defer debug.SetMaxStack(debug.SetMaxStack(smallStack))
	var all sync.WaitGroup
	for _, n := range nests() {
		all.Go(func() { checkDeep(t, n) })
	}
	all.Wait()
}

func checkDeep(t *testing.T, n nest) {
	deep := n.text(n.most())
	if got := impl.ParseText(deep); got.Code != n.code || n.code == 0 && !impl.SameNode(got.Tree, impl.ParseText(n.text(1)).Tree) {
		t.Errorf("%s: code %d, not %d", n.text(2), got.Code, n.code)
	}
	if !strings.ContainsAny(n.close, ")]}") {
		return
	}
	allOpen := n.at.ahead + strings.Repeat(n.open, impl.MaxSource/len(n.open)-100)
	oneOpen := deep[:len(deep)-len(n.at.behind)-len(n.close)] + n.at.behind
	for _, text := range []string{allOpen, oneOpen} {
		if got := impl.ParseText(text); got.Code != 1 {
			t.Errorf("%s, with ends left out: code %d, not 1", n.text(2), got.Code)
		}
	}
}

func TestNestsAtFewLevels(t *testing.T) {
	s := newSlowParser()
	for _, n := range nests() {
		for levels := range 6 {
			checkModule(t, s, laidOut(t, n.text(levels)))
		}
	}
}

// Each way to stand in itself in each other one.
func TestNestsInNests(t *testing.T) {
	s := newSlowParser()
	for _, outer := range nests() {
		for _, inner := range nests() {
			text := outer.at.ahead + outer.open + inner.open + inner.inmost + inner.close + outer.close + outer.at.behind
			checkModule(t, s, laidOut(t, text))
		}
	}
}

// What is just not too deep is a tree, and one level more is none.
func TestDeepestTrees(t *testing.T) {
	t.Parallel()
	for _, n := range nests() {
		if n.code != 2 {
			continue
		}
		levels := sort.Search(300, func(levels int) bool { return impl.ParseText(n.text(levels)).Code != 0 })
		got, over := impl.ParseText(n.text(levels-1)), impl.ParseText(n.text(levels))
		if got.Code != 0 || over.Code != 2 {
			t.Errorf("%s: codes %d, %d at %d levels", n.text(2), got.Code, over.Code, levels)
			continue
		}
		if _, deep := measures(got.Tree); deep > impl.MaxDeep || deep < impl.MaxDeep-4 {
			t.Errorf("%s: %d levels", n.text(2), deep)
		}
		checkReadBack(t, got.Tree)
	}
}

// Lists of tokens may be longer than any text.
func TestVeryDeepTokens(t *testing.T) {
	const levels = 200000
	defer debug.SetMaxStack(debug.SetMaxStack(smallStack))
	repeat := func(text string, count int) []impl.Token {
		return slices.Repeat(impl.Lex(text).Tokens, count)
	}
	for _, n := range []nest{
		{inExp(), "(", "a", ")", 0}, {inType(), "(", "a", ")", 0}, {inPattern(), "(", "a", ")", 0}, {inExp(), "[", "a", "]", 2}, {inExp(), "(", "a", "", 1}, {inExp(), "\\a-> ", "b", "", 2}, {inType(), "a->", "b", "", 2},
		{inApat(), "a@", "b", "", 2}, {inExp(), "[a|", "b", "]", 2}, {inExp(), "[a|", "b", "", 1}, {inTop(), "x=a where{", "", "}", 2}, {inTop(), "f::a=", "", "", 1}, {inTop(), "x=a;", "", "", 2}, {inExp(), "a+", "b", "", 2}, {inExp(), "a ", "b", "", 2},
	} {
		tokens := slices.Concat(impl.Lex(n.at.ahead).Tokens, repeat(n.open, levels), impl.Lex(n.inmost).Tokens, repeat(n.close, levels), impl.Lex(n.at.behind).Tokens)
		if got := impl.ParseTokens(tokens); got.Code != n.code {
			t.Errorf("%s: code %d, not %d", n.text(2), got.Code, n.code)
		}
	}
}
