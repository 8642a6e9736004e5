package tests

import (
	"slices"
	"testing"

	"loop.example/g00017/impl"
)

// someModules has short modules of which each rule's texts are taken, each choice of them.
func someModules() []string {
	var texts []string
	add := func(p place, rows [][2]string) {
		for _, row := range rows {
			texts = append(texts, p.ahead+row[0]+p.behind)
		}
	}
	add(inWhole(), moduleRows())
	add(inTop(), topRows())
	add(inTop(), clauseRows())
	add(inType(), typeRows())
	add(inPattern(), patternRows())
	add(inExp(), expressionRows())
	return texts
}

// otherTokens has each token that rules name, and one of each kind.
func otherTokens() []impl.Token {
	var tokens []impl.Token
	for _, text := range slices.Concat(allWords(), allMarks(), allSpecials()) {
		tokens = append(tokens, fixedToken(text))
	}
	return append(tokens, token(impl.TokLayout, "{"), token(impl.TokLayout, ";"), token(impl.TokLayout, "}"), token(impl.TokName, "x"), token(impl.TokCon, "C"), token(impl.TokOp, "+"), token(impl.TokOp, "-"),
		token(impl.TokConOp, ":"), token(impl.TokNumber, "1"), token(impl.TokChar, "c"), token(impl.TokString, "s"))
}

// laidOut has the tokens of a text with their layout, without places.
func laidOut(t *testing.T, text string) []impl.Token {
	t.Helper()
	tokens := impl.Layout(lexed(t, text))
	for i := range tokens {
		tokens[i].Line, tokens[i].Col = 0, 0
	}
	return tokens
}

// eachEdit goes through the lists that differ from the tokens in one: left out, put in, put twice, or another one.
func eachEdit(tokens, others []impl.Token, look func([]impl.Token)) {
	for at := range len(tokens) + 1 {
		for _, other := range others {
			look(slices.Insert(slices.Clone(tokens), at, other))
		}
		if at == len(tokens) {
			break
		}
		look(slices.Delete(slices.Clone(tokens), at, at+1))
		look(slices.Insert(slices.Clone(tokens), at, tokens[at]))
		for _, other := range others {
			edited := slices.Clone(tokens)
			edited[at] = other
			look(edited)
		}
	}
}

// One token left out, put in, put twice or turned into another, at each place of each text.
func TestOneTokenChanged(t *testing.T) {
	t.Parallel()
	s, others := newSlowParser(), otherTokens()
	for _, text := range someModules() {
		eachEdit(laidOut(t, text), others, func(edited []impl.Token) { checkTokens(t, s, edited) })
	}
}

// Two neighbours swapped, and each beginning and end, of which no beginning is a module.
func TestTokensSwappedAndCut(t *testing.T) {
	s := newSlowParser()
	for _, text := range append(someModules(), severalModules()...) {
		tokens := impl.Layout(impl.Lex(text).Tokens)
		for at := range tokens {
			checkTokens(t, s, tokens[:at])
			checkTokens(t, s, tokens[at:])
			if at > 0 {
				swapped := slices.Clone(tokens)
				swapped[at-1], swapped[at] = swapped[at], swapped[at-1]
				checkTokens(t, s, swapped)
			}
			if got := impl.ParseTokens(tokens[:at]).Code; got != 1 {
				t.Errorf("%q: the first %d tokens have code %d", text, at, got)
			}
		}
	}
}

// What goes on behind a module is none, whatever it is.
func TestTokensBehindTheModule(t *testing.T) {
	for _, text := range []string{"module M where { }", "module M where { x = 1 }", "module M where { infix 10 + }"} {
		tokens := laidOut(t, text)
		for _, other := range append(otherTokens(), impl.Token{}) {
			if got := impl.ParseTokens(append(slices.Clone(tokens), other)); got.Code != 1 {
				t.Errorf("%q and %q: code %d", text, other.Text, got.Code)
			}
		}
	}
}

// severalModules has modules of which all together have every rule.
func severalModules() []string {
	return []string{
		"module M (f, T, (+)) where\nimport A (x)\nimport B\ninfixl 6 +, `f`\ndata T a = C a (T a) | D deriving (Eq)\nclass Eq a => K a where\n  m, n :: a -> [a]\ninstance K a => K (T a) where\n  m x = []\nf :: (Eq a, K b) => a -> (b, Int) -> ()\nf x ~(y, !z) | x = 1 | y = 2 where { g = 1 }\nx `f` [a, b] = a\n(+) = g\n",
		"module Main where\n\nmain = let go n | n == 0 = \"\"\n              | True = 'x' : go (n - 1)\n       in go 10 ++ show (map (+ 1) [1 .. 3])\n\nmap f xs = [f x | x <- xs]\n\nfilter p xs = case xs of\n  y : ys | p y -> y : filter p ys\n         | True -> filter p ys\n  [] -> []\n",
		"module Deep where\nf x = case x of\n        (a, b) -> if a then \\ c -> let d = c; e = d in (d, e) else g\n          where g y = (y, - 1)\n        _ -> h\n  where h = (`k` 2)\n        k p q = [(p, q), (q - p, 0)]\n",
	}
}
