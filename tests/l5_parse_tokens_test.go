package tests

import (
	"slices"
	"strings"
	"testing"

	"loop.example/g00017/impl"
)

// strangeTokens are those that no text has.
func strangeTokens() []impl.Token {
	var tokens []impl.Token
	for _, kind := range []int64{-1, 0, 12, 100, 1 << 40, -1 << 63} {
		tokens = append(tokens, token(kind, "x"), token(kind, "("), token(kind, ""))
	}
	for kind := int64(impl.TokName); kind <= impl.TokLayout; kind++ {
		for _, text := range []string{"", "x", "C", "+", "-", ":", "1", "01", "where", "=", "(", ")", "{", "!", "~", "`", "_", "\\", "x y", "é", "\x00"} {
			if tok := token(kind, text); impl.TokenFault(tok) {
				tokens = append(tokens, tok)
			}
		}
	}
	return tokens
}

// Each strange token put in and turned into at each place of some modules.
func TestTokensThatNoTextHas(t *testing.T) {
	t.Parallel()
	s, strange := newSlowParser(), strangeTokens()
	for _, text := range []string{
		"module M ( f , ( + ) ) where { import A ( x ) ; infixl 6 + , `f` }", "module M where { data T a = C a | D deriving ( Eq ) ; class E a => K a where { m :: a -> [ a ] } }",
		"module M where { instance K ( T a ) where { m x = 'c' } ; f x ~ y ! z | x = 1 where { a + b = \"s\" } }", "module M where { x = case - 1 of { C a : b @ _ `D` - 1 -> ( + 1 ) ; _ -> ( a `f` ) } }",
		"module M where { x = [ a | b <- [ 1 .. c ] , ( d , ( ! ) ) ] ; y = let { } in if a then b else \\ c -> ( ) }",
	} {
		eachEdit(laidOut(t, text), strange, func(edited []impl.Token) { checkTokens(t, s, edited) })
	}
}

// turned reads a module in which some tokens are turned into others.
func turned(t *testing.T, text string, turn func(impl.Token) impl.Token) impl.ParseResult {
	t.Helper()
	tokens := laidOut(t, text)
	for i := range tokens {
		tokens[i] = turn(tokens[i])
	}
	return impl.ParseTokens(tokens)
}

func checkTurned(t *testing.T, want int64, text string, turn func(impl.Token) impl.Token) {
	t.Helper()
	if got := turned(t, text, turn); got.Code != want {
		t.Errorf("%q has code %d, not %d", text, got.Code, want)
	}
}

// What rules name by its text may be a word, a mark, a special or of layout, and nothing else.
func TestKindsOfFixedTokens(t *testing.T) {
	const text = "module M ( f ) where { import A ; infixl 1 `g` ; data T = C | D deriving ( E ) ; class E a => K a where { m , n :: a } ; instance K T where { m ! x ~ _ = [ 1 .. 2 ] } ; f = let { } in if a then case b of { c @ d -> e } else \\ x -> [ y | z <- u ] }"
	plain := parsed(t, text)
	for kind := int64(-1); kind <= 13; kind++ {
		got := turned(t, text, func(tok impl.Token) impl.Token {
			if tok.Kind >= impl.TokWord {
				tok.Kind = kind
			}
			return tok
		})
		isFixed := kind >= impl.TokWord && kind <= impl.TokLayout
		if isFixed != (got.Code == 0) || isFixed && !impl.SameNode(got.Tree, plain) {
			t.Errorf("kind %d: code %d", kind, got.Code)
		}
	}
}

// Each token alone turned into each kind, with the text that it has.
func TestKindsOfSingleTokens(t *testing.T) {
	s := newSlowParser()
	for _, text := range append(someModules(), severalModules()...) {
		tokens := laidOut(t, text)
		for at := range tokens {
			for kind := int64(-1); kind <= 13; kind++ {
				turned := slices.Clone(tokens)
				turned[at].Kind = kind
				checkTokens(t, s, turned)
			}
		}
	}
}

func replaceToken(from, to impl.Token) func(impl.Token) impl.Token {
	return func(tok impl.Token) impl.Token {
		if tok == from {
			return to
		}
		return tok
	}
}

// An op or conop without text is none; other texts are taken, and are told as a fault of the tree.
func TestTokensWithOtherTexts(t *testing.T) {
	for _, row := range []struct {
		text     string
		from, to impl.Token
		want     int64
	}{
		{"module M where { x = a + b }", token(3, "+"), token(3, ""), 1}, {"module M where { x = a : b }", token(4, ":"), token(4, ""), 1}, {"module M where { a + b = c }", token(3, "+"), token(3, ""), 1}, {"module M where { x = ( + ) }", token(3, "+"), token(3, ""), 1},
		{"module M where { infix 1 + }", token(3, "+"), token(3, ""), 1}, {"module M where { x = case a of { b : c -> d } }", token(4, ":"), token(4, ""), 1},
		{"module M where { x = a + b }", token(3, "+"), token(3, "!"), 0}, {"module M where { x = a + b }", token(3, "+"), token(3, "--"), 2}, {"module M where { x = a + b }", token(3, "+"), token(3, "f"), 0}, {"module M where { x = a + b }", token(3, "+"), token(3, "="), 2}, {"module M where { x = a + b }", token(3, "+"), token(3, ":"), 2},
		{"module M where { x = a + b }", token(3, "+"), token(4, "+"), 2}, {"module M where { x = a : b }", token(4, ":"), token(4, "C"), 0}, {"module M where { x = a + b }", token(3, "+"), token(9, "!"), 0}, {"module M where { x = a + b }", token(3, "+"), token(9, "+"), 1},
		{"module M where { x = a }", token(1, "a"), token(1, ""), 2}, {"module M where { x = a }", token(1, "a"), token(1, "A"), 2}, {"module M where { x = a }", token(1, "a"), token(1, "where"), 2}, {"module M where { x = a }", token(1, "a"), token(1, "+"), 0}, {"module M where { x = a }", token(1, "a"), token(2, "a"), 2}, {"module M where { x = a }", token(1, "a"), token(2, ":"), 0},
		{"module M where { x = 1 }", token(5, "1"), token(5, ""), 2}, {"module M where { x = 1 }", token(5, "1"), token(5, "01"), 2}, {"module M where { x = 1 }", token(5, "1"), token(5, "-1"), 2}, {"module M where { f 1 = a }", token(5, "1"), token(5, "-1"), 0}, {"module M where { x = 'c' }", token(6, "c"), token(6, ""), 2}, {"module M where { x = 'c' }", token(6, "c"), token(6, "cd"), 2},
		{"module M where { x = \"s\" }", token(7, "s"), token(7, "\t"), 2}, {"module M where { x = \"s\" }", token(7, "s"), token(7, ""), 0}, {"module M where { x = a }", token(2, "M"), token(2, ""), 2}, {"module M where { x = a }", token(2, "M"), token(2, "m"), 2}, {"module M where { x = a }", token(2, "M"), token(2, "A.B"), 2}, {"module M where { x = a }", token(2, "M"), token(1, "M"), 1},
		{"module M where { x = ( - 1 ) }", token(3, "-"), token(9, "-"), 1}, {"module M where { x = - 1 }", token(3, "-"), token(4, "-"), 1}, {"module M where { f :: a => b }", token(9, "=>"), token(3, "=>"), 1}, {"module M where { x = a }", token(9, "="), token(3, "="), 1}, {"module M where { x = a }", token(8, "where"), token(1, "where"), 1},
		{"module M where { x = a ; y = b }", token(10, ";"), token(11, ","), 1}, {"module M where { x = ( a , b ) }", token(10, ","), token(11, ","), 0}, {"module M where { x = a ; y = b }", token(10, ";"), token(11, "; "), 1}, {"module M where { x = a ; y = b }", token(10, ";"), token(11, ""), 1}, {"module M where { x = _ }", token(8, "_"), token(1, "_"), 2},
	} {
		checkTurned(t, row.want, row.text, replaceToken(row.from, row.to))
	}
}

// Braces of layout and written ones go together as they come.
func TestBracesOfEitherKind(t *testing.T) {
	const text = "module M where { ; x = let { a = 1 ; b = 2 } in a where { c = case a of { _ -> b ; } } ; }"
	plain := parsed(t, text)
	tokens := laidOut(t, text)
	var places []int
	for i, tok := range tokens {
		if strings.Contains("{;}", tok.Text) {
			places = append(places, i)
		}
	}
	for choice := range 1 << len(places) {
		mixed := slices.Clone(tokens)
		for i, at := range places {
			mixed[at].Kind = impl.TokSpecial + int64(choice>>i&1)
		}
		if got := impl.ParseTokens(mixed); got.Code != 0 || !impl.SameNode(got.Tree, plain) {
			t.Fatalf("%s: code %d", shown(mixed), got.Code)
		}
	}
}

// Places are not looked at.
func TestPlacesOfTokensDoNotCount(t *testing.T) {
	for _, text := range severalModules() {
		tokens := impl.Layout(lexed(t, text))
		want := impl.ParseTokens(tokens)
		for i := range tokens {
			tokens[i].Line, tokens[i].Col = int64(i)*-7, 1<<62
		}
		if got := impl.ParseTokens(tokens); got.Code != 0 || !impl.SameNode(got.Tree, want.Tree) {
			t.Errorf("%q is read another way", text)
		}
	}
}

func TestNoTokens(t *testing.T) {
	for _, tokens := range [][]impl.Token{nil, {}, {{}}, make([]impl.Token, 100)} {
		if got := impl.ParseTokens(tokens); got.Code != 1 || !impl.SameNode(got.Tree, impl.Node{}) {
			t.Errorf("%d tokens: code %d", len(tokens), got.Code)
		}
	}
}

// The codes of Lex come ahead of all others.
func TestCodesOfTexts(t *testing.T) {
	long := "module M where { x = " + strings.Repeat("(", 100) + "1" + strings.Repeat(")", 100)
	for text, want := range map[string]int64{
		"module M where { x = 1 } \t": 11, "module M where\nx = é": 11, "\x00": 11, "x = \r": 11, "module M where {- x": 12, "module M where { x = 1 } {- {- -}": 12, "module M where\nx = 01": 13, "x = 00": 13, "x = " + strings.Repeat("9", 301): 13,
		"module M where\nx = 'ab'": 14, "x = \"a": 14, "x = ''": 14, "x = '\\t'": 14, "\"\n\"": 14, strings.Repeat(" ", impl.MaxSource+1): 15, "module M where { }" + strings.Repeat(" ", impl.MaxSource): 15, strings.Repeat("\x00", impl.MaxSource+1): 15,
		"": 1, " ": 1, "-- x": 1, "module": 1, "x = 1": 1, "}": 1, "module M where\nx = 1 }": 1, strings.Repeat(" ", impl.MaxSource): 1, strings.Repeat("x", impl.MaxSource): 1,
		"module M where": 0, "module M where { }" + strings.Repeat(" ", impl.MaxSource-18): 0, long + "}": 0, long: 1, "module M where { infix 10 + }": 2, "module M where { infix 10 + } 'ab'": 14, "module M where { infix 10 + } x": 1,
	} {
		got := impl.ParseText(text)
		if got.Code != want || want != 0 && !impl.SameNode(got.Tree, impl.Node{}) {
			t.Errorf("%.40q has code %d, not %d", text, got.Code, want)
		}
	}
}

// ParseText is Lex, Layout and ParseTokens.
func TestParseTextIsItsParts(t *testing.T) {
	pieces := []string{"module M where", "{", "}", ";", "\n", "\n  ", "x", "=", "1", "let", "in", "case", "of", "->", "(", ")", "01", "\t", "'", "+", "-", "if a then b else c"}
	for _, text := range append(severalTexts(), append(severalModules(), someModules()...)...) {
		checkParts(t, text)
	}
	for a := range pieces {
		for b := range pieces {
			for c := range pieces {
				checkParts(t, "module M where\nx = "+pieces[a]+" "+pieces[b]+" "+pieces[c])
			}
		}
	}
}

func checkParts(t *testing.T, text string) {
	t.Helper()
	read := impl.Lex(text)
	want := impl.ParseResult{Code: 10 + read.Code}
	if read.Code == 0 {
		want = impl.ParseTokens(impl.Layout(read.Tokens))
	}
	if got := impl.ParseText(text); got.Code != want.Code || !impl.SameNode(got.Tree, want.Tree) {
		t.Errorf("%.60q has code %d, not %d", text, got.Code, want.Code)
	}
}
