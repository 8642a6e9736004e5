package tests

import (
	"math"
	"slices"
	"strconv"
	"strings"
	"testing"

	"loop.example/g00017/impl"
)

func placeText(tok impl.Token) string {
	return strconv.FormatInt(tok.Line, 10) + ":" + strconv.FormatInt(tok.Col, 10)
}

// checkLaid takes pairs: a text, and how its tokens are laid out.
func checkLaid(t *testing.T, pairs [][2]string) {
	t.Helper()
	for _, p := range pairs {
		if got := shown(impl.Layout(lexed(t, p[0]))); got != p[1] {
			t.Errorf("%q\nis laid out as %s\nnot as         %s", p[0], got, p[1])
		}
	}
}

func TestLayoutOfOrdinaryTexts(t *testing.T) {
	checkLaid(t, [][2]string{
		{"module M where\nx = 1\ny = 2\n", "module M where {. x = 1 .; y = 2 .}"},
		{"module M where\n\nimport A\n-- note\nf x = y\n  where y = x\n        z = y\ng = f\n", "module M where {. import A .; f x = y where {. y = x .; z = y .} .; g = f .}"},
		{"f where\n a = let b = 1\n         c = 2\n     in b c\n d = 3", "f where {. a = let {. b = 1 .; c = 2 .} in b c .; d = 3 .}"},
		{"f where\n a = case b of\n   1 -> 2\n   2 -> case c of\n     d -> e\n g = h", "f where {. a = case b of {. 1 -> 2 .; 2 -> case c of {. d -> e .} .} .; g = h .}"},
		{"f where\n a = let b = let c = 1 in c in b", "f where {. a = let {. b = let {. c = 1 .} in c .} in b .}"},
		{"f where\n a = if b then case c of d -> e else f", "f where {. a = if b then case c of {. d -> e .} else f .}"},
		{"class C a where\n m :: a\n n :: a\ninstance C I where\n m = 1\n", "class C a where {. m :: a .; n :: a .} instance C I where {. m = 1 .}"},
		{"f where\n a = b\n   c\n d", "f where {. a = b c .; d .}"},
		{"a b\nc\n d", "a b c d"},
	})
}

func TestLayoutOfFewTokens(t *testing.T) {
	if got := impl.Layout(nil); got != nil {
		t.Errorf("no tokens are laid out as %v", got)
	}
	if got := impl.Layout([]impl.Token{}); len(got) != 0 {
		t.Errorf("an empty list is laid out as %v", got)
	}
	checkLaid(t, [][2]string{
		{"x", "x"}, {"where", "where {. .}"}, {"let", "let {. .}"}, {"of", "of {. .}"},
		{"in", "in"}, {")", ")"}, {"}", "}"}, {",", ","}, {"(", "("}, {"{", "{"}, {"if", "if"}, {"case", "case"},
		{"where x where", "where {. x where {. .} .}"},
		{"where x\nlet", "where {. x .} let {. .}"},
		{"where where", "where {. where {. .} .}"},
		{"let of", "let {. .} of {. .}"},
	})
}

// A block opens only further right than the one nearest to the top, whatever stands between.
func TestLayoutOpensBlocksFurtherRight(t *testing.T) {
	checkLaid(t, [][2]string{
		{"f where\n  a where\n  b", "f where {. a where {. .} .; b .}"},
		{"f where\n  a where\n b", "f where {. a where {. .} .} b"},
		{"f where\n  a where\n   b", "f where {. a where {. b .} .}"},
		{"f where\n  a (b where\n  c)", "f where {. a ( b where {. .} c ) .}"},
		{"f where\n  a (b where\n   c)", "f where {. a ( b where {. c .} ) .}"},
		{"f where\n  a { b where\n c }", "f where {. a { b where {. .} c } .}"},
		{"f where\n  a if b where\n  c", "f where {. a if b where {. .} c .}"},
		{"f where\n  a = case b of\n  c", "f where {. a = case b of {. .} .; c .}"},
		{"f where\n  a = let\n  c", "f where {. a = let {. .} c .}"},
		{"   ( where\na", "( where {. a .}"},
		{"   { let\na\nb", "{ let {. a .; b .}"},
		{"   let\na\nb", "let {. a .; b .}"},
	})
}

func TestLayoutKeepsToWrittenBraces(t *testing.T) {
	checkLaid(t, [][2]string{
		{"module M where { x = 1 }", "module M where { x = 1 }"},
		{"f where\n{ a\n; b\n}", "f where { a ; b }"},
		{"f where\n  a where\n{ b\nc }\n  d", "f where {. a where { b c } .; d .}"},
		{"f where\n  a where {\n b }\n  d", "f where {. a where { b } .; d .}"},
		{"f where\n a = let { b = 1 } in b\n c", "f where {. a = let { b = 1 } in b .; c .}"},
		{"let { a of { b } } in where { }", "let { a of { b } } in where { }"},
		{"f where { a where\n b\n c }", "f where { a where {. b .; c .} }"},
		{"f where\n a = x {\n b", "f where {. a = x { b .}"},
	})
}

func TestLayoutAtTheBeginningOfLines(t *testing.T) {
	checkLaid(t, [][2]string{
		{"f where\n   a\n   b", "f where {. a .; b .}"},
		{"f where\n   a\n    b", "f where {. a b .}"},
		{"f where\n   a\n  b", "f where {. a .} b"},
		{"f where\n a where\n  b where\n   c\nd", "f where {. a where {. b where {. c .} .} .} d"},
		{"f where\n a where\n  b where\n   c\n d", "f where {. a where {. b where {. c .} .} .; d .}"},
		{"f where\n a where\n  b where\n    c\n   d", "f where {. a where {. b where {. c .} d .} .}"},
		{"f where\n a (\n b\nc", "f where {. a ( b c .}"},
		{"f where\n a (where\n   b\n  c\n d\ne)", "f where {. a ( where {. b .} c d e ) .}"},
		{"f where a\n b\n        c", "f where {. a .} b c"},
		{"f where a\n        b", "f where {. a .; b .}"},
		{"f where a\n      b", "f where {. a .} b"},
		{"f where a\n           b", "f where {. a b .}"},
		{"where a\n      b c where d\n      e", "where {. a .; b c where {. d .} .; e .}"},
		{"   f where\n a\n b c b\n b", "f where {. a .; b c b .; b .}"},
	})
}

func TestLayoutClosesBlocksEarly(t *testing.T) {
	checkLaid(t, [][2]string{
		{"(where a)", "( where {. a .} )"},
		{"[where a]", "[ where {. a .} ]"},
		{"(where a where b)", "( where {. a where {. b .} .} )"},
		{"(where a] b", "( where {. a .} ] b"},
		{"[where a) b, where c, d", "[ where {. a .} ) b , where {. c , d .}"},
		{"let a in b", "let {. a .} in b"},
		{"let a where b in c where d in e", "let {. a where {. b .} .} in c where {. d .} in e"},
		{"if where a then where b else c", "if where {. a .} then where {. b .} else c"},
		{"if a then if b then where c else where d else where e", "if a then if b then where {. c .} else where {. d .} else where {. e .}"},
		{"case where a of b", "case where {. a .} of {. b .}"},
		{"case let a of b", "case let {. a .} of {. b .}"},
		{"{ where a }", "{ where {. a .} }"},
		{"{ where a where b }", "{ where {. a where {. b .} .} }"},
		{"let let let in in in", "let {. let {. let {. .} in .} in .} in"},
		{"where in of", "where {. .} in of {. .}"},
		{"where )", "where {. .} )"},
		{"where ,", "where {. , .}"},
		{"( where ,", "( where {. .} ,"},
	})
}

// What closes blocks does so too where its open thing is not below them.
func TestLayoutClosesBlocksWithNothingBelow(t *testing.T) {
	for _, closer := range strings.Fields("in then else of ) ] }") {
		behind := ""
		if closer == "of" {
			behind = " {. .}"
		}
		for _, below := range []string{"", "( ", "[ ", "x { ", "if ", "case ", "case if "} {
			want := below + "where {. a where {. b .} .} " + closer + behind
			if got := shown(impl.Layout(lexed(t, below+"where a where b "+closer))); got != want {
				t.Errorf("%s below, %s: %s", below, closer, got)
			}
		}
	}
}

// What ends an open thing lets the block below be on top again, which a line and a closer then show.
func TestLayoutEndsOpenThings(t *testing.T) {
	for _, ended := range []string{"( )", "[ ]", "( ]", "[ )", "{ }", "if else", "case of { }", "let { } in"} {
		checkLaid(t, [][2]string{{"w where\n a " + ended + "\n b", "w where {. a " + ended + " .; b .}"}})
	}
	for _, open := range []string{
		"( }", "( in", "( else", "( of { }", "[ then", "{ )", "{ ]", "{ in", "{ , ,", "if then", "if in", "if )", "if of { }",
		"case )", "case else", "case in", "let { } else", "let { } of { }", "let { } )", "let { } }", "( ,",
	} {
		checkLaid(t, [][2]string{{"w where\n a " + open + "\n b", "w where {. a " + open + " b .}"}})
	}
}

func TestLayoutAtCommas(t *testing.T) {
	checkLaid(t, [][2]string{
		{"(where a, b)", "( where {. a .} , b )"},
		{"[case a of b where c, d]", "[ case a of {. b where {. c .} .} , d ]"},
		{"[where a where b, c]", "[ where {. a where {. b .} .} , c ]"},
		{"where a, b", "where {. a , b .}"},
		{"(let a where b, c", "( let {. a where {. b , c .} .}"},
		{"(if where a, b", "( if where {. a , b .}"},
		{"(case where a, b", "( case where {. a , b .}"},
		{"({ where a, b", "( { where {. a , b .}"},
		{"(x where (a), b)", "( x where {. ( a ) .} , b )"},
		{"where (a, b), c", "where {. ( a , b ) , c .}"},
		{"((where a, b), where c, d)", "( ( where {. a .} , b ) , where {. c .} , d )"},
		{"(let a in where b, c)", "( let {. a .} in where {. b .} , c )"},
		{"(if a then b else where c, d)", "( if a then b else where {. c .} , d )"},
	})
}

// What is put has the place of the token behind it, and 0, 0 at the end.
func TestLayoutPlaces(t *testing.T) {
	for _, p := range [][2]string{
		{"m where\n  x", "1:1 m 1:3 where 2:3 {. 2:3 x 0:0 .}"},
		{"where", "1:1 where 0:0 {. 0:0 .}"},
		{"where a where", "1:1 where 1:7 {. 1:7 a 1:9 where 0:0 {. 0:0 .} 0:0 .}"},
		{"w where\n  x\n  y", "1:1 w 1:3 where 2:3 {. 2:3 x 3:3 .; 3:3 y 0:0 .}"},
		{"w where\n  x\n\n y", "1:1 w 1:3 where 2:3 {. 2:3 x 4:2 .} 4:2 y"},
		{"where\n a where\n b", "1:1 where 2:2 {. 2:2 a 2:4 where 3:2 {. 3:2 .} 3:2 .; 3:2 b 0:0 .}"},
		{"let a\n in b", "1:1 let 1:5 {. 1:5 a 2:2 .} 2:2 in 2:5 b"},
		{"(where a, b", "1:1 ( 1:2 where 1:8 {. 1:8 a 1:9 .} 1:9 , 1:11 b"},
	} {
		if got := shownAt(impl.Layout(lexed(t, p[0]))); got != p[1] {
			t.Errorf("%q\nis laid out as %s\nnot as         %s", p[0], got, p[1])
		}
	}
}

// A token is the first of its line if none ahead of it in the list has that line, in whatever order lines come.
func TestLayoutOfLinesThatFall(t *testing.T) {
	word := func(text string, line, col int64) impl.Token { return tokenAt(impl.TokWord, text, line, col) }
	name := func(text string, line, col int64) impl.Token { return tokenAt(impl.TokName, text, line, col) }
	for _, c := range []struct {
		tokens []impl.Token
		want   string
	}{
		{[]impl.Token{word("where", 5, 1), name("a", 4, 3), name("b", 3, 3), name("c", 4, 3), name("d", 5, 1)}, "where {. a .; b c d .}"},
		{[]impl.Token{word("where", 1, 1), name("a", 2, 3), name("b", 3, 3), name("c", 2, 1), name("d", 4, 1)}, "where {. a .; b c .} d"},
		{[]impl.Token{word("where", 0, 0), name("a", 0, 0), name("b", -1, 0), name("c", -2, -1)}, "where {. a .; b .} c"},
		{[]impl.Token{word("where", 0, 0), name("a", 0, -9), word("where", 0, 0), name("b", 1, -9), name("c", 2, -10)}, "where {. a where {. .} .; b .} c"},
		{[]impl.Token{word("let", math.MinInt64, math.MaxInt64), name("a", math.MaxInt64, math.MinInt64), word("let", 1, 1), name("b", 2, math.MinInt64), name("c", 3, math.MaxInt64)}, "let {. a let {. .} b c .}"},
		{[]impl.Token{word("of", 1, 1), name("a", 1, math.MaxInt64), name("b", 2, math.MaxInt64), name("c", 3, math.MinInt64)}, "of {. a .; b .} c"},
	} {
		if got := shown(impl.Layout(c.tokens)); got != c.want {
			t.Errorf("%v\nis laid out as %s\nnot as         %s", c.tokens, got, c.want)
		}
	}
}

// Only words and specials do anything; what merely has their text is like a name.
func TestLayoutOfTokensThatOnlyLookAlike(t *testing.T) {
	for _, odd := range oddTokens() {
		odd.Line, odd.Col = 1, 9
		alone := []impl.Token{odd}
		if got := impl.Layout(alone); !slices.Equal(got, alone) {
			t.Errorf("%v alone is laid out as %v", odd, got)
		}
		behind := tokenAt(impl.TokName, "x", 2, 1)
		if got := impl.Layout([]impl.Token{odd, behind}); !slices.Equal(got, []impl.Token{odd, behind}) {
			t.Errorf("%v and a name are laid out as %v", odd, got)
		}
		list := []impl.Token{tokenAt(impl.TokSpecial, "(", 1, 1), tokenAt(impl.TokWord, "where", 1, 2), odd, tokenAt(impl.TokName, "x", 2, 9)}
		put := tokenAt(impl.TokLayout, "{", 1, 9)
		want := []impl.Token{list[0], list[1], put, odd, tokenAt(impl.TokLayout, ";", 2, 9), list[3], token(impl.TokLayout, "}")}
		if got := impl.Layout(list); !slices.Equal(got, want) {
			t.Errorf("%v in a block is laid out as %v", odd, got)
		}
	}
}
