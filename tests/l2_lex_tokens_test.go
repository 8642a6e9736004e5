package tests

import (
	"math/rand/v2"
	"strings"
	"testing"

	"loop.example/g00017/impl"
)

func TestLexOrdinaryModule(t *testing.T) {
	text := "module M (f) where\n" +
		"import P as Q -- it is no word\n" +
		"{- f of\n   two {- and -} lines -} f :: Int -> [Char]\n" +
		"f 0 = \"a\\n\\\"\"; f n | n >= 10 = 'x' : (n `g` \\y -> y)"
	want := []impl.Token{
		tokenAt(8, "module", 1, 1), tokenAt(2, "M", 1, 8), tokenAt(10, "(", 1, 10), tokenAt(1, "f", 1, 11), tokenAt(10, ")", 1, 12), tokenAt(8, "where", 1, 14),
		tokenAt(8, "import", 2, 1), tokenAt(2, "P", 2, 8), tokenAt(1, "as", 2, 10), tokenAt(2, "Q", 2, 13),
		tokenAt(1, "f", 4, 27), tokenAt(9, "::", 4, 29), tokenAt(2, "Int", 4, 32), tokenAt(9, "->", 4, 36), tokenAt(10, "[", 4, 39), tokenAt(2, "Char", 4, 40), tokenAt(10, "]", 4, 44),
		tokenAt(1, "f", 5, 1), tokenAt(5, "0", 5, 3), tokenAt(9, "=", 5, 5), tokenAt(7, "a\n\"", 5, 7), tokenAt(10, ";", 5, 14),
		tokenAt(1, "f", 5, 16), tokenAt(1, "n", 5, 18), tokenAt(9, "|", 5, 20), tokenAt(1, "n", 5, 22), tokenAt(3, ">=", 5, 24), tokenAt(5, "10", 5, 27), tokenAt(9, "=", 5, 30),
		tokenAt(6, "x", 5, 32), tokenAt(4, ":", 5, 36), tokenAt(10, "(", 5, 38), tokenAt(1, "n", 5, 39), tokenAt(10, "`", 5, 41), tokenAt(1, "g", 5, 42), tokenAt(10, "`", 5, 43),
		tokenAt(9, "\\", 5, 45), tokenAt(1, "y", 5, 46), tokenAt(9, "->", 5, 48), tokenAt(1, "y", 5, 51), tokenAt(10, ")", 5, 52),
	}
	checkLex(t, text, tokensOnly(want...))
}

func TestLexNothing(t *testing.T) {
	for _, text := range []string{"", " ", "\n", "   \n \n", "--", "---", "-- x\n--", "{--}", "{---}", "{-{--}-}", "--\xff\t", "{-\xff\x00\t\r-}", "--{-", "-- \"", "{- ' \" -- -}"} {
		checkLex(t, text, tokensOnly())
	}
}

func TestLexKinds(t *testing.T) {
	cases := map[int64][]string{
		impl.TokName:    {"a", "z", "_a", "__", "_'", "_0", "a'b''", "zZ9_", "casex", "wherE", "in'", "of_", "as"},
		impl.TokCon:     {"A", "Z", "In", "Where", "T'", "A_0"},
		impl.TokNumber:  {"0", "7", "90", strings.Repeat("1", 299), strings.Repeat("1", 300)},
		impl.TokOp:      {"-", "--|", "-->", "--:", "|--", "-|-", "==", "=|", "->>", "<--", "\\\\", "=>=", "...", ".", "@@", "~-", "!=", "+", "#", "$", "%", "&", "*", "/", "<", ">", "?", "^"},
		impl.TokConOp:   {":", ":::", "::=", ":-", ":--", ":|"},
		impl.TokWord:    allWords(),
		impl.TokMark:    allMarks(),
		impl.TokSpecial: allSpecials(),
	}
	for kind, texts := range cases {
		for _, text := range texts {
			checkLex(t, text, tokensOnly(tokenAt(kind, text, 1, 1)))
			checkLex(t, "\n "+text+"\n"+text+" ", tokensOnly(tokenAt(kind, text, 2, 2), tokenAt(kind, text, 3, 1)))
		}
	}
}

func TestLexQuoted(t *testing.T) {
	for text, want := range map[string]impl.Token{
		`'a'`: token(6, "a"), `' '`: token(6, " "), `'~'`: token(6, "~"), `'"'`: token(6, `"`), `'\"'`: token(6, `"`), `'\''`: token(6, "'"), `'\\'`: token(6, `\`), `'\n'`: token(6, "\n"), `'n'`: token(6, "n"),
		`""`: token(7, ""), `"a"`: token(7, "a"), `"'"`: token(7, "'"), `"\'"`: token(7, "'"), `"\""`: token(7, `"`), `"\\"`: token(7, `\`), `"\\n"`: token(7, `\n`), `"\n"`: token(7, "\n"), `"\\\""`: token(7, `\"`), `"--{-"`: token(7, "--{-"), `" ~ "`: token(7, " ~ "),
	} {
		want.Line, want.Col = 1, 1
		behind := tokenAt(impl.TokName, "x", 1, int64(len(text))+1)
		checkLex(t, text+"x", tokensOnly(want, behind))
	}
}

func TestLexLongestFirst(t *testing.T) {
	for text, want := range map[string][]impl.Token{
		"x'a'":     {tokenAt(1, "x'a'", 1, 1)},
		"1'a'":     {tokenAt(5, "1", 1, 1), tokenAt(6, "a", 1, 2)},
		"12ab":     {tokenAt(5, "12", 1, 1), tokenAt(1, "ab", 1, 3)},
		"0x1":      {tokenAt(5, "0", 1, 1), tokenAt(1, "x1", 1, 2)},
		"1.2":      {tokenAt(5, "1", 1, 1), tokenAt(3, ".", 1, 2), tokenAt(5, "2", 1, 3)},
		"-1":       {tokenAt(3, "-", 1, 1), tokenAt(5, "1", 1, 2)},
		"A.b":      {tokenAt(2, "A", 1, 1), tokenAt(3, ".", 1, 2), tokenAt(1, "b", 1, 3)},
		"\\_->_":   {tokenAt(9, "\\", 1, 1), tokenAt(8, "_", 1, 2), tokenAt(9, "->", 1, 3), tokenAt(8, "_", 1, 5)},
		"=\\x":     {tokenAt(3, "=\\", 1, 1), tokenAt(1, "x", 1, 3)},
		"-}":       {tokenAt(3, "-", 1, 1), tokenAt(10, "}", 1, 2)},
		"--}":      {},
		"{ -}":     {tokenAt(10, "{", 1, 1), tokenAt(3, "-", 1, 3), tokenAt(10, "}", 1, 4)},
		"{{--}}":   {tokenAt(10, "{", 1, 1), tokenAt(10, "}", 1, 6)},
		"((,))":    {tokenAt(10, "(", 1, 1), tokenAt(10, "(", 1, 2), tokenAt(10, ",", 1, 3), tokenAt(10, ")", 1, 4), tokenAt(10, ")", 1, 5)},
		"\"\"'a'":  {tokenAt(7, "", 1, 1), tokenAt(6, "a", 1, 3)},
		"a--b":     {tokenAt(1, "a", 1, 1)},
		"a-- b\nc": {tokenAt(1, "a", 1, 1), tokenAt(1, "c", 2, 1)},
		"a|--b":    {tokenAt(1, "a", 1, 1), tokenAt(3, "|--", 1, 2), tokenAt(1, "b", 1, 5)},
		"--|a\nb":  {tokenAt(3, "--|", 1, 1), tokenAt(1, "a", 1, 4), tokenAt(1, "b", 2, 1)},
		"-- |a\nb": {tokenAt(1, "b", 2, 1)},
		"--(a\nb":  {tokenAt(1, "b", 2, 1)},
		"+{-x-}+":  {tokenAt(3, "+", 1, 1), tokenAt(3, "+", 1, 7)},
		"x{--}y":   {tokenAt(1, "x", 1, 1), tokenAt(1, "y", 1, 6)},
	} {
		checkLex(t, text, tokensOnly(want...))
	}
}

func TestLexPlacesBehindComments(t *testing.T) {
	for text, want := range map[string]impl.Token{
		"{-\xc3\xa9-}x":                          tokenAt(1, "x", 1, 7),
		"{-\t\t-}x":                              tokenAt(1, "x", 1, 7),
		"{-\xff\xfe\x80-}x":                      tokenAt(1, "x", 1, 8),
		"-- \xc3\xa9\n x":                        tokenAt(1, "x", 2, 2),
		"--\t\xe2\x82\xac\nx":                    tokenAt(1, "x", 2, 1),
		"{-\n\xf0\x9f\x98\x80\n\xc3\xa9 -} x":    tokenAt(1, "x", 3, 7),
		"{- \n{-\n -}\n-}\n\n  x":                tokenAt(1, "x", 6, 3),
		"{-{-\n-}{-\n-}-}x":                      tokenAt(1, "x", 3, 5),
		"{- -- -} x":                             tokenAt(1, "x", 1, 10),
		"{- ---} x":                              tokenAt(1, "x", 1, 9),
		"{-\xe2-}x":                              tokenAt(1, "x", 1, 6),
		"--\xe2\nx":                              tokenAt(1, "x", 2, 1),
		"\n\n\n" + strings.Repeat(" ", 70) + "x": tokenAt(1, "x", 4, 71),
		"{-\r\n-}x":                              tokenAt(1, "x", 2, 3),
	} {
		checkLex(t, text, tokensOnly(want))
	}
}

// Thousands of comments inside each other are no deeper than a count.
func TestLexDeepComments(t *testing.T) {
	deep := impl.MaxSource/4 - 1
	text := strings.Repeat("{-", deep) + strings.Repeat("-}", deep) + "x"
	checkLex(t, text, tokensOnly(tokenAt(1, "x", 1, int64(4*deep)+1)))
	checkLex(t, text[2:], tokensOnlyAfterDash(deep))
	checkLex(t, "{-"+text, impl.LexResult{Code: 2, Line: 1, Col: 1})
}

// tokensOnlyAfterDash: with one beginning fewer the last end is an operator and a brace.
func tokensOnlyAfterDash(deep int) impl.LexResult {
	at := int64(4*deep) - 3
	return tokensOnly(tokenAt(3, "-", 1, at), tokenAt(10, "}", 1, at+1), tokenAt(1, "x", 1, at+2))
}

func TestLexAtTheMost(t *testing.T) {
	most := impl.MaxSource
	checkLex(t, strings.Repeat(" ", most), tokensOnly())
	checkLex(t, strings.Repeat("\n", most-1)+"x", tokensOnly(tokenAt(1, "x", int64(most), 1)))
	checkLex(t, strings.Repeat(" ", most-1)+"x", tokensOnly(tokenAt(1, "x", 1, int64(most))))
	checkLex(t, strings.Repeat("x", most), tokensOnly(tokenAt(1, strings.Repeat("x", most), 1, 1)))
	checkLex(t, strings.Repeat("+", most), tokensOnly(tokenAt(3, strings.Repeat("+", most), 1, 1)))
	checkLex(t, `"`+strings.Repeat(" ", most-2)+`"`, tokensOnly(tokenAt(7, strings.Repeat(" ", most-2), 1, 1)))
	if r := impl.Lex(strings.Repeat("(", most)); r.Code != 0 || len(r.Tokens) != most || r.Tokens[most-1] != tokenAt(10, "(", 1, int64(most)) {
		t.Error("a text of brackets alone")
	}
}

func TestLexAllShortTexts(t *testing.T) {
	slow := newSlowLexer()
	pieces := []string{" ", "\n", "\t", "a", "A", "_", "'", "\"", "\\", "n", "0", "1", "-", "{", "}", ":", "=", "\xc3\xa9", "("}
	eachText(pieces, 4, func(text string) {
		if t.Failed() {
			return
		}
		checkLex(t, text, slow.lex(text))
	})
}

func TestLexManyTexts(t *testing.T) {
	slow := newSlowLexer()
	pieces := []string{" ", "  ", "\n", "a", "B", "x'", "_", "'a'", "'", "\"", "\"ab\\n\"", "\\", "0", "12", "-", "--", "{-", "-}", "{", "}", "::", "=", "->", "where", "of", "in", "fix", "(", "`", ",", ".", "!", "\xc3\xa9", "\x80"}
	r := rand.New(rand.NewPCG(2, 1))
	whole := 0
	for range 40000 {
		text := randomText(r, pieces, 14)
		want := slow.lex(text)
		if want.Code == 0 && len(want.Tokens) > 5 {
			whole++
		}
		checkLex(t, text, want)
		if t.Failed() {
			return
		}
	}
	if whole < 1000 {
		t.Error("only", whole, "of the texts are read to their end")
	}
}

func TestLexEveryByte(t *testing.T) {
	slow := newSlowLexer()
	for b := range 256 {
		one := string([]byte{byte(b)})
		for _, text := range []string{one, "x" + one, "1" + one, "+" + one, "'" + one + "'", "\"" + one + "\"", "'\\" + one + "'", "\"\\" + one + "\"", "--" + one + "x", "{-" + one + "-}x", "\n " + one} {
			checkLex(t, text, slow.lex(text))
		}
	}
}
