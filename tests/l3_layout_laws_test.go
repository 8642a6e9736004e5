package tests

import (
	"math/rand/v2"
	"slices"
	"strings"
	"testing"

	"loop.example/g00017/impl"
)

func isPut(tok impl.Token) bool {
	return tok.Kind == impl.TokLayout
}

func written(tokens []impl.Token) []impl.Token {
	return slices.DeleteFunc(slices.Clone(tokens), isPut)
}

// checkLaws looks at what holds of every list: the chapter's second reading, all tokens kept in their order, and braces that go together.
func checkLaws(t *testing.T, tokens []impl.Token) {
	t.Helper()
	got := impl.Layout(tokens)
	if want := slowlyLaid(tokens); !slices.Equal(got, want) {
		t.Fatalf("%s\nis laid out as %s\nnot as         %s", shownAt(tokens), shownAt(got), shownAt(want))
	}
	if !slices.Equal(written(got), written(tokens)) {
		t.Fatalf("%s\nis not kept in %s", shownAt(tokens), shownAt(got))
	}
	if slices.ContainsFunc(tokens, isPut) {
		return
	}
	depth := 0
	for i, tok := range got {
		if !isPut(tok) {
			continue
		}
		depth += strings.Count(tok.Text, "{") - strings.Count(tok.Text, "}")
		if depth < 0 || tok.Text == ";" && depth == 0 {
			t.Fatalf("%s\nhas no open brace at %d in %s", shownAt(tokens), i, shownAt(got))
		}
		checkPlace(t, got, i)
	}
	if depth != 0 {
		t.Fatalf("%s\nleaves %d braces open in %s", shownAt(tokens), depth, shownAt(got))
	}
}

// checkPlace holds the place of what was put at i against that of what stands behind it, be it put or written.
func checkPlace(t *testing.T, laid []impl.Token, i int) {
	t.Helper()
	behind := impl.Token{}
	if i+1 < len(laid) {
		behind = laid[i+1]
	}
	if laid[i].Line != behind.Line || laid[i].Col != behind.Col {
		t.Fatalf("%q that was put at %s stands ahead of %s", laid[i].Text, placeText(laid[i]), placeText(behind))
	}
}

// All short lists, each token on the line of the one ahead or on the next, at one of three columns.
func TestLayoutOfAllShortLists(t *testing.T) {
	choices := layoutTokens()
	var grow func(tokens []impl.Token, line int64, left int)
	grow = func(tokens []impl.Token, line int64, left int) {
		checkLaws(t, tokens)
		if left == 0 {
			return
		}
		for _, tok := range choices {
			for place := range int64(4) {
				tok.Line, tok.Col = line, 4
				if place > 0 {
					tok.Line, tok.Col = line+1, place
				}
				grow(append(slices.Clip(tokens), tok), tok.Line, left-1)
			}
		}
	}
	grow(nil, 1, 3)
}

// All lists of one column's tokens on one line: what closes blocks early, and nothing else.
func TestLayoutOfAllShortLines(t *testing.T) {
	choices := layoutTokens()
	var grow func(tokens []impl.Token, left int)
	grow = func(tokens []impl.Token, left int) {
		checkLaws(t, tokens)
		if left == 0 {
			return
		}
		for _, tok := range choices {
			tok.Line, tok.Col = 1, int64(len(tokens)+1)
			grow(append(slices.Clip(tokens), tok), left-1)
		}
	}
	grow(nil, 5)
}

func TestLayoutOfRandomLists(t *testing.T) {
	r := rand.New(rand.NewPCG(3, 1))
	for range 60000 {
		checkLaws(t, randomList(r, 40))
	}
	for range 60000 {
		checkLaws(t, randomOddList(r, 25))
	}
	for range 20 {
		checkLaws(t, randomList(r, 1500))
	}
}

func TestLayoutOfRandomTexts(t *testing.T) {
	r := rand.New(rand.NewPCG(3, 2))
	pieces := []string{"x ", "= ", "where ", "let ", "of ", "in ", "if ", "then ", "else ", "case ", "(", ")", "[", "]", ", ", "{ ", "} ", "; ", "\n", "\n ", "\n  ", "\n    ", "\"where\" ", "'(' ", "-- in\n"}
	for range 40000 {
		checkLaws(t, lexed(t, randomText(r, pieces, 60)))
	}
}

// Where a brace is written behind each of the three words, nothing is put.
func TestLayoutPutsNothingWhereBracesAreWritten(t *testing.T) {
	r := rand.New(rand.NewPCG(3, 3))
	for round := range 60000 {
		from := randomList(r, 40)
		if round%2 == 1 {
			from = randomOddList(r, 40)
		}
		var tokens []impl.Token
		for _, tok := range from {
			tokens = append(tokens, tok)
			if tok.Kind == impl.TokWord && slices.Contains([]string{"where", "let", "of"}, tok.Text) {
				tokens = append(tokens, tokenAt(impl.TokSpecial, "{", tok.Line+int64(r.IntN(2)), int64(r.IntN(5))))
			}
		}
		if got := impl.Layout(tokens); !slices.Equal(got, tokens) {
			t.Fatalf("%s\nis laid out as %s", shownAt(tokens), shownAt(got))
		}
	}
}

// What was laid out, written down and read again has all its braces, so that layout puts none.
func TestLayoutWrittenDownIsLaidOut(t *testing.T) {
	r := rand.New(rand.NewPCG(3, 4))
	for range 20000 {
		text := impl.SpellAll(impl.Layout(randomList(r, 60)))
		again := lexed(t, text)
		if got := impl.Layout(again); !slices.Equal(got, again) {
			t.Fatalf("%q is laid out as %s", text, shown(got))
		}
	}
}

// Long and deep lists are laid out in a moment: nothing is searched for from the top down at each token.
func TestLayoutOfDeepLists(t *testing.T) {
	const deep = 100000
	var nested, brackets []impl.Token
	for i := range int64(deep) {
		nested = append(nested, tokenAt(impl.TokWord, "where", 1, i+1))
		brackets = append(brackets, tokenAt(impl.TokSpecial, "(", 1, i+1))
	}
	var commas, words []impl.Token
	for range deep {
		commas = append(commas, tokenAt(impl.TokSpecial, ",", 1, deep+1))
		words = append(words, tokenAt(impl.TokWord, "where", 1, 0))
	}
	got := impl.Layout(slices.Concat(nested, commas))
	if len(got) != 4*deep || strings.Count(shown(got), ".} .}") != deep/2 {
		t.Errorf("%d tokens of nested blocks with commas", len(got))
	}
	got = impl.Layout(slices.Concat([]impl.Token{tokenAt(impl.TokWord, "of", 1, 0)}, brackets, words))
	if len(got) != 4*deep+3 {
		t.Errorf("%d tokens of brackets with words", len(got))
	}
	got = impl.Layout(slices.Concat(nested, []impl.Token{tokenAt(impl.TokName, "x", 2, 2)}))
	if len(got) != 3*deep+2 || got[len(got)-3].Text != ";" {
		t.Errorf("%d tokens of nested blocks that a line ends", len(got))
	}
}
