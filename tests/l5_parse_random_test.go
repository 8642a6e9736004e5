package tests

import (
	"math/rand/v2"
	"slices"
	"testing"

	"loop.example/g00017/impl"
)

// randomModule has the sentence of some rule in a module.
func randomModule(r *rand.Rand, g *slowGrammar, deep int) []impl.Token {
	starts := []struct {
		rule string
		at   place
	}{{"module", inWhole()}, {"top", inTop()}, {"decl", inTop()}, {"exp", inExp()}, {"exp", inExp()}, {"type", inType()}, {"pat", inPattern()}, {"apat", inApat()}}
	start := starts[r.IntN(len(starts))]
	return slices.Concat(impl.Lex(start.at.ahead).Tokens, g.sentence(r, start.rule, deep), impl.Lex(start.at.behind).Tokens)
}

func TestRandomModules(t *testing.T) {
	t.Parallel()
	r, s := rand.New(rand.NewPCG(5, 1)), newSlowParser()
	codes := map[int64]int{}
	for round := range 20000 {
		codes[checkModule(t, s, randomModule(r, s.slowGrammar, 4+round%10))]++
	}
	if codes[0] < 10000 || codes[1] < 100 || codes[2] < 100 {
		t.Errorf("not all codes come up: %v", codes)
	}
}

// Several changes anywhere, those of tokens that no text has among them.
func TestRandomModulesChanged(t *testing.T) {
	t.Parallel()
	r, s := rand.New(rand.NewPCG(5, 2)), newSlowParser()
	others := append(otherTokens(), strangeTokens()...)
	for round := range 20000 {
		tokens := randomModule(r, s.slowGrammar, 3+round%8)
		for range 1 + r.IntN(3) {
			at, other := r.IntN(len(tokens)+1), others[r.IntN(len(others))]
			switch r.IntN(4) {
			case 0:
				tokens = slices.Insert(tokens, at, other)
			case 1:
				tokens = slices.Delete(tokens, at, min(at+1, len(tokens)))
			case 2:
				if at < len(tokens) {
					tokens[at] = other
				}
			case 3:
				if at < len(tokens) {
					tokens = slices.Insert(tokens, at, tokens[r.IntN(len(tokens))])
				}
			}
		}
		checkTokens(t, s, tokens)
	}
}

func TestRandomTokens(t *testing.T) {
	t.Parallel()
	r, s := rand.New(rand.NewPCG(5, 3)), newSlowParser()
	others := append(otherTokens(), strangeTokens()...)
	for range 20000 {
		tokens := impl.Lex(inExp().ahead).Tokens
		for range r.IntN(12) {
			tokens = append(tokens, others[r.IntN(len(others))])
		}
		checkTokens(t, s, append(tokens, fixedToken("}")))
	}
}

// All short expressions, patterns, types and declarations of some tokens.
func TestAllShortTexts(t *testing.T) {
	t.Parallel()
	s := newSlowParser()
	for _, row := range []struct {
		at     place
		pieces []string
		most   int
	}{
		{inExp(), []string{"x", "+", "-", "(", ")", ",", "`", "C", "["}, 5},
		{inExp(), []string{"x", "|", "<-", ",", "[", "]", "(", ")"}, 5},
		{inExp(), []string{"\\", "x", "->", "(", "+", ")", "!", "1"}, 5},
		{inPattern(), []string{"x", "C", ":", "(", ")", "@", "-", "1", "~", "`"}, 5},
		{inType(), []string{"a", "T", "->", "(", ")", "[", "]", ",", "=>"}, 5},
		{inTop(), []string{"f", "C", "(", ")", "+", "::", ",", "=", "`"}, 5},
		{inTop(), []string{"class", "K", "a", "=>", "(", ")", "where {", "}", ";"}, 5},
	} {
		ahead, behind := impl.Lex(row.at.ahead).Tokens, impl.Lex(row.at.behind).Tokens
		var pieces [][]impl.Token
		for _, piece := range row.pieces {
			pieces = append(pieces, impl.Lex(piece).Tokens)
		}
		var grow func(tokens []impl.Token, left int)
		grow = func(tokens []impl.Token, left int) {
			checkTokens(t, s, slices.Concat(ahead, tokens, behind))
			for _, piece := range pieces {
				if left > 0 {
					grow(slices.Concat(tokens, piece), left-1)
				}
			}
		}
		grow(nil, row.most)
	}
}
