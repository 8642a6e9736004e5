package tests

import (
	"math/rand/v2"
	"strings"
	"testing"

	"loop.example/g00017/impl"
)

func lexed(t *testing.T, text string) []impl.Token {
	t.Helper()
	r := impl.Lex(text)
	if r.Code != 0 {
		t.Fatalf("%q is not read: code %d", text, r.Code)
	}
	return r.Tokens
}

// shown spells tokens so that what layout put is told from what was written: {. .; .}
func shown(tokens []impl.Token) string {
	put := map[string]string{"{": "{.", ";": ".;", "}": ".}"}
	var texts []string
	for _, tok := range tokens {
		if tok.Kind == impl.TokLayout {
			texts = append(texts, put[tok.Text])
		} else {
			texts = append(texts, tok.Text)
		}
	}
	return strings.Join(texts, " ")
}

// shownAt spells tokens with their places.
func shownAt(tokens []impl.Token) string {
	var texts []string
	for _, tok := range tokens {
		texts = append(texts, placeText(tok)+" "+shown([]impl.Token{tok}))
	}
	return strings.Join(texts, " ")
}

// A slowLayout is a second reading of the chapter, to hold the program against.
// Its open things are the letters of a text, the last one on top: B a block, { a brace, ( a bracket, i if, c case, l let.
type slowLayout struct {
	open    string
	columns []int64
	laid    []impl.Token
}

var (
	blockWords   = map[string]bool{"word.where": true, "word.let": true, "word.of": true}
	openedThings = map[string]string{"special.(": "(", "special.[": "(", "special.{": "{", "word.if": "i", "word.case": "c", "word.let": "l"}
	endedThings  = map[string]string{"special.)": "(", "special.]": "(", "special.}": "{", "word.in": "l", "word.then": "none", "word.else": "i", "word.of": "c"}
)

func slowlyLaid(tokens []impl.Token) []impl.Token {
	s := &slowLayout{}
	for i := range tokens {
		s.lay(tokens, i)
	}
	if n := len(tokens); n > 0 && blockWords[nameOf(tokens[n-1])] {
		s.put("{}", impl.Token{})
	}
	s.put(strings.Repeat("}", strings.Count(s.open, "B")), impl.Token{})
	return s.laid
}

func (s *slowLayout) put(texts string, at impl.Token) {
	for _, text := range strings.Split(texts, "") {
		s.laid = append(s.laid, tokenAt(impl.TokLayout, text, at.Line, at.Col))
	}
}

func (s *slowLayout) close(count int, at impl.Token) {
	s.put(strings.Repeat("}", count), at)
	s.open = s.open[:len(s.open)-count]
	s.columns = s.columns[:len(s.columns)-count]
}

func (s *slowLayout) onTop() int {
	return len(s.open) - len(strings.TrimRight(s.open, "B"))
}

func (s *slowLayout) lay(tokens []impl.Token, i int) {
	tok := tokens[i]
	name := nameOf(tok)
	step := 2
	if i > 0 && blockWords[nameOf(tokens[i-1])] {
		outer := len(s.columns) - 1
		switch {
		case name == "special.{":
			step = 4
		case outer < 0 || tok.Col > s.columns[outer]:
			s.put("{", tok)
			s.open, s.columns = s.open+"B", append(s.columns, tok.Col)
			step = 3
		default:
			s.put("{}", tok)
		}
	}
	if step <= 2 {
		s.line(tokens, i)
	}
	if step <= 3 {
		s.early(tok, name)
	}
	s.laid = append(s.laid, tok)
	s.open += openedThings[name]
}

func (s *slowLayout) line(tokens []impl.Token, i int) {
	for _, ahead := range tokens[:i] {
		if ahead.Line == tokens[i].Line {
			return
		}
	}
	for s.onTop() > 0 && tokens[i].Col < s.columns[len(s.columns)-1] {
		s.close(1, tokens[i])
	}
	if s.onTop() > 0 && tokens[i].Col == s.columns[len(s.columns)-1] {
		s.put(";", tokens[i])
	}
}

func (s *slowLayout) early(tok impl.Token, name string) {
	if thing, closes := endedThings[name]; closes {
		s.close(s.onTop(), tok)
		s.open = strings.TrimSuffix(s.open, thing)
	}
	if under := strings.TrimRight(s.open, "B"); name == "special.," && strings.HasSuffix(under, "(") {
		s.close(s.onTop(), tok)
	}
}

func nameOf(tok impl.Token) string {
	switch tok.Kind {
	case impl.TokWord:
		return "word." + tok.Text
	case impl.TokSpecial:
		return "special." + tok.Text
	}
	return "other"
}

// layoutTokens are those by which layout does something, and one other.
func layoutTokens() []impl.Token {
	tokens := []impl.Token{token(impl.TokName, "x")}
	for _, word := range strings.Fields("where let of in if then else case") {
		tokens = append(tokens, token(impl.TokWord, word))
	}
	for _, special := range strings.Fields("( ) [ ] , { }") {
		tokens = append(tokens, token(impl.TokSpecial, special))
	}
	return tokens
}

// oddTokens are those that look like tokens of layout and are none, or that no text has.
func oddTokens() []impl.Token {
	var tokens []impl.Token
	for _, text := range strings.Fields("where let of in if then else case ( ) [ ] , { } ;") {
		for _, kind := range []int64{-1, 0, impl.TokName, impl.TokString, impl.TokLayout, impl.TokLayout + 1} {
			tokens = append(tokens, token(kind, text))
		}
	}
	return append(tokens, token(impl.TokSpecial, "where"), token(impl.TokWord, "("), token(impl.TokWord, ""), token(impl.TokSpecial, ""), token(impl.TokWord, "Where"), token(impl.TokWord, " let"))
}

// randomList has tokens as a text would have them: lines that grow and columns that grow within a line.
func randomList(r *rand.Rand, most int) []impl.Token {
	choices := layoutTokens()
	var tokens []impl.Token
	line, col := int64(1), int64(1)
	for range r.IntN(most + 1) {
		tok := choices[r.IntN(len(choices))]
		if r.IntN(3) == 0 {
			line, col = line+1+int64(r.IntN(2)), 1+int64(r.IntN(8))
		}
		tok.Line, tok.Col = line, col
		col += int64(len(tok.Text) + r.IntN(2))
		tokens = append(tokens, tok)
	}
	return tokens
}

// randomOddList has any tokens at any places.
func randomOddList(r *rand.Rand, most int) []impl.Token {
	choices := append(append(layoutTokens(), layoutTokens()...), oddTokens()...)
	var tokens []impl.Token
	for range r.IntN(most + 1) {
		tok := choices[r.IntN(len(choices))]
		tok.Line, tok.Col = int64(r.IntN(7)-2), int64(r.IntN(7)-2)
		tokens = append(tokens, tok)
	}
	return tokens
}
