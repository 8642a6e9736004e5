package tests

import (
	"slices"
	"strings"
	"sync"
	"testing"
	"unsafe"

	"loop.example/g00017/impl"
)

func severalTexts() []string {
	return []string{
		"", "x", "f x = \"a\\n\" ++ ['c'] -- end\n where y' = 12 :| A", "a\tb", "{- {- -}", "\n 01", "''", strings.Repeat("(x) ", 2000), strings.Repeat("x", impl.MaxSource+1),
		impl.SpellAll(someTokens()),
	}
}

func addressOf(text string) uintptr { return uintptr(unsafe.Pointer(unsafe.StringData(text))) }

// within says whether a text lies in the memory of another.
func within(inner, outer string) bool {
	if inner == "" || outer == "" {
		return false
	}
	from, at := addressOf(outer), addressOf(inner)
	return from <= at && at < from+uintptr(len(outer))
}

func TestLexKeepsNothingOfTheText(t *testing.T) {
	for _, text := range severalTexts() {
		own := strings.Clone(text)
		for _, tok := range impl.Lex(own).Tokens {
			if within(tok.Text, own) {
				t.Errorf("%q lies in the text", tok.Text)
			}
		}
	}
}

func TestSpellKeepsNothingOfTheToken(t *testing.T) {
	for _, tok := range append(someTokens(), token(11, "{"), token(11, ";")) {
		tok.Text = strings.Clone(tok.Text)
		if within(impl.Spell(tok), tok.Text) || within(impl.SpellAll([]impl.Token{tok}), tok.Text) {
			t.Errorf("%v shares its text", tok)
		}
	}
}

func TestLexAnswersAreNewMemory(t *testing.T) {
	for _, text := range severalTexts() {
		first := impl.Lex(text)
		want := impl.LexResult{Code: first.Code, Line: first.Line, Col: first.Col, Tokens: slices.Clone(first.Tokens)}
		room := first.Tokens[:cap(first.Tokens)]
		for i := range room {
			room[i] = tokenAt(99, "spoilt", -1, -1)
		}
		if again := impl.Lex(text); !sameLex(again, want) {
			t.Errorf("%.40q is read another way behind a change of its answer", text)
		}
	}
}

func TestSpellAllChangesNothing(t *testing.T) {
	tokens := append(someTokens(), token(0, "x"), token(11, "{"), token(1, "where"), tokenAt(1, "a", -5, 7))
	room := append(slices.Clone(tokens), token(1, "behind"), token(1, "behind"))
	want := impl.SpellAll(tokens)
	if got := impl.SpellAll(room[:len(tokens)]); got != want {
		t.Error("SpellAll hangs on what stands behind its list")
	}
	if !slices.Equal(room[:len(tokens)], tokens) || room[len(tokens)].Text != "behind" || room[len(tokens)+1].Text != "behind" {
		t.Error("SpellAll changes its list")
	}
	if strings.Contains(want, "behind") {
		t.Error("SpellAll reads behind its list")
	}
}

// Calls at the same time and in any order answer alike.
func TestLexAnswersHangOnArgumentsAlone(t *testing.T) {
	texts := severalTexts()
	tokens := append(someTokens(), token(0, "x"), token(1, "where"), token(11, "}"))
	var read []impl.LexResult
	for _, text := range texts {
		read = append(read, impl.Lex(text))
	}
	spelt := impl.SpellAll(tokens)
	var all sync.WaitGroup
	for worker := range 8 {
		all.Go(func() {
			for i := range texts {
				at := (i*7 + worker) % len(texts)
				if !sameLex(impl.Lex(texts[at]), read[at]) {
					t.Errorf("%.40q is read another way", texts[at])
				}
			}
			if impl.SpellAll(tokens) != spelt {
				t.Error("tokens are spelt another way")
			}
			for _, tok := range tokens {
				if impl.TokenFault(tok) != (impl.Spell(tok) == "") {
					t.Errorf("%v has a fault and is spelt", tok)
				}
			}
		})
	}
	all.Wait()
}

// With a code all else but the place is zero; without one the place is zero.
func TestLexCodesStandAlone(t *testing.T) {
	for _, text := range append(severalTexts(), "a b c \t", "a b\n'", "x y 01", "( ) {-") {
		r := impl.Lex(text)
		if r.Code == 0 && (r.Line != 0 || r.Col != 0) {
			t.Errorf("%.40q: a place without a code", text)
		}
		if r.Code != 0 && (len(r.Tokens) != 0 || r.Line < 1 || r.Col < 1) {
			t.Errorf("%.40q: code %d with %d tokens", text, r.Code, len(r.Tokens))
		}
	}
}
