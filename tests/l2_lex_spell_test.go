package tests

import (
	"math/rand/v2"
	"slices"
	"strings"
	"testing"

	"loop.example/g00017/impl"
)

func checkFaulty(t *testing.T, tok impl.Token) {
	t.Helper()
	if !impl.TokenFault(tok) || impl.Spell(tok) != "" {
		t.Errorf("%d %.40q has no fault, and is spelt %.40q", tok.Kind, tok.Text, impl.Spell(tok))
	}
	behind := []impl.Token{token(1, "a"), tok, token(1, "b"), tok}
	if all := impl.SpellAll(behind); all != "a b" {
		t.Errorf("%d %.40q is spelt among others: %.60q", tok.Kind, tok.Text, all)
	}
}

func checkSpelt(t *testing.T, tok impl.Token, want string) {
	t.Helper()
	if got := impl.Spell(tok); impl.TokenFault(tok) || got != want {
		t.Errorf("%d %.40q is spelt %.40q, not %.40q (fault: %v)", tok.Kind, tok.Text, got, want, impl.TokenFault(tok))
	}
	if all := impl.SpellAll([]impl.Token{tok}); all != want {
		t.Errorf("%d %.40q is spelt alone %.40q", tok.Kind, tok.Text, all)
	}
}

func TestSpellWritten(t *testing.T) {
	for _, tok := range someTokens() {
		if tok.Kind != impl.TokChar && tok.Kind != impl.TokString {
			checkSpelt(t, tok, tok.Text)
		}
	}
	for text, want := range map[string]string{"a": `'a'`, "\n": `'\n'`, `\`: `'\\'`, "'": `'\''`, `"`: `'"'`, " ": `' '`, "~": `'~'`, "n": `'n'`} {
		checkSpelt(t, token(impl.TokChar, text), want)
	}
	for text, want := range map[string]string{"": `""`, "a": `"a"`, "\n": `"\n"`, `\`: `"\\"`, "'": `"'"`, `"`: `"\""`, "\\n\n'\"": `"\\n\n'\""`, "--": `"--"`} {
		checkSpelt(t, token(impl.TokString, text), want)
	}
	for _, text := range []string{"{", ";", "}"} {
		checkSpelt(t, token(impl.TokLayout, text), text)
	}
}

func TestTokenFaultHangsNotOnThePlace(t *testing.T) {
	for _, place := range []int64{0, 1, -1, 1 << 62, -1 << 63} {
		for _, tok := range someTokens() {
			want := impl.Spell(tok)
			tok.Line, tok.Col = place, -place
			if impl.TokenFault(tok) || impl.Spell(tok) != want {
				t.Errorf("%v at %d has a fault", tok, place)
			}
		}
		if tok := tokenAt(1, "where", place, place); !impl.TokenFault(tok) {
			t.Errorf("%v at %d has no fault", tok, place)
		}
	}
}

func TestTokenFaultOfEachKind(t *testing.T) {
	wrong := map[int64][]string{
		impl.TokName:    {"", "A", "1", "1a", "'a", "a b", " a", "a ", "a\n", "a-", "where", "_", "é", "aé", "a--", "a{--}", "a;", "-- a", "a\x00"},
		impl.TokCon:     {"", "a", "_A", "A B", "A.B", "A ", " A", "1A", "É", "Aé", "A--", ":"},
		impl.TokOp:      {"", "--", "---", "-- ", "=", "|", "->", "<-", "\\", "::", "=>", "..", "@", "~", "!", ":", ":+", "+ +", "+a", "(", "`", "+{--}", "∘", "+\n", " +"},
		impl.TokConOp:   {"", "::", "+:", "-", ": :", ":a", ":(", " :", ":\n"},
		impl.TokNumber:  {"", "01", "00", "-1", "+1", "1a", "1 ", " 1", "1.0", "1e3", "0x1", "1_0", "٣", strings.Repeat("1", 301)},
		impl.TokChar:    {"", "ab", "\t", "\x00", "\x1f", "\x7f", "\x80", "é", "\n\n", "\\n", "''", "\r"},
		impl.TokString:  {"\t", "a\x00", "\x7f", "é", "\xff", "a\rb"},
		impl.TokWord:    {"", "x", "Case", "case ", " case", "as", "__", "hiding", "type", "=", "do", "qualified", "forall"},
		impl.TokMark:    {"", "-", "--", ":", "==", "-->", "- >", "(", "= ", " =", "_", "<", "."},
		impl.TokSpecial: {"", "()", "{-", "-}", "( ", " (", "'", "\"", "=", "x", "{-x-}", "{}", "\n"},
		impl.TokLayout:  {"", "(", "{ ", " ;", "{}", ";;", ",", "x", "{-", "[", "}\n"},
	}
	for kind, texts := range wrong {
		for _, text := range texts {
			checkFaulty(t, token(kind, text))
		}
	}
}

func TestTokenFaultOfNoKind(t *testing.T) {
	texts := []string{"", "x", "X", "+", ":+", "1", "a", "where", "=", "(", "{", ";", "}"}
	for _, kind := range []int64{0, -1, 12, 13, 100, 256 + 1, 1<<32 + 1, 1<<63 - 1, -1 << 63} {
		for _, text := range texts {
			checkFaulty(t, token(kind, text))
		}
	}
}

// What is one kind is no other, but for a brace or a semicolon and what is quoted.
func TestTokenFaultOfOtherKinds(t *testing.T) {
	for _, tok := range someTokens() {
		for kind := int64(impl.TokName); kind < impl.TokLayout; kind++ {
			if kind == impl.TokChar || kind == impl.TokString || tok.Kind == impl.TokChar || tok.Kind == impl.TokString {
				continue
			}
			if fault := impl.TokenFault(token(kind, tok.Text)); fault != (kind != tok.Kind) {
				t.Errorf("%q as %d has a fault: %v", tok.Text, kind, fault)
			}
		}
	}
}

func TestTokenFaultOfEveryByte(t *testing.T) {
	for b := range 256 {
		one := string([]byte{byte(b)})
		readable := b == '\n' || 32 <= b && b <= 126
		if impl.TokenFault(token(impl.TokChar, one)) == readable || impl.TokenFault(token(impl.TokString, one)) == readable {
			t.Error("byte", b)
		}
	}
}

func TestTokenFaultAtTheMost(t *testing.T) {
	most := impl.MaxSource
	for kind, one := range map[int64]string{impl.TokName: "x", impl.TokCon: "X", impl.TokOp: "+", impl.TokConOp: ":"} {
		checkSpelt(t, token(kind, strings.Repeat(one, most)), strings.Repeat(one, most))
		checkFaulty(t, token(kind, strings.Repeat(one, most+1)))
	}
	digits := strings.Repeat("7", impl.MaxDigits)
	checkSpelt(t, token(impl.TokNumber, digits), digits)
	checkFaulty(t, token(impl.TokNumber, digits+"7"))
	checkSpelt(t, token(impl.TokString, strings.Repeat("'", most-2)), `"`+strings.Repeat("'", most-2)+`"`)
	checkFaulty(t, token(impl.TokString, strings.Repeat("'", most-1)))
	for one, written := range map[string]string{"\n": `\n`, "\\": `\\`, "\"": `\"`} {
		half := most/2 - 1
		checkSpelt(t, token(impl.TokString, strings.Repeat(one, half)), `"`+strings.Repeat(written, half)+`"`)
		checkFaulty(t, token(impl.TokString, strings.Repeat(one, half)+"x"))
		checkFaulty(t, token(impl.TokString, strings.Repeat(one, 10*most)))
	}
}

// checkFaultsAgainstTexts: exactly what some short text has is without fault.
func checkFaultsAgainstTexts(t *testing.T, pieces []string, longest int, candidates []string, most int, kinds []int64) {
	t.Helper()
	type pair struct {
		kind int64
		text string
	}
	seen := map[pair]bool{}
	eachText(pieces, longest, func(text string) {
		for _, tok := range impl.Lex(text).Tokens {
			seen[pair{tok.Kind, tok.Text}] = true
		}
	})
	eachText(candidates, most, func(text string) {
		for _, kind := range kinds {
			if impl.TokenFault(token(kind, text)) == seen[pair{kind, text}] {
				t.Errorf("%d %q: is in a text: %v", kind, text, seen[pair{kind, text}])
			}
		}
	})
}

func TestTokenFaultIsExact(t *testing.T) {
	quotes := []string{"'", "\"", "\\", "n", "-", "0", "1", "\t"}
	all := []int64{0, 1, 2, 3, 4, 5, 6, 7, 8, 9, 10}
	checkFaultsAgainstTexts(t, quotes, 6, append([]string{"\n"}, quotes...), 2, all)
	unquoted := []int64{0, 1, 2, 3, 4, 5, 8, 9, 10}
	others := []string{"-", "}", "{", "_", "i", "n", "A", "=", ">", ":", "|", ".", " ", "(", "'", "0"}
	checkFaultsAgainstTexts(t, others, 3, others, 3, unquoted)
}

func TestSpellAllWritten(t *testing.T) {
	for _, c := range []struct {
		tokens []impl.Token
		want   string
	}{
		{nil, ""},
		{[]impl.Token{}, ""},
		{[]impl.Token{token(0, "x")}, ""},
		{[]impl.Token{token(1, "where"), token(9, "--")}, ""},
		{[]impl.Token{token(1, "f"), token(9, "="), token(7, "")}, `f = ""`},
		{[]impl.Token{token(7, ""), token(7, "")}, `"" ""`},
		{[]impl.Token{token(8, "let"), token(11, "{"), token(1, "x"), token(11, ";"), token(11, "}")}, "let { x ; }"},
		{[]impl.Token{token(10, "{"), token(3, "-"), token(3, "-"), token(10, "}")}, "{ - - }"},
		{[]impl.Token{token(0, "f"), token(6, "'"), token(6, ""), token(6, "\n"), token(12, "f")}, `'\'' '\n'`},
	} {
		if got := impl.SpellAll(c.tokens); got != c.want {
			t.Errorf("%v is spelt %q, not %q", c.tokens, got, c.want)
		}
	}
}

func randomToken(r *rand.Rand, some []impl.Token) impl.Token {
	if r.IntN(3) > 0 {
		return some[r.IntN(len(some))]
	}
	chars := "\n !\"'-0:=AZ\\_az{}~"
	for {
		text := randomText(r, strings.Split(chars, ""), 6)
		if tok := token(r.Int64N(impl.TokLayout), text); !impl.TokenFault(tok) {
			return tok
		}
	}
}

// placedInARow says where tokens stand if they are spelt with one blank between.
func placedInARow(tokens []impl.Token) []impl.Token {
	placed := slices.Clone(tokens)
	col := int64(1)
	for i := range placed {
		placed[i].Line, placed[i].Col = 1, col
		col += int64(len(impl.Spell(placed[i]))) + 1
	}
	return placed
}

func TestSpeltTokensAreReadAgain(t *testing.T) {
	some := someTokens()
	for _, a := range some {
		for _, b := range some {
			pair := placedInARow([]impl.Token{a, b})
			checkLex(t, impl.SpellAll(pair), tokensOnly(pair...))
		}
	}
	r := rand.New(rand.NewPCG(2, 2))
	for range 2000 {
		var tokens []impl.Token
		for range r.IntN(30) {
			tokens = append(tokens, randomToken(r, some))
		}
		checkLex(t, impl.SpellAll(tokens), tokensOnly(placedInARow(tokens)...))
	}
}

// Blanks, lines and comments between tokens move them and turn nothing else.
func TestTokensStandWhereTold(t *testing.T) {
	some := someTokens()
	gaps := []string{" ", "   ", "\n", "\n\n  ", " {--} ", "{-\n-}", " -- x\n", " --\t\xff\n ", " {- {-\xc3\xa9-} \n -} "}
	r := rand.New(rand.NewPCG(2, 3))
	for range 2000 {
		text := ""
		var want []impl.Token
		for range r.IntN(20) {
			tok := randomToken(r, some)
			text += gaps[r.IntN(len(gaps))]
			tok.Line = int64(strings.Count(text, "\n")) + 1
			tok.Col = int64(len(text) - strings.LastIndex(text, "\n"))
			text += impl.Spell(tok)
			want = append(want, tok)
		}
		checkLex(t, text, tokensOnly(want...))
	}
}

func TestSpellAllAtTheMost(t *testing.T) {
	tokens := slices.Repeat([]impl.Token{token(1, "x")}, impl.MaxSource/2)
	text := impl.SpellAll(tokens)
	if len(text) != impl.MaxSource-1 || len(impl.Lex(text).Tokens) != len(tokens) {
		t.Error(len(text), "bytes are read as", len(impl.Lex(text).Tokens), "tokens")
	}
	tokens = append(tokens, token(3, "-"))
	text = impl.SpellAll(tokens)
	if len(text) != impl.MaxSource+1 || !strings.HasSuffix(text, "x x -") || impl.Lex(text).Code != 5 {
		t.Error(len(text), "bytes are read with code", impl.Lex(text).Code)
	}
}
