package tests

import (
	"math/rand/v2"
	"regexp"
	"slices"
	"strings"
	"testing"

	"loop.example/g00017/impl"
)

const symbolBytes = "!#$%&*+./<=>?@\\^|-~:"

func allWords() []string {
	return []string{"case", "class", "data", "deriving", "else", "if", "import", "in", "infix", "infixl", "infixr", "instance", "let", "module", "of", "then", "where", "_"}
}

func allMarks() []string {
	return []string{"=", "|", "->", "<-", "\\", "::", "=>", "..", "@", "~", "!"}
}

func allSpecials() []string {
	return []string{"(", ")", "[", "]", ",", ";", "`", "{", "}"}
}

func token(kind int64, text string) impl.Token {
	return impl.Token{Kind: kind, Text: text}
}

func tokenAt(kind int64, text string, line, col int64) impl.Token {
	return impl.Token{Kind: kind, Text: text, Line: line, Col: col}
}

// someTokens has each kind that a text can have, with texts that press on its edges.
func someTokens() []impl.Token {
	byKind := map[int64][]string{
		impl.TokName:   {"x", "x'", "_x", "__", "_1", "_A", "a_B9'", "casE", "cases", "of'", "i", "infixlr", "z"},
		impl.TokCon:    {"A", "Z", "Ab_1'", "Case", "A''", "OF"},
		impl.TokOp:     {"-", "+", "--|", "|--", "-->", "==", "=>>", "->-", "...", ".", "<", "/\\", "\\\\", "|:", "!!", "~~", "@@", "-:", symbolBytes},
		impl.TokConOp:  {":", ":::", ":+", ":--", ":=", ":->"},
		impl.TokNumber: {"0", "1", "9", "10", "1000", strings.Repeat("9", impl.MaxDigits)},
		impl.TokChar:   {"a", " ", "~", "\n", "\\", "'", "\"", "0", "n"},
		impl.TokString: {"", "a", "\n", "\\n", "\\", "'", "\"", "\"\\'\n", "-- {- -}", " two  words ", "''"},
		impl.TokWord:   allWords(), impl.TokMark: allMarks(), impl.TokSpecial: allSpecials(),
	}
	var tokens []impl.Token
	for kind := int64(impl.TokName); kind < impl.TokLayout; kind++ {
		for _, text := range byKind[kind] {
			tokens = append(tokens, token(kind, text))
		}
	}
	return tokens
}

func sameLex(a, b impl.LexResult) bool {
	return a.Code == b.Code && a.Line == b.Line && a.Col == b.Col && slices.Equal(a.Tokens, b.Tokens)
}

// eachText goes through all texts of at most so many pieces.
func eachText(pieces []string, most int, look func(text string)) {
	var grow func(text string, left int)
	grow = func(text string, left int) {
		look(text)
		if left == 0 {
			return
		}
		for _, p := range pieces {
			grow(text+p, left-1)
		}
	}
	grow("", most)
}

func randomText(r *rand.Rand, pieces []string, most int) string {
	var text strings.Builder
	for range r.IntN(most + 1) {
		text.WriteString(pieces[r.IntN(len(pieces))])
	}
	return text.String()
}

// A slowLexer is a second reading of the chapter, by patterns, to hold the program against.
type slowLexer struct {
	blank, name, number, char, str, symbols, special *regexp.Regexp
	unescape                                         *strings.Replacer
}

func newSlowLexer() slowLexer {
	return slowLexer{
		blank:    regexp.MustCompile(`^[ \n]+`),
		name:     regexp.MustCompile(`^[A-Za-z_][A-Za-z0-9_']*`),
		number:   regexp.MustCompile(`^[0-9]+`),
		char:     regexp.MustCompile(`^'(?:[ -&(-\[\]-~]|\\[n\\'"])'`),
		str:      regexp.MustCompile(`^"(?:[ !#-\[\]-~]|\\[n\\'"])*"`),
		symbols:  regexp.MustCompile(`^[!#$%&*+./<=>?@\\^|\-~:]+`),
		special:  regexp.MustCompile("^[()\\[\\],;`{}]"),
		unescape: strings.NewReplacer(`\n`, "\n", `\\`, `\`, `\'`, `'`, `\"`, `"`),
	}
}

// nestedEnd answers how long the comment at the beginning is, or 0 if it does not end.
func nestedEnd(text string) int {
	at := 2
	for at < len(text) {
		switch {
		case strings.HasPrefix(text[at:], "-}"):
			return at + 2
		case strings.HasPrefix(text[at:], "{-"):
			inner := nestedEnd(text[at:])
			if inner == 0 {
				return 0
			}
			at += inner
		default:
			at++
		}
	}
	return 0
}

func dashesAlone(symbols string) bool {
	return len(symbols) > 1 && symbols == strings.Repeat("-", len(symbols))
}

// step answers the kind (0: none) and text of what begins here, how long it is, and a code.
func (l slowLexer) step(rest string) (kind int64, text string, length int, code int64) {
	if m := l.blank.FindString(rest); m != "" {
		return 0, "", len(m), 0
	}
	if strings.HasPrefix(rest, "{-") {
		if end := nestedEnd(rest); end > 0 {
			return 0, "", end, 0
		}
		return 0, "", 0, 2
	}
	if m := l.symbols.FindString(rest); m != "" {
		if dashesAlone(m) {
			line, _, _ := strings.Cut(rest, "\n")
			return 0, "", len(line), 0
		}
		return operatorKind(m), m, len(m), 0
	}
	if m := l.name.FindString(rest); m != "" {
		return nameKind(m), m, len(m), 0
	}
	if m := l.special.FindString(rest); m != "" {
		return impl.TokSpecial, m, len(m), 0
	}
	return l.literal(rest)
}

func (l slowLexer) literal(rest string) (kind int64, text string, length int, code int64) {
	if m := l.number.FindString(rest); m != "" {
		if len(m) > impl.MaxDigits || m != "0" && m[0] == '0' {
			return 0, "", 0, 3
		}
		return impl.TokNumber, m, len(m), 0
	}
	if m := l.char.FindString(rest); m != "" {
		return impl.TokChar, l.unescape.Replace(m[1 : len(m)-1]), len(m), 0
	}
	if m := l.str.FindString(rest); m != "" {
		return impl.TokString, l.unescape.Replace(m[1 : len(m)-1]), len(m), 0
	}
	if rest[0] == '\'' || rest[0] == '"' {
		return 0, "", 0, 4
	}
	return 0, "", 0, 1
}

func operatorKind(m string) int64 {
	switch {
	case slices.Contains(allMarks(), m):
		return impl.TokMark
	case m[0] == ':':
		return impl.TokConOp
	}
	return impl.TokOp
}

func nameKind(m string) int64 {
	switch {
	case slices.Contains(allWords(), m):
		return impl.TokWord
	case 'A' <= m[0] && m[0] <= 'Z':
		return impl.TokCon
	}
	return impl.TokName
}

func (l slowLexer) lex(text string) impl.LexResult {
	if len(text) > impl.MaxSource {
		return impl.LexResult{Code: 5, Line: 1, Col: 1}
	}
	var tokens []impl.Token
	for at := 0; at < len(text); {
		line := int64(strings.Count(text[:at], "\n")) + 1
		col := int64(at - strings.LastIndex(text[:at], "\n"))
		kind, meaning, length, code := l.step(text[at:])
		if code != 0 {
			return impl.LexResult{Code: code, Line: line, Col: col}
		}
		if kind != 0 {
			tokens = append(tokens, tokenAt(kind, meaning, line, col))
		}
		at += length
	}
	return impl.LexResult{Tokens: tokens}
}

func checkLex(t *testing.T, text string, want impl.LexResult) {
	t.Helper()
	if got := impl.Lex(text); !sameLex(got, want) {
		t.Errorf("Lex(%.60q) is %v, not %v", text, got, want)
	}
}

func tokensOnly(tokens ...impl.Token) impl.LexResult {
	return impl.LexResult{Tokens: tokens}
}
