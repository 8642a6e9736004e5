package tests

import (
	"strings"
	"testing"

	"loop.example/g00017/impl"
)

// someNames has the texts of all tokens, and texts that no token has.
func someNames() []string {
	names := []string{
		"", "all", "infix", "infixl", "infixr", "infixlr", "fix", " ", "x ", " x", "x y", "1x", "X.y", "a-b", "+a", "(+)", "`f`", "é", "\x80", "\x00", "\t", "\r", "\x7f",
		"ab", "''", "--", "---", "-->", "-", "--}", "{-", "-}", ":", "::", ":::", ":+", "+:", "!", "~", "!~", "!!", "-0", "-1", "-01", "--1", "-", "+1", "00", "01", "1.5", "0x1",
		"'", "\"", "\\", "a\nb", "a\tb", "a\x1fb", "a\x7fb", "<mark>", "x--y", "A:", "M.x",
		"-" + strings.Repeat("9", impl.MaxDigits), strings.Repeat("9", impl.MaxDigits+1), "-" + strings.Repeat("9", impl.MaxDigits+1),
		strings.Repeat("x", impl.MaxSource), strings.Repeat("x", impl.MaxSource+1), strings.Repeat("+", impl.MaxSource), strings.Repeat("x", impl.MaxSource-2), strings.Repeat("x", impl.MaxSource-1), strings.Repeat("\n", impl.MaxSource/2-1), strings.Repeat("\n", impl.MaxSource/2), strings.Repeat("-", impl.MaxSource),
	}
	for _, tok := range someTokens() {
		names = append(names, tok.Text)
	}
	for b := range 256 {
		names = append(names, string([]byte{byte(b)}), "x"+string([]byte{byte(b)}))
	}
	return names
}

func TestNamesOfEveryKind(t *testing.T) {
	plain, c := plainTrees(), newSlowChecker()
	for _, kind := range allKinds() {
		for _, name := range someNames() {
			checkTree(t, c, tree(kind, name, plain[kind].Kids...))
		}
	}
}

// The names by kinds hang on TokenFault, but for the two marks that may be operators.
func TestNamesAreTextsOfTokens(t *testing.T) {
	plain := plainTrees()
	for _, row := range []struct{ kinds, toks []int64 }{
		{[]int64{impl.PVar, impl.PAs, impl.TVar}, []int64{impl.TokName}},
		{[]int64{impl.NVar, impl.DClause}, []int64{impl.TokName, impl.TokOp}},
		{[]int64{impl.NCon, impl.PCon}, []int64{impl.TokCon, impl.TokConOp}},
		{[]int64{impl.TCon, impl.DData, impl.DConstr, impl.DClass, impl.DInst, impl.DImport, impl.DModule}, []int64{impl.TokCon}},
		{[]int64{impl.NLeft, impl.NRight, impl.DItem}, []int64{impl.TokName, impl.TokOp, impl.TokCon, impl.TokConOp}},
		{[]int64{impl.NNum}, []int64{impl.TokNumber}},
		{[]int64{impl.NChar, impl.PChar}, []int64{impl.TokChar}},
		{[]int64{impl.NStr, impl.PStr}, []int64{impl.TokString}},
	} {
		for _, name := range someNames() {
			want := int64(2)
			for _, tok := range row.toks {
				if !impl.TokenFault(token(tok, name)) || tok == impl.TokOp && (name == "!" || name == "~") {
					want = 0
				}
			}
			for _, kind := range row.kinds {
				checkNodeFault(t, want, tree(kind, name, plain[kind].Kids...))
			}
		}
	}
}

// checkNamed holds the fault of a node of each kind with each name against one answer.
func checkNamed(t *testing.T, want int64, kinds []int64, names ...string) {
	t.Helper()
	plain := plainTrees()
	for _, kind := range kinds {
		for _, name := range names {
			checkNodeFault(t, want, tree(kind, name, plain[kind].Kids...))
		}
	}
}

func TestNamesOfVariables(t *testing.T) {
	names := []int64{impl.PVar, impl.PAs, impl.TVar}
	checkNamed(t, 0, names, "x", "_x", "x'", "all", "infixs", "a1")
	checkNamed(t, 2, names, "", "X", "+", "!", "~", ":", "_", "where", "1", "x y", "é", "x+")
	either := []int64{impl.NVar, impl.DClause}
	checkNamed(t, 0, either, "x", "_x", "+", "-", "!", "~", "--|", "|:", "!!")
	checkNamed(t, 2, either, "", "X", ":", ":+", "_", "case", "=", "..", "@", "\\", "->", "--", "(+)", "`f`", "=>", "::")
}

func TestNamesOfConstructors(t *testing.T) {
	either := []int64{impl.NCon, impl.PCon}
	checkNamed(t, 0, either, "C", "C'", ":", ":+", ":::")
	checkNamed(t, 2, either, "", "c", "+", "!", "~", "::", "C.D", "[]", "()")
	alone := []int64{impl.TCon, impl.DData, impl.DConstr, impl.DClass, impl.DInst, impl.DImport, impl.DModule}
	checkNamed(t, 0, alone, "C", "C'", "Case")
	checkNamed(t, 2, alone, "", "c", ":", ":+", "+", "!", "where", "C D")
	any := []int64{impl.NLeft, impl.NRight, impl.DItem}
	checkNamed(t, 0, any, "x", "C", "+", "-", ":", ":+", "!", "~")
	checkNamed(t, 2, any, "", "_", "of", "=", "::", "1", "--", "x y", "`f`")
}

func TestNamesOfNumbers(t *testing.T) {
	both := []int64{impl.NNum, impl.PNum}
	most := strings.Repeat("9", impl.MaxDigits)
	checkNamed(t, 0, both, "0", "7", "10", most)
	checkNamed(t, 2, both, "", "-", "-0", "--1", "01", "-01", "00", "+1", "1 ", " 1", "- 1", "x", "1-", "9"+most, "-9"+most)
	checkNamed(t, 0, []int64{impl.PNum}, "-1", "-10", "-"+most)
	checkNamed(t, 2, []int64{impl.NNum}, "-1", "-10", "-"+most)
}

func TestNamesOfCharsAndStrings(t *testing.T) {
	chars, strs := []int64{impl.NChar, impl.PChar}, []int64{impl.NStr, impl.PStr}
	checkNamed(t, 2, chars, "", "ab", "\\n", "''", "é")
	checkNamed(t, 0, strs, "", "ab", "\\n", "\"'\\", "two\nlines", "where")
	for b := range 256 {
		want := int64(2)
		if b == '\n' || ' ' <= b && b <= '~' {
			want = 0
		}
		text := string([]byte{byte(b)})
		checkNamed(t, want, chars, text)
		checkNamed(t, want, strs, text, "a"+text+"b")
		checkNamed(t, 2, chars, text+text)
	}
}

func TestNamesOfFixities(t *testing.T) {
	fix := []int64{impl.DFix}
	checkNamed(t, 0, fix, "infix", "infixl", "infixr")
	checkNamed(t, 2, fix, "", "infixn", "infixlr", "fix", "infix infixl", "infixl ", " infixl", "Infix", "x", "case")
}

func TestNamesWhereThereAreNone(t *testing.T) {
	var none []int64
	named := newSlowChecker().names
	for _, kind := range allKinds() {
		if named[kind] == nil {
			none = append(none, kind)
		}
	}
	if len(none) != 28 {
		t.Errorf("%d kinds without a name", len(none))
	}
	checkNamed(t, 0, none, "")
	checkNamed(t, 2, none, "x", "C", "+", "1", "all", "_", "\x00")
}
