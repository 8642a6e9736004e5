package tests

import (
	"strings"
	"testing"

	"loop.example/g00017/impl"
)

type lexFault struct {
	text            string
	code, line, col int64
}

func checkFaults(t *testing.T, faults []lexFault) {
	t.Helper()
	for _, f := range faults {
		checkLex(t, f.text, impl.LexResult{Code: f.code, Line: f.line, Col: f.col})
	}
}

func TestLexBeginsNothing(t *testing.T) {
	checkFaults(t, []lexFault{
		{"\t", 1, 1, 1}, {"a\tb", 1, 1, 2}, {"a\r\n", 1, 1, 2}, {"\x00", 1, 1, 1}, {"a\n  \x7f", 1, 2, 3},
		{"\xc3\xa9", 1, 1, 1}, {"x \xff", 1, 1, 3}, {"ab\x80", 1, 1, 3}, {"1\xc3\xa9", 1, 1, 2}, {"+\xe2\x88\x98", 1, 1, 2},
		{"{-\xc3\xa9-}\t", 1, 1, 7}, {"--\t\n\v", 1, 2, 1}, {"\xa0", 1, 1, 1}, {"\xef\xbf\xbd", 1, 1, 1}, {"\"a\"\f", 1, 1, 4},
		{"\xc2\xa0x", 1, 1, 1}, {"\xef\xbb\xbfx", 1, 1, 1},
	})
}

func TestLexOpenComment(t *testing.T) {
	checkFaults(t, []lexFault{
		{"{-", 2, 1, 1}, {"{-}", 2, 1, 1}, {"{- -", 2, 1, 1}, {"{-{--}", 2, 1, 1}, {"{-{-}-}", 2, 1, 1}, {"a {- {- -}", 2, 1, 3},
		{"a\n\n  {-\n{-\n-}", 2, 3, 3}, {"{--}{-", 2, 1, 5}, {"{-\xff\t", 2, 1, 1}, {"x{-'-'}", 2, 1, 2}, {"{-{-{-", 2, 1, 1}, {"{-\n-", 2, 1, 1},
	})
}

func TestLexBadNumber(t *testing.T) {
	long := strings.Repeat("1", impl.MaxDigits)
	checkFaults(t, []lexFault{
		{"01", 3, 1, 1}, {"00", 3, 1, 1}, {"\n 01", 3, 2, 2}, {"x 007", 3, 1, 3}, {"-01", 3, 1, 2}, {long + "1", 3, 1, 1}, {long + "0", 3, 1, 1},
		{" " + long + "1", 3, 1, 2}, {"0" + long, 3, 1, 1}, {strings.Repeat("9", impl.MaxSource), 3, 1, 1}, {"1.01", 3, 1, 3},
	})
	checkLex(t, long+"x", tokensOnly(tokenAt(5, long, 1, 1), tokenAt(1, "x", 1, impl.MaxDigits+1)))
	checkLex(t, "0 1", tokensOnly(tokenAt(5, "0", 1, 1), tokenAt(5, "1", 1, 3)))
}

func TestLexBadQuote(t *testing.T) {
	checkFaults(t, []lexFault{
		{"'", 4, 1, 1}, {"''", 4, 1, 1}, {"'''", 4, 1, 1}, {"'ab'", 4, 1, 1}, {"'a", 4, 1, 1}, {"'a\n'", 4, 1, 1}, {"'\n'", 4, 1, 1}, {"'\\'", 4, 1, 1}, {"'\\", 4, 1, 1}, {"'\\nn'", 4, 1, 1},
		{"'\\t'", 4, 1, 1}, {"'\\0'", 4, 1, 1}, {"'\t'", 4, 1, 1}, {"'\x7f'", 4, 1, 1}, {"'\xc3\xa9'", 4, 1, 1}, {"'\x1f'", 4, 1, 1}, {"'\\\n'", 4, 1, 1}, {"'\\N'", 4, 1, 1},
		{"\"", 4, 1, 1}, {"\"a", 4, 1, 1}, {"x \"a\nb\"", 4, 1, 3}, {"\"\\q\"", 4, 1, 1}, {"\"\\\"", 4, 1, 1}, {"\"\\\n\"", 4, 1, 1}, {"\"\t\"", 4, 1, 1}, {"\"a\xffb\"", 4, 1, 1}, {"\"\x7f\"", 4, 1, 1},
		{"\n\n   \"abc\\", 4, 3, 4}, {"\"\"\"", 4, 1, 3}, {"'a''", 4, 1, 4}, {"\"\x1f\"", 4, 1, 1}, {"\"\\\xc3\xa9\"", 4, 1, 1}, {"+'", 4, 1, 2}, {"1'", 4, 1, 2},
	})
}

// What stands first in the text is told, whatever its code.
func TestLexFirstFaultIsTold(t *testing.T) {
	checkFaults(t, []lexFault{
		{"{- 01 \t ''", 2, 1, 1}, {"01 {- \t ''", 3, 1, 1}, {"'' {- \t 01", 4, 1, 1}, {"\t 01 {- ''", 1, 1, 1},
		{"'{- 01", 4, 1, 1}, {"\"01 {- -}", 4, 1, 1}, {"{- -} 01 {-", 3, 1, 7}, {"x 01\n''", 3, 1, 3}, {"x\n''01", 4, 2, 1}, {"a 00'", 3, 1, 3},
	})
}

func TestLexTooLong(t *testing.T) {
	more := impl.MaxSource + 1
	for _, text := range []string{
		strings.Repeat(" ", more), strings.Repeat("x", more), strings.Repeat("\n", more), strings.Repeat("\t", more), strings.Repeat("0", more),
		"{-" + strings.Repeat("-", more-2), "'" + strings.Repeat("-", more-1), strings.Repeat("\xc3\xa9", more/2+1), strings.Repeat("x ", 1000000),
	} {
		checkLex(t, text, impl.LexResult{Code: 5, Line: 1, Col: 1})
	}
	// Bytes are counted, not runes, and one fewer is a fault of another kind.
	checkLex(t, strings.Repeat("\xc3\xa9", impl.MaxSource/2), impl.LexResult{Code: 1, Line: 1, Col: 1})
	checkLex(t, strings.Repeat("\n", more-2)+"\t", impl.LexResult{Code: 1, Line: int64(more - 1), Col: 1})
	checkLex(t, "{-"+strings.Repeat("-", more-3), impl.LexResult{Code: 2, Line: 1, Col: 1})
}
