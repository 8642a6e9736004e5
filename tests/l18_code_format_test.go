package tests

import (
	"strings"
	"testing"

	"loop.example/g00017/impl"
)

// A codeRow has a code, and how it is written.
type codeRow struct {
	c    impl.Code
	text string
}

func checkCodeRows(t *testing.T, rows []codeRow) {
	t.Helper()
	behind := "1 2 1 4 (app s0 s3 s2)\n2 0 0 0 1\n"
	for _, row := range rows {
		if got, want := impl.FormatForms(formsAround(row.c)), "0 0 0 3 "+row.text+"\n"+behind; got != want {
			t.Errorf("it is written\n%snot\n%s", got, want)
		}
		checkFormsTold(t, formsAround(row.c))
	}
}

func TestFormatCodes(t *testing.T) {
	one, two := impl.Code{Kind: impl.KInt, Big: impl.BigOf(1)}, impl.Code{Kind: impl.KSlot, A: 2}
	checkCodeRows(t, []codeRow{
		{impl.Code{Kind: impl.KSlot}, "s0"},
		{two, "s2"},
		{impl.Code{Kind: impl.KInt}, "0"},
		{impl.Code{Kind: impl.KInt, Big: impl.BigOf(-12)}, "-12"},
		{impl.Code{Kind: impl.KInt, Big: impl.BigRead("123456789012345678901234567890").Big}, "123456789012345678901234567890"},
		{impl.Code{Kind: impl.KCon, Name: "C"}, "(con C)"},
		{impl.Code{Kind: impl.KCon, Name: "M.C", Refs: []int64{2, 0, 1, 2}}, "(con M.C s2 s0 s1 s2)"},
		{impl.Code{Kind: impl.KCon, Name: "[]"}, "(con [])"},
		{impl.Code{Kind: impl.KCon, Name: "(,)", Refs: []int64{1, 1}}, "(con (,) s1 s1)"},
		{impl.Code{Kind: impl.KApp, A: 1, Refs: []int64{0}}, "(app s1 s0)"},
		{impl.Code{Kind: impl.KApp, A: 0, Refs: []int64{2, 1, 0}}, "(app s0 s2 s1 s0)"},
		{impl.Code{Kind: impl.KPrim, Name: "primShow", Refs: []int64{2}}, "(prim primShow s2)"},
		{impl.Code{Kind: impl.KPrim, Name: "primSub", Refs: []int64{2, 0}}, "(prim primSub s2 s0)"},
		{impl.Code{Kind: impl.KLet, A: 1, Kids: []impl.Code{one, two}}, "(let s1 1 s2)"},
		{impl.Code{Kind: impl.KLet, Kids: []impl.Code{{Kind: impl.KMake, A: 1, Refs: []int64{2, 0}}, {Kind: impl.KMake, A: 2}, {Kind: impl.KCon, Name: "C", Refs: []int64{0}}, two}}, "(let s0 (make 1 s2 s0) (make 2) (con C s0) s2)"},
		{impl.Code{Kind: impl.KLet, A: 0, Kids: []impl.Code{one, {Kind: impl.KLet, A: 1, Kids: []impl.Code{{Kind: impl.KChar, Name: "c"}, two}}}}, "(let s0 1 (let s1 'c' s2))"},
	})
}

func TestFormatCases(t *testing.T) {
	one, two := impl.Code{Kind: impl.KInt, Big: impl.BigOf(1)}, impl.Code{Kind: impl.KSlot, A: 2}
	a, b := impl.CodeAlt{Con: "A", First: 1, Count: 2, Body: two}, impl.CodeAlt{Con: ":", First: 3, Body: one}
	both := []impl.CodeAlt{a, b}
	checkCodeRows(t, []codeRow{
		{impl.Code{Kind: impl.KCase, A: -1, Kids: []impl.Code{one, two}}, "(case 1 - _ s2)"},
		{impl.Code{Kind: impl.KCase, A: 0, Kids: []impl.Code{one, two}}, "(case 1 s0 _ s2)"},
		{impl.Code{Kind: impl.KCase, A: 2, Kids: []impl.Code{one}, Alts: both[:1]}, "(case 1 s2 { A s1 2 s2 })"},
		{impl.Code{Kind: impl.KCase, A: -1, Kids: []impl.Code{one}, Alts: both}, "(case 1 - { A s1 2 s2 } { : s3 0 1 })"},
		{impl.Code{Kind: impl.KCase, A: 1, Kids: []impl.Code{one, two}, Alts: both}, "(case 1 s1 { A s1 2 s2 } { : s3 0 1 } _ s2)"},
		{impl.Code{Kind: impl.KCase, A: 1, Kids: []impl.Code{{Kind: impl.KCase, A: -1, Kids: []impl.Code{two, one}}, {Kind: impl.KCase, A: 2, Kids: []impl.Code{one}, Alts: both[1:]}}}, "(case (case s2 - _ 1) s1 _ (case 1 s2 { : s3 0 1 }))"},
	})
}

// Chars and texts, as a term has them: escapes for a line feed, a backslash and the mark.
func TestFormatCharsAndTexts(t *testing.T) {
	var rows []codeRow
	for text, want := range map[string]string{"a": "'a'", "\n": `'\n'`, `\`: `'\\'`, "'": `'\''`, `"`: `'"'`, " ": "' '", "\x00": "'\x00'", "\xff": "'\xff'", "\t": "'\t'"} {
		rows = append(rows, codeRow{impl.Code{Kind: impl.KChar, Name: text}, want})
	}
	for text, want := range map[string]string{"text": `"text"`, "a\n\nb": `"a\n\nb"`, `\n`: `"\\n"`, `'`: `"'"`, `say "so"`: `"say \"so\""`, "": `""`, "é\x80": "\"é\x80\"", "(con C)": `"(con C)"`} {
		rows = append(rows, codeRow{impl.Code{Kind: impl.KText, Name: text}, want})
	}
	checkCodeRows(t, rows)
	for _, row := range rows {
		text := row.c.Name
		if text == "" {
			continue
		}
		c := coreString(text)
		if row.c.Kind == impl.KChar {
			c = coreChar(text)
		}
		if got, want := impl.FormatForms(impl.FormsOf(c)), "0 0 0 0 "+row.text+"\n"; got != want || row.text != impl.FormatCore(c) {
			t.Errorf("%q is written %s, not %s", text, got, want)
		}
	}
}

// A line for each form, with its number and its three others, and a line feed behind each.
func TestFormatLines(t *testing.T) {
	for _, text := range []string{
		"0 0 0 0 1\n",
		"0 0 0 20000 s19999\n",
		"0 0 0 3 (let s0 (make 1 s1 s2) s0)\n1 2 5 9 s8\n2 0 0 0 'x'\n3 0 1 1 s0\n",
		"0 0 0 0 1\n1 0 0 0 1\n2 0 0 0 1\n3 0 0 0 1\n4 0 0 0 1\n5 0 0 0 1\n6 0 0 0 1\n7 0 0 0 1\n8 0 0 0 1\n9 0 0 0 1\n10 0 0 0 1\n11 0 0 0 1\n",
	} {
		list := readForms(text)
		if got := impl.FormatForms(list); got != text {
			t.Errorf("%s is written %s", text, got)
		}
		checkFormsTold(t, list)
		list[len(list)-1].Body.B = 1
		if got := impl.FormatForms(list); got != "" {
			t.Errorf("a faulty list is written %s", got)
		}
	}
	if impl.FormatForms(nil) != "" || impl.FormatForms([]impl.Form{}) != "" || impl.FormatForms([]impl.Form{{}}) != "" {
		t.Error("faulty lists are written")
	}
	list := impl.FormsOf(severalOf(9000, coreApp(coreInt(1), coreInt(2))))
	if len(list) != 0 {
		t.Error("a term that is too large has forms")
	}
	list = impl.FormsOf(severalOf(6000, coreApp(coreInt(1), coreInt(2))))
	if got := impl.FormatForms(list); len(list) != 6001 || strings.Count(got, "\n") != 6001 || !strings.HasSuffix(got, "\n6000 0 0 2 (let s0 1 (let s1 2 (app s0 s1)))\n") {
		t.Errorf("%d forms have %d lines", len(list), strings.Count(got, "\n"))
	}
}
