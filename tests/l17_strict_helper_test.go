package tests

import (
	"strings"
	"testing"

	"loop.example/g00017/impl"
)

// checkStrict holds what is told of a term and names against the second reading, and answers in how many it is strict.
func checkStrict(t *testing.T, c impl.Core, names ...string) int {
	t.Helper()
	isGood, count := coreFaultSlowly(c) == 0, 0
	for _, name := range names {
		want := isGood && strictSlowly(c, name)
		if got := impl.StrictIn(c, name); got != want {
			t.Errorf("%s is strict in %q: %v", shortCore(c), name, got)
		}
		if want {
			count++
		}
	}
	return count
}

// A strictRow has a term, as it is written, names in which it is strict, and names in which it is not, with blanks between.
type strictRow struct{ term, in, notIn string }

func checkStrictRows(t *testing.T, rows []strictRow) {
	t.Helper()
	for _, row := range rows {
		c := readCore(row.term)
		for names, want := range map[string]bool{row.in: true, row.notIn: false} {
			for _, name := range strings.Fields(names) {
				if got := impl.StrictIn(c, name); got != want {
					t.Errorf("%s is strict in %s: %v", row.term, name, got)
				}
			}
		}
		checkStrict(t, c, strings.Fields(row.in+" "+row.notIn+" x y z nowhere")...)
	}
}

// manyLet has a CLet of many names with their kids.
func manyLet(names []string, kid func(i int) impl.Core, last impl.Core) impl.Core {
	c := impl.Core{Kind: impl.CLet, Names: names}
	for i := range names {
		c.Kids = append(c.Kids, kid(i))
	}
	c.Kids = append(c.Kids, last)
	return c
}

// sumOf adds up terms with as few levels as there can be.
func sumOf(terms []impl.Core) impl.Core {
	half := len(terms) / 2
	if half == 0 {
		return terms[0]
	}
	return corePrim("primAdd", sumOf(terms[:half]), sumOf(terms[half:]))
}
