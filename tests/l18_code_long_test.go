package tests

import (
	"slices"
	"strings"
	"testing"

	"loop.example/g00017/impl"
)

// A longForms is a great term with how much is in its forms: those, all codes, the most slots of one form, all refs of what is made.
type longForms struct {
	what                      string
	c                         impl.Core
	forms, codes, slots, refs int
}

func checkLongForms(t *testing.T, rows []longForms) {
	t.Helper()
	for _, row := range rows {
		if fault := impl.CoreFault(row.c); fault != 0 {
			t.Errorf("%s: the fault %d", row.what, fault)
			continue
		}
		list := impl.FormsOf(row.c)
		got := longForms{row.what, row.c, len(list), 0, 0, 0}
		for i := range list {
			got.slots = max(got.slots, int(list[i].Slots))
			parts := codeParts(&list[i].Body)
			got.codes += len(parts)
			for _, code := range parts {
				if code.Kind == impl.KMake {
					got.refs += len(code.Refs)
				}
			}
		}
		if got.forms != row.forms || got.codes != row.codes || got.slots != row.slots || got.refs != row.refs {
			t.Errorf("%s: %d forms, %d codes, %d slots, %d refs", row.what, got.forms, got.codes, got.slots, got.refs)
		}
		if fault := impl.FormFault(list); fault != 0 {
			t.Errorf("%s: its forms have the fault %d", row.what, fault)
		}
		if text := impl.FormatForms(list); strings.Count(text, "\n") != row.forms {
			t.Errorf("%s: %d lines", row.what, strings.Count(text, "\n"))
		}
	}
}

func TestFormsOfWideTerms(t *testing.T) {
	t.Parallel()
	one := coreInt(1)
	names := namesUpTo(9999)
	ring := manyLet(names, func(i int) impl.Core { return coreVar(names[(i+1)%9999]) }, coreVar("n0"))
	numbers := manyLet(names, always(one), one)
	alts := coreCase("q", []impl.Core{one})
	for _, name := range namesUpTo(9000) {
		alts.Alts = append(alts.Alts, impl.CoreAlt{Con: name, Names: []string{"a"}, Body: coreVar("a")})
	}
	fields := impl.CoreAlt{Con: "A", Names: namesUpTo(19990), Body: coreVar("n19989")}
	params := impl.Core{Kind: impl.CLam, Names: namesUpTo(19990), Kids: []impl.Core{coreVar("n19989")}}
	checkLongForms(t, []longForms{
		{"numbers", severalOf(19999, one), 1, 39999, 19999, 0},
		{"constructors", severalOf(19999, coreCon("C")), 1, 39999, 19999, 0},
		{"constructors of numbers", severalOf(9999, coreCon("C", one)), 1, 39997, 19998, 0},
		{"texts", severalOf(19999, coreString("t")), 20000, 59998, 19999, 0},
		{"functions", severalOf(6666, coreLam("x", coreVar("x"))), 6667, 19999, 6666, 0},
		{"calls", severalOf(6666, coreApp(one, one)), 6667, 46663, 6666, 0},
		{"arguments", coreApp(slices.Repeat([]impl.Core{one}, 19999)...), 1, 39999, 19999, 0},
		{"a ring of names", ring, 10000, 1 + 9999*2 + 1, 9999, 9999},
		{"names of numbers", numbers, 1, 10001, 9999, 0},
		{"alternatives", alts, 1, 9002, 9001, 0},
		{"fields", coreCase("", []impl.Core{one}, fields), 1, 3, 19990, 0},
		{"parameters", params, 2, 4, 19990, 0},
		{"what is bound by functions is brought along", coreLam("x", severalOf(6600, coreApp(coreVar("x"), one))), 6602, 2 + 1 + 1 + 6600*5, 6601, 6600},
	})
}

// Each level brings along what is named further in.
func TestFormsOfDeepTerms(t *testing.T) {
	t.Parallel()
	names := namesUpTo(5000)
	row := coreCon("C", numberedVars("n", 5000)...)
	within := func(c impl.Core) impl.Core { return impl.Core{Kind: impl.CLam, Names: names, Kids: []impl.Core{c}} }
	calls := raised(row, 990, func(c impl.Core) impl.Core { return coreApp(coreVar("n4999"), c) })
	functions := raised(row, 990, func(c impl.Core) impl.Core { return coreLam("z", c) })
	choices := raised(row, 990, func(c impl.Core) impl.Core { return coreCase("z", []impl.Core{coreVar("n7")}, coreAlt("A y", c)) })
	kept := framed(300, coreVar("x0"), func(i int, c impl.Core) impl.Core {
		return coreLam(nameAt("x", i), coreLet(nameAt("y", i), coreApp(c, coreVar(nameAt("x", i))), coreVar(nameAt("y", i))))
	})
	checkLongForms(t, []longForms{
		// The innermost constructor is an atom in the last call; each of the 989 others is suspended.
		{"calls", within(calls), 991, 2 + 1 + 989*3 + 3, 5001, 989 * 5000},
		{"functions", within(functions), 992, 3 + 990*2 + 990 + 1, 5002, 990 * 5000},
		{"choices", within(choices), 2, 3 + 990*2 + 1, 5000 + 990*2, 0},
		{"functions in lets", kept, 601, 3 + 300*3 + 299*3 + 1, 3, 299 + 1 + 299*2},
	})
}

// The greatest terms of each form, and the deepest of each sort of level, have forms without fault.
func TestFormsOfTheGreatestTerms(t *testing.T) {
	t.Parallel()
	for name, form := range coreForms() {
		c := coreLam("x", form(impl.MaxCore-2))
		terms, names, _ := coreMeasures(c)
		list := impl.FormsOf(c)
		if terms+names != impl.MaxCore || len(list) < 2 || impl.FormFault(list) != 0 || strings.Count(impl.FormatForms(list), "\n") != len(list) {
			t.Errorf("%s: %d forms, fault %d", name, len(list), impl.FormFault(list))
		}
	}
	for _, frame := range coreLevels() {
		c := coreLam("x y", raised(coreVar("y"), impl.MaxCoreDeep-2, frame))
		if list := checkForms(t, c); len(list) < 2 {
			t.Errorf("%s has %d forms", shortCore(c), len(list))
		}
	}
}
