package tests

import (
	"slices"
	"strings"
	"testing"

	"loop.example/g00017/impl"
)

func TestFormatOfEachKind(t *testing.T) {
	x, y := coreVar("x"), coreVar("y")
	big := impl.BigMul(impl.BigOf(-1<<63), impl.BigOf(1<<62)).Big
	for _, row := range []struct {
		term impl.Core
		want string
	}{
		{x, `x`}, {coreVar("#1.2"), `#1.2`}, {coreVar("inst:A:B"), `inst:A:B`}, {coreVar("a b"), `a b`}, {coreVar("\xff\""), "\xff\""},
		{coreInt(0), `0`}, {coreInt(7), `7`}, {coreInt(-7), `-7`}, {coreInt(-1 << 63), `-9223372036854775808`}, {impl.Core{Kind: impl.CInt, Big: big}, `-42535295865117307932921825928971026432`},
		{coreChar("a"), `'a'`}, {coreChar(" "), `' '`}, {coreChar("\n"), `'\n'`}, {coreChar("\\"), `'\\'`}, {coreChar("'"), `'\''`}, {coreChar(`"`), `'"'`}, {coreChar("\x00"), "'\x00'"}, {coreChar("\xff"), "'\xff'"}, {coreChar("\t"), "'\t'"}, {coreChar("\r"), "'\r'"},
		{coreString("a"), `"a"`}, {coreString("a b"), `"a b"`}, {coreString("\n"), `"\n"`}, {coreString("\\n"), `"\\n"`}, {coreString("'"), `"'"`}, {coreString(`"`), `"\""`}, {coreString("\x00\x1f\x7f\x80\xff"), "\"\x00\x1f\x7f\x80\xff\""}, {coreString("é"), `"é"`},
		{coreCon("C"), `C`}, {coreCon("[]"), `[]`}, {coreCon(":", x, y), `(: x y)`}, {coreCon("M.C", x), `(M.C x)`}, {coreCon("(,)", x, y), `((,) x y)`}, {coreCon("dict:A", coreCon("B")), `(dict:A B)`},
		{coreApp(x, y), `(x y)`}, {coreApp(x, y, x, coreInt(-1)), `(x y x -1)`},
		{coreLam("x", y), `(\x -> y)`}, {coreLam("x y z", y), `(\x y z -> y)`},
		{coreLet("x", y, x), `(let x = y in x)`}, {coreLet("x y z", y, x, y, x), `(let x = y; y = x; z = y in x)`},
		{coreCase("", []impl.Core{x}, coreAlt("A", y)), `(case x of { A -> y })`},
		{coreCase("q", []impl.Core{x}, coreAlt("A", y)), `(case x of q { A -> y })`},
		{coreCase("", []impl.Core{x, y}), `(case x of { _ -> y })`},
		{coreCase("q", []impl.Core{x, y}), `(case x of q { _ -> y })`},
		{coreCase("q", []impl.Core{x, y}, coreAlt(": a b", x), coreAlt("[]", y), coreAlt("_ _", x)), `(case x of q { : a b -> x; [] -> y; _ _ -> x; _ -> y })`},
		{coreCase("", []impl.Core{x}, coreAlt("A a", x), coreAlt("B", y)), `(case x of { A a -> x; B -> y })`},
		{corePrim("primAdd", x, coreInt(-3)), `(primAdd x -3)`}, {corePrim("primSeq", x, y), `(primSeq x y)`}, {corePrim("primError", coreString("no")), `(primError "no")`},
	} {
		if got := impl.FormatCore(row.term); got != row.want {
			t.Errorf("%s, not %s", got, row.want)
		}
		checkCore(t, row.term)
	}
}

// What stands in a term is written there as it is written alone.
func TestFormatOfEachKindInEachPlace(t *testing.T) {
	hole := coreVar("HOLE")
	frames := []impl.Core{
		coreCon("C", hole), coreCon("C", coreVar("x"), hole, coreInt(1)), coreApp(hole, coreVar("x")), coreApp(coreVar("x"), hole), coreLam("x y", hole), coreLet("x", hole, coreVar("x")), coreLet("x y", coreVar("x"), hole, hole), corePrim("primShow", hole), corePrim("primEq", coreInt(1), hole),
		coreCase("", []impl.Core{hole, coreVar("x")}), coreCase("q", []impl.Core{coreVar("x"), hole}, coreAlt("A", coreVar("x"))), coreCase("q", []impl.Core{hole}, coreAlt("A a b", hole), coreAlt("B", hole)),
	}
	terms := append(plainCores(), frames...)
	for _, frame := range frames {
		for _, inner := range terms {
			for _, outer := range frames {
				term := inPlaceOf(inPlaceOf(outer, frame), inner)
				want := strings.ReplaceAll(strings.ReplaceAll(impl.FormatCore(outer), "HOLE", impl.FormatCore(frame)), "HOLE", impl.FormatCore(inner))
				if got := impl.FormatCore(term); got != want {
					t.Errorf("%s, not %s", got, want)
				}
			}
		}
	}
}

// inPlaceOf puts a term in the place of each hole.
func inPlaceOf(frame, term impl.Core) impl.Core {
	own := cloneCore(frame)
	for _, part := range coreParts(&own) {
		if part.Kind == impl.CVar && part.Name == "HOLE" {
			*part = term
		}
	}
	return own
}

func TestFormatOfCharsAndTexts(t *testing.T) {
	for b := range 256 {
		one := string([]byte{byte(b)})
		char, text := one, one
		switch one {
		case "\n":
			char, text = `\n`, `\n`
		case `\`:
			char, text = `\\`, `\\`
		case `'`:
			char = `\'`
		case `"`:
			text = `\"`
		}
		if got := impl.FormatCore(coreChar(one)); got != "'"+char+"'" {
			t.Errorf("char %d: %q", b, got)
		}
		if got := impl.FormatCore(coreString("a" + one + one + "b")); got != `"a`+text+text+`b"` {
			t.Errorf("text with %d: %q", b, got)
		}
		for kind, term := range map[int64]impl.Core{impl.TokChar: coreChar(one), impl.TokString: coreString(one + "x" + one)} {
			tok := impl.Token{Kind: kind, Text: term.Name}
			if spelt := impl.Spell(tok); spelt != "" && impl.FormatCore(term) != spelt {
				t.Errorf("%q is not %s", impl.FormatCore(term), spelt)
			}
		}
	}
}

// What is written of drawn terms is read again. (But an application of a constructor alone is written as a constructor with kids is.)
func TestFormatReadsBack(t *testing.T) {
	m := newCoreMaker(2)
	looked := 0
	for i := range 3000 {
		c := m.sound(1 + i%6)
		if slices.ContainsFunc(coreParts(&c), appliesCon) {
			continue
		}
		looked++
		text := impl.FormatCore(c)
		if text == "" || coreText(readCore(text)) != coreText(c) {
			t.Errorf("%s is %s", coreText(c), text)
		}
	}
	if looked < 1500 {
		t.Errorf("%d terms", looked)
	}
}

func appliesCon(c *impl.Core) bool {
	return c.Kind == impl.CApp && c.Kids[0].Kind == impl.CCon && len(c.Kids[0].Kids) == 0
}

func TestFormatOfFaultyTerms(t *testing.T) {
	m := newCoreMaker(3)
	faults := 0
	for range 2000 {
		c := m.spoilt(m.sound(5))
		if impl.CoreFault(c) == 0 {
			continue
		}
		faults++
		if impl.FormatCore(c) != "" || impl.FreeNames(c) != nil {
			t.Errorf("%s has a text or names", coreText(c))
		}
	}
	if faults < 500 {
		t.Errorf("%d faults", faults)
	}
	x := coreVar("x")
	large := coreCon("C", slices.Repeat([]impl.Core{x}, impl.MaxCore)...)
	if impl.FormatCore(large) != "" || impl.FreeNames(large) != nil || impl.FormatCore(impl.Core{}) != "" {
		t.Error("a faulty term has a text or names")
	}
}
