package tests

import (
	"cmp"
	"slices"
	"strconv"
	"strings"
	"testing"

	"loop.example/g00017/impl"
)

// A dataValue is a value that is all there: a number, char or truth value, a list or pair, or what a constructor makes.
type dataValue struct {
	t      impl.Type
	number int // or which constructor it is
	name   string
	fields []dataValue
}

// value draws a value of a type; with no levels left lists are empty and constructors first.
func (m *wholeMaker) value(t impl.Type, levels int) dataValue {
	switch t.Name {
	case "Int":
		return dataValue{t: t, number: m.IntN(5) - 2}
	case "Char":
		return dataValue{t: t, number: int("ab'\n"[m.IntN(4)])}
	case "Bool":
		return dataValue{t: t, number: m.IntN(2)}
	case "[]":
		v := dataValue{t: t}
		for range m.IntN(3) * min(levels, 1) {
			v.fields = append(v.fields, m.value(t.Args[0], levels-1))
		}
		return v
	case "(,)":
		return dataValue{t: t, fields: []dataValue{m.value(t.Args[0], levels-1), m.value(t.Args[1], levels-1)}}
	}
	d := m.datas[slices.IndexFunc(m.datas, func(d wholeData) bool { return d.name == t.Name })]
	v := dataValue{t: t}
	if levels > 0 {
		v.number = m.IntN(len(d.cons))
	}
	con := d.cons[v.number]
	v.name = con.name
	places := map[int64]impl.Type{}
	for i, arg := range t.Args {
		places[int64(i)] = arg
	}
	for at := con.t; at.Name == "->"; at = at.Args[1] {
		v.fields = append(v.fields, m.value(placed(at.Args[0], impl.TyGen, places), levels-1))
	}
	return v
}

// changed draws a value that differs in few places, or none.
func (m *wholeMaker) changed(v dataValue) dataValue {
	if len(v.fields) == 0 || m.IntN(5) == 0 {
		return m.value(v.t, 2)
	}
	own := v
	own.fields = slices.Clone(v.fields)
	at := m.IntN(len(own.fields))
	own.fields[at] = m.changed(own.fields[at])
	return own
}

// compare puts values in the order of constructors and fields.
func (v dataValue) compare(o dataValue) int {
	if v.number != o.number {
		return cmp.Compare(v.number, o.number)
	}
	return slices.CompareFunc(v.fields, o.fields, dataValue.compare)
}

// text has a value as it is written in a module, or, told, as show tells it.
func (v dataValue) text(isTold bool) string {
	fields := textsOf(v.fields, func(f dataValue) string { return f.text(isTold) })
	switch v.t.Name {
	case "Int":
		if v.number < 0 && !isTold {
			return "(" + strconv.Itoa(v.number) + ")"
		}
		return strconv.Itoa(v.number)
	case "Char":
		if isTold && v.number == '\n' {
			return "'\n'"
		}
		return quotedSlowly(string(rune(v.number)), "'")
	case "Bool":
		return []string{"False", "True"}[v.number]
	case "[]":
		return "[" + strings.Join(fields, ",") + "]"
	case "(,)":
		return "(" + strings.Join(fields, ",") + ")"
	}
	if len(fields) == 0 {
		return v.name
	}
	return "(" + v.name + " " + strings.Join(fields, " ") + ")"
}

// Derived instances say what the data is: equal exactly if built alike, in the order of constructors and fields, told as they are written.
func TestDerivedInstancesOfDrawnDatas(t *testing.T) {
	t.Parallel()
	seen := map[string]int{}
	m := newWholeMaker(800)
	for round := range 30 {
		m.names, m.known, m.datas = 0, wholeKnown(), nil
		texts := []string{wholeBase, "module Data where\nimport Base\n"}
		for range 1 + m.IntN(3) {
			texts[1] += m.data() + "\n"
		}
		main, want := "module Main where\nimport Data\nimport Base\nyes x = if x then \"y\" else \"n\"\n", ""
		var names []string
		for i := range 8 {
			at := m.dataType(m.datas[m.IntN(len(m.datas))], 1, nil)
			a := m.value(at, 4)
			b := m.changed(a)
			if m.IntN(4) == 0 {
				b = m.value(at, 4)
			}
			x, y := numbered("x", i), numbered("y", i)
			for name, v := range map[string]dataValue{x: a, y: b} {
				main += name + " :: " + impl.FormatType(at) + "\n" + name + " = " + v.text(false) + "\n"
			}
			order := a.compare(b)
			said := map[bool]string{true: "y", false: "n"}
			names = append(names, "show "+x, "show "+y, glue("yes ("+x, "==", y+") ++ yes ("+x, "<=", y+") ++ yes ("+y, "<=", x+") ++ yes ("+y, "==", y+")"))
			want += a.text(true) + "\n" + b.text(true) + "\n" + said[order == 0] + said[order <= 0] + said[order >= 0] + "y\n"
			seen["order "+strconv.Itoa(order)]++
		}
		texts = append(texts, main+"main = unlines ["+strings.Join(names, ", ")+"]\n")
		c := wholeCall{texts, nil, "", impl.MaxSteps, impl.MaxHeap}
		if round%2 == 1 {
			c.passes = m.passes()
		}
		if o := c.answer().Outcome; o.End != impl.EndDone || o.Out != want {
			t.Errorf("%s\ntells %v\nnot %s", strings.Join(texts[1:], "\n"), o, want)
		}
		if checked := impl.Check(texts); leavesOut(checked.Warnings) {
			t.Errorf("%s\nleaves something out: %v", texts[1], checked.Warnings)
		}
	}
	for _, order := range []string{"order -1", "order 0", "order 1"} {
		if seen[order] < 15 {
			t.Errorf("there are %v", seen)
		}
	}
}

// All pairs of all values of some datas: the order is one, and told by place.
func TestDerivedOrders(t *testing.T) {
	t.Parallel()
	const base = "class Eq a where { (==) :: a -> a -> Bool }\nclass Eq a => Ord a where { (<=) :: a -> a -> Bool }\nclass Show a where { show :: a -> [Char] }\ninfix 4 ==\ninfix 4 <=\nyes True = 'y'\nyes False = 'n'\n"
	for _, row := range [][2]string{
		{"data T = A deriving (Eq, Ord, Show)\n", "A"},
		{"data T = C | B | A deriving (Eq, Ord, Show)\n", "C, B, A"},
		{"data B = F | T' deriving (Eq, Ord, Show)\ndata P a b = P a b deriving (Show, Ord, Eq)\n", "P F F, P F T', P T' F, P T' T'"},
		{"data B = F | T' deriving (Eq, Ord, Show)\ndata U a = N | J a | K a a deriving (Ord, Eq, Show)\n", "N, J F, J T', K F F, K F T', K T' F, K T' T'"},
		{"data L = E | C L deriving (Eq, Ord, Show)\n", "E, C E, C (C E), C (C (C E))"},
		{"data L = E | C L deriving (Eq, Ord, Show)\ndata W a = W (X a) | Z deriving (Eq, Ord, Show)\ndata X a = Y a (W a) deriving (Eq, Ord, Show)\n", "W (Y E (W (Y E Z))), W (Y E Z), Z"},
	} {
		values := strings.Split(row[1], ", ")
		main := "main = primAppend [yes (x == y) | x <- l, y <- l] (primAppend [yes (x <= y) | x <- l, y <- l] [c | x <- l, c <- primAppend (show x) \"\\n\"])\nl = [" + row[1] + "]\n"
		want := ""
		for i := range values {
			want += strings.Repeat("n", i) + "y" + strings.Repeat("n", len(values)-1-i)
		}
		for i := range values {
			want += strings.Repeat("n", i) + strings.Repeat("y", len(values)-i)
		}
		for _, v := range values {
			if strings.Contains(v, " ") {
				v = "(" + v + ")"
			}
			want += v + "\n"
		}
		for _, list := range append(passLists(), nil) {
			c := wholeCall{[]string{inMain(base + row[0] + main)}, list, "", 200000, 50000}
			if o := c.check(t).Outcome; o.End != impl.EndDone || o.Out != want {
				t.Errorf("%s\nbehind %v tells %v, not %s", row[0], list, o, want)
			}
		}
	}
}
