package tests

import (
	"fmt"
	"strings"
	"testing"

	"loop.example/g00017/impl"
)

// deriveSlowly is a second reading of Derive: the instance is written as a text with names that stand for others, and read.
func deriveSlowly(d impl.Node, class, method string) impl.Node {
	constructors := kidsOf(d, impl.DConstr)
	clauses := map[string]func([]impl.Node) string{"Eq": equalText, "Ord": orderText, "Show": showText}[ownSlowly(class)]
	if clauses == nil {
		return impl.Node{}
	}
	real := map[string]string{"CLASS": class, "TYPE": d.Name, "m": method}
	var variables, context []string
	for i, item := range d.Kids[0].Kids {
		variables, context = append(variables, fmt.Sprint("v", i)), append(context, fmt.Sprint("CLASS v", i))
		real[fmt.Sprint("v", i)] = item.Name
	}
	for i, c := range constructors {
		real[fmt.Sprint("K", i)], real[fmt.Sprint("T", i)], real[fmt.Sprint("(T", i)] = c.Name, ownSlowly(c.Name), "("+ownSlowly(c.Name)
	}
	text := fmt.Sprintf("module M where { instance (%s) => CLASS (TYPE %s) where { %s } }", strings.Join(context, ","), strings.Join(variables, " "), clauses(constructors))
	read := impl.ParseText(text)
	if read.Code != 0 {
		panic(text)
	}
	return renamed(read.Tree.Kids[1], real)
}

func renamed(n impl.Node, real map[string]string) impl.Node {
	own := tree(n.Kind, n.Name)
	if name, ok := real[n.Name]; ok {
		own.Name = name
	}
	for _, kid := range n.Kids {
		own.Kids = append(own.Kids, renamed(kid, real))
	}
	return own
}

// conText is a constructor with what stands for each of its fields.
func conText(i int, c impl.Node, letter string) string {
	text := fmt.Sprint("(K", i)
	for k := range c.Kids {
		text += " " + letter
		if letter != "_" {
			text += fmt.Sprint(k + 1)
		}
	}
	return text + ")"
}

func equalText(constructors []impl.Node) string {
	var clauses []string
	for i, c := range constructors {
		body := "True"
		for k := len(c.Kids); k > 0; k-- {
			if k == len(c.Kids) {
				body = fmt.Sprintf("m a%d b%d", k, k)
			} else {
				body = fmt.Sprintf("if m a%d b%d then %s else False", k, k, body)
			}
		}
		clauses = append(clauses, fmt.Sprintf("m %s %s = %s", conText(i, c, "a"), conText(i, c, "b"), body))
	}
	if len(constructors) > 1 {
		clauses = append(clauses, "m _ _ = False")
	}
	return strings.Join(clauses, ";")
}

func orderText(constructors []impl.Node) string {
	var clauses []string
	for i, c := range constructors {
		body := "True"
		for k := len(c.Kids); k > 0; k-- {
			if k == len(c.Kids) {
				body = fmt.Sprintf("m a%d b%d", k, k)
			} else {
				body = fmt.Sprintf("if m a%d b%d then (if m b%d a%d then %s else True) else False", k, k, k, k, body)
			}
		}
		clauses = append(clauses, fmt.Sprintf("m %s %s = %s", conText(i, c, "a"), conText(i, c, "b"), body))
		if i+1 < len(constructors) {
			clauses = append(clauses, fmt.Sprintf("m %s _ = True", conText(i, c, "_")), fmt.Sprintf("m _ %s = False", conText(i, c, "_")))
		}
	}
	return strings.Join(clauses, ";")
}

func showText(constructors []impl.Node) string {
	var clauses []string
	for i, c := range constructors {
		body := fmt.Sprintf("\"T%d\"", i)
		if len(c.Kids) > 0 {
			body = "\")\""
			for k := len(c.Kids); k > 0; k-- {
				body = fmt.Sprintf("primAppend \" \" (primAppend (m a%d) (%s))", k, body)
			}
			body = fmt.Sprintf("primAppend \"(T%d\" (%s)", i, body)
		}
		clauses = append(clauses, fmt.Sprintf("m %s = %s", conText(i, c, "a"), body))
	}
	return strings.Join(clauses, ";")
}

func checkDerived(t *testing.T, d impl.Node, class, method string) impl.Node {
	t.Helper()
	got, want := impl.Derive(d, class, method), deriveSlowly(d, class, method)
	if !sameSlowly(got, want) {
		t.Fatalf("%q of %s is\n%s\nnot\n%s", class, kinded(d), kinded(got), kinded(want))
	}
	return got
}
