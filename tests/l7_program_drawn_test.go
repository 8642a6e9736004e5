package tests

import (
	"math/rand/v2"
	"slices"
	"strconv"
	"testing"

	"loop.example/g00017/impl"
)

// mapTree changes a tree node by node, kids first.
func mapTree(n impl.Node, change func(impl.Node) impl.Node) impl.Node {
	own := tree(n.Kind, n.Name)
	for _, kid := range n.Kids {
		own.Kids = append(own.Kids, mapTree(kid, change))
	}
	return change(own)
}

// without leaves out kids.
func without(n impl.Node, isGone func(impl.Node) bool) impl.Node {
	return tree(n.Kind, n.Name, slices.DeleteFunc(slices.Clone(n.Kids), isGone)...)
}

// program draws modules; most of them have faults, which mend takes away one by one.
func (m treeMaker) program() []impl.Node {
	names := []string{"A", "B", "C", "M"}
	var list []impl.Node
	for i := range 1 + m.IntN(4) {
		n := m.module(2 + m.IntN(3))
		n.Kids = append(n.Kids, m.some(0, 3, m.top)...)
		for range m.IntN(3) {
			n.Kids = append(n.Kids, tree(impl.DFix, m.one("infixr", "infix"), tree(impl.NNum, m.one("9", "5")), m.names()))
		}
		for range m.IntN(2*i + 1) {
			n.Kids = slices.Insert(n.Kids, 1, tree(impl.DImport, "A"))
		}
		if m.IntN(2) == 0 {
			n = m.withChains(n)
		}
		n = mapTree(n, m.renamedTop)
		for k, name := range []string{"x", "y'", "+", "-", "!", "~", "_z", "T", "K", "E", "F", "C", "D'"} {
			if m.IntN(3) > 0 && !slices.Contains(textsIn(mapTree(n, withoutBodies), nil), name) {
				n.Kids = append(n.Kids, m.missing(n, name, "W"+strconv.Itoa(k))...)
			}
		}
		n.Name = names[i]
		if m.IntN(20) == 0 {
			n.Name = m.one(names...)
		}
		for k, kid := range n.Kids {
			if kid.Kind == impl.DImport {
				n.Kids[k].Name = m.one(names[:max(i, 1)]...)
			}
		}
		list = append(list, n)
	}
	m.Shuffle(len(list), func(i, j int) { list[i], list[j] = list[j], list[i] })
	return list
}

// renamedTop gives declarations more names than module does, so that not all of them are one thing.
func (m treeMaker) renamedTop(n impl.Node) impl.Node {
	switch n.Kind {
	case impl.DData:
		n.Name = m.one("T", "U", "Eq", "C")
		for i := range n.Kids[len(n.Kids)-1].Kids {
			n.Kids[len(n.Kids)-1].Kids[i].Name = m.one("Eq", "Ord", "Show", "K", "x")
		}
	case impl.DConstr:
		n.Name = m.one("C", "D'", "T", "E'", "True")
	case impl.DClass, impl.DInst:
		n.Name = m.one("K", "E", "F", "Eq", "Ord", "Show", "T")
	case impl.PVar, impl.PAs:
		n.Name = m.one("x", "y", "y'", "_z", "s'", "v")
	case impl.DClause:
		n.Name = m.one(n.Name, n.Name, n.Name, "f", "g", "s'", "negate", "==", "<=", "show")
	case impl.DItem:
		n.Name = m.one(n.Name, n.Name, "f", "T", "K", "==", "<=", "show")
	}
	return n
}

// mend takes away what a fault is about, or adds what is missing.
func (m treeMaker) mend(list []impl.Node, fault impl.ProgramResult, round int) {
	at := slices.IndexFunc(list, func(n impl.Node) bool { return n.Name == fault.Module })
	if at < 0 {
		at = m.IntN(len(list))
	}
	fresh := "v" + strconv.Itoa(round)
	isItem := func(n impl.Node) bool { return n.Kind == impl.DItem && n.Name == fault.Name }
	someOf := func(kinds ...int64) func(impl.Node) impl.Node {
		return func(n impl.Node) impl.Node {
			if slices.Contains(kinds, n.Kind) && n.Name == fault.Name && m.IntN(2) == 0 {
				n.Name = fresh
			}
			return n
		}
	}
	switch fault.Code {
	case 2:
		list[at].Name = "X" + strconv.Itoa(round)
	case 3, 4:
		list[at] = without(list[at], func(n impl.Node) bool { return n.Kind == impl.DImport })
	case 5:
		gone := false
		slices.Reverse(list[at].Kids)
		list[at] = without(list[at], func(n impl.Node) bool {
			defines := n.Kind >= impl.DSig && n.Kind != impl.DImport && slices.Contains(textsIn(withoutBodies(n), nil), fault.Name)
			defines, gone = defines && !gone, gone || defines
			return defines
		})
		slices.Reverse(list[at].Kids)
	case 6:
		list[at].Kids[0] = without(list[at].Kids[0], isItem)
	case 7:
		for i, kid := range list[at].Kids {
			if kid.Kind == impl.DImport && len(kid.Kids) > 0 {
				list[at].Kids[i].Kids[0] = without(kid.Kids[0], isItem)
			}
		}
	case 8:
		list[at] = mapTree(list[at], shortChain)
	case 9:
		list[at].Kids = append(list[at].Kids, m.missing(list[at], fault.Name, "V"+strconv.Itoa(round))...)
	case 10:
		list[at] = without(list[at], func(n impl.Node) bool {
			return n.Kind == impl.DImport && m.IntN(2) == 0 || n.Kind == impl.DClause && n.Name == fault.Name
		})
		list[at] = mapTree(list[at], func(n impl.Node) impl.Node {
			if n.Kind == impl.DConstr && n.Name == fault.Name {
				n.Name = "V" + strconv.Itoa(round)
			}
			return n
		})
	case 11:
		list[at] = mapTree(list[at], someOf(impl.PVar, impl.PAs))
	case 12:
		list[at] = mapTree(mapTree(list[at], func(n impl.Node) impl.Node {
			if n.Kind == impl.DSig && m.IntN(3) > 0 {
				n.Kids[0] = without(n.Kids[0], isItem)
			}
			return n
		}), someOf(impl.DClause))
	case 13:
		list[at] = mapTree(list[at], func(n impl.Node) impl.Node {
			if n.Kind == impl.DData {
				n.Kids[len(n.Kids)-1] = without(n.Kids[len(n.Kids)-1], isItem)
			}
			return n
		})
	}
}

// withoutBodies has of a declaration what it defines.
func withoutBodies(n impl.Node) impl.Node {
	return mapTree(n, func(inner impl.Node) impl.Node {
		switch inner.Kind {
		case impl.DClause, impl.DInst, impl.DFix:
			inner.Kids = nil
		}
		return inner
	})
}

func shortChain(n impl.Node) impl.Node {
	if n.Kind == impl.NOps || n.Kind == impl.POps {
		n.Kids = n.Kids[:3]
	}
	return n
}

// missing has declarations that make a name stand for something.
func (m treeMaker) missing(module impl.Node, name, fresh string) []impl.Node {
	one := tree(impl.NRhs, "", tree(impl.NNum, "1"))
	noNames := tree(impl.DNames, "")
	switch {
	case name[0] == ':': // nothing can be so
		for i, kid := range module.Kids {
			module.Kids[i] = mapTree(kid, func(n impl.Node) impl.Node {
				if n.Name == name {
					n.Name = ":"
				}
				return n
			})
		}
		return nil
	case name[0] < 'A' || name[0] > 'Z':
		return []impl.Node{tree(impl.DClause, name, one)}
	}
	isType := slices.ContainsFunc(module.Kids, func(d impl.Node) bool {
		return (d.Kind == impl.DData || d.Kind == impl.DClass) && d.Name == name
	})
	if method := map[string]string{"Eq": "==", "Ord": "<=", "Show": "show"}[name]; method != "" && !isType {
		sig := tree(impl.DSig, "", tree(impl.DNames, "", tree(impl.DItem, method)), tree(impl.DContext, ""), tree(impl.TVar, "a"))
		return []impl.Node{tree(impl.DClass, name, tree(impl.DContext, ""), tree(impl.TVar, "a"), sig)}
	}
	isConstructor := slices.ContainsFunc(module.Kids, func(d impl.Node) bool {
		return slices.ContainsFunc(d.Kids, func(c impl.Node) bool { return c.Kind == impl.DConstr && c.Name == name })
	})
	data, constructor := name, name
	if isType {
		data = fresh
	}
	if isConstructor {
		constructor = fresh
	}
	return []impl.Node{tree(impl.DData, data, noNames, tree(impl.DConstr, constructor), noNames)}
}

// Drawn programs, held against the second reading with each fault that is taken away until there is none.
func TestDrawnPrograms(t *testing.T) {
	t.Parallel()
	m := treeMaker{rand.New(rand.NewPCG(7, 3))}
	codes := map[int64]int{}
	for range 500 {
		list := m.program()
		for round := range 120 {
			got := checkProgram(t, list)
			codes[got.Code]++
			if got.Code == 0 || got.Code == 1 {
				break
			}
			m.mend(list, got, round)
		}
	}
	for code, least := range map[int64]int{0: 300, 2: 10, 3: 10, 4: 10, 5: 100, 6: 100, 7: 50, 8: 20, 9: 1000, 10: 50, 11: 30, 12: 100, 13: 30} {
		if codes[code] < least {
			t.Errorf("codes %v", codes)
			break
		}
	}
}
