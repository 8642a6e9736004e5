package tests

import (
	"strings"

	"loop.example/g00017/impl"
)

// printSlowly is a second reading of what Print is, by texts that are put together.
func printSlowly(n impl.Node) string {
	parts := []string{"module", n.Name}
	if n.Kids[0].Name != "all" {
		parts = append(parts, "(", commas(n.Kids[0].Kids, itemText), ")")
	}
	return glue(append(parts, "where", blockText(n.Kids[1:], declText))...)
}

// glue puts one blank between texts, but for empty ones.
func glue(parts ...string) string {
	var full []string
	for _, part := range parts {
		if part != "" {
			full = append(full, part)
		}
	}
	return strings.Join(full, " ")
}

func joined(kids []impl.Node, mark string, text func(impl.Node) string) string {
	var parts []string
	for i, kid := range kids {
		if i > 0 {
			parts = append(parts, mark)
		}
		parts = append(parts, text(kid))
	}
	return glue(parts...)
}

func commas(kids []impl.Node, text func(impl.Node) string) string { return joined(kids, ",", text) }

func blockText(kids []impl.Node, text func(impl.Node) string) string {
	return glue("{", joined(kids, ";", text), "}")
}

func isSymbolic(name string) bool { return strings.ContainsAny(name[:1], symbolBytes) }

func asName(name string) string {
	if isSymbolic(name) {
		return "( " + name + " )"
	}
	return name
}

func asOper(name string) string {
	if isSymbolic(name) {
		return name
	}
	return "` " + name + " `"
}

func itemText(n impl.Node) string { return asName(n.Name) }
func operText(n impl.Node) string { return asOper(n.Name) }

func contextText(n impl.Node) string {
	if len(n.Kids) == 0 {
		return ""
	}
	return glue("(", commas(n.Kids, bareText), ") =>")
}

func declText(n impl.Node) string {
	last := len(n.Kids) - 1
	switch n.Kind {
	case impl.DImport:
		if last < 0 {
			return "import " + n.Name
		}
		return glue("import", n.Name, "(", commas(n.Kids[0].Kids, itemText), ")")
	case impl.DFix:
		return glue(n.Name, n.Kids[0].Name, commas(n.Kids[1].Kids, operText))
	case impl.DSig:
		return glue(commas(n.Kids[0].Kids, itemText), "::", contextText(n.Kids[1]), bareText(n.Kids[2]))
	case impl.DClause:
		return glue(asName(n.Name), joined(n.Kids[:last], "", kidText), rhsText(n.Kids[last], "="))
	case impl.DData:
		text := glue("data", n.Name, joined(n.Kids[0].Kids, "", itemText), "=", joined(n.Kids[1:last], "|", func(c impl.Node) string { return glue(c.Name, joined(c.Kids, "", kidText)) }))
		if len(n.Kids[last].Kids) > 0 {
			text = glue(text, "deriving (", commas(n.Kids[last].Kids, itemText), ")")
		}
		return text
	}
	word := map[int64]string{impl.DClass: "class", impl.DInst: "instance"}[n.Kind]
	return glue(word, contextText(n.Kids[0]), n.Name, kidText(n.Kids[1]), "where", blockText(n.Kids[2:], declText))
}

func rhsText(n impl.Node, mark string) string {
	var parts []string
	var decls []impl.Node
	for _, kid := range n.Kids {
		switch {
		case kid.Kind == impl.NGuard:
			parts = append(parts, "|", kidText(kid.Kids[0]), mark, kidText(kid.Kids[1]))
		case kid.Kind < impl.DSig:
			parts = append(parts, mark, kidText(kid))
		default:
			decls = append(decls, kid)
		}
	}
	if len(decls) > 0 {
		parts = append(parts, "where", blockText(decls, declText))
	}
	return glue(parts...)
}

// kidText has brackets around, but for the kinds that the chapter names.
func kidText(n impl.Node) string {
	switch n.Kind {
	case impl.NVar, impl.NCon, impl.NNum, impl.NChar, impl.NStr, impl.NTuple, impl.NList, impl.NRange, impl.NComp, impl.NLeft, impl.NRight:
		return bareText(n)
	case impl.PVar, impl.PWild, impl.PChar, impl.PStr, impl.PTuple, impl.PList, impl.TVar, impl.TCon, impl.TTuple, impl.TList:
		return bareText(n)
	}
	if n.Kind == impl.PCon && len(n.Kids) == 0 && !isSymbolic(n.Name) || n.Kind == impl.PNum && n.Name[0] != '-' {
		return bareText(n)
	}
	return "( " + bareText(n) + " )"
}

func bareText(n impl.Node) string {
	last := len(n.Kids) - 1
	switch n.Kind {
	case impl.NChar, impl.PChar:
		return impl.Spell(token(impl.TokChar, n.Name))
	case impl.NStr, impl.PStr:
		return impl.Spell(token(impl.TokString, n.Name))
	case impl.PNum:
		return strings.Replace(n.Name, "-", "- ", 1)
	case impl.NOps, impl.POps:
		text := kidText(n.Kids[0])
		for i := 1; i < last; i += 2 {
			text += " " + asOper(n.Kids[i].Name) + " " + kidText(n.Kids[i+1])
		}
		return text
	case impl.NCase:
		return glue("case", kidText(n.Kids[0]), "of", blockText(n.Kids[1:], func(a impl.Node) string { return glue(bareText(a.Kids[0]), rhsText(a.Kids[1], "->")) }))
	case impl.NLet:
		return glue("let", blockText(n.Kids[:last], declText), "in", kidText(n.Kids[last]))
	case impl.NLam:
		return glue("\\", joined(n.Kids[:last], "", kidText), "->", kidText(n.Kids[last]))
	case impl.NComp:
		return glue("[", kidText(n.Kids[0]), "|", commas(n.Kids[1:], func(q impl.Node) string { return joined(q.Kids, "<-", kidText) }), "]")
	case impl.NNum:
		return n.Name
	}
	if form := formOf(n); form != "" {
		return fillForm(form, n)
	}
	return asName(n.Name)
}

// formOf has a text for some kinds: # the name as operator, $ as name, 0 1 2 the kids, * all with commas, + all with blanks.
func formOf(n impl.Node) string {
	return map[int64]string{
		impl.NApp: "+", impl.TApp: "+", impl.PCon: "$ +", impl.NIf: "if 0 then 1 else 2", impl.NTuple: "( * )", impl.PTuple: "( * )", impl.TTuple: "( * )",
		impl.NList: "[ * ]", impl.PList: "[ * ]", impl.TList: "[ * ]", impl.NRange: "[ 0 .. 1 ]", impl.NLeft: "( 0 # )", impl.NRight: "( # 0 )",
		impl.NNeg: "- 0", impl.PLazy: "~ 0", impl.PBang: "! 0", impl.PAs: "$ @ 0", impl.TFun: "0 -> 1", impl.PWild: "_",
	}[n.Kind]
}

func fillForm(form string, n impl.Node) string {
	var parts []string
	for _, word := range strings.Fields(form) {
		switch word {
		case "#":
			word = asOper(n.Name)
		case "$":
			word = asName(n.Name)
		case "*":
			word = commas(n.Kids, kidText)
		case "+":
			word = joined(n.Kids, "", kidText)
		case "0", "1", "2":
			word = kidText(n.Kids[word[0]-'0'])
		}
		parts = append(parts, word)
	}
	return glue(parts...)
}
