package tests

import (
	"fmt"
	"math/rand/v2"
	"regexp"
	"slices"
	"strings"
	"testing"

	"loop.example/g00017/impl"
)

func tree(kind int64, name string, kids ...impl.Node) impl.Node {
	return impl.Node{Kind: kind, Name: name, Kids: kids}
}

// allKinds has every kind of the chapter's table.
func allKinds() []int64 {
	var kinds []int64
	for _, span := range [][2]int64{{impl.NVar, impl.NTest}, {impl.PVar, impl.POps}, {impl.TVar, impl.TList}, {impl.DSig, impl.DItem}} {
		for kind := span[0]; kind <= span[1]; kind++ {
			kinds = append(kinds, kind)
		}
	}
	return kinds
}

// plainTrees has a small tree of each kind that is as the table says.
func plainTrees() map[int64]impl.Node {
	e, p := tree(impl.NNum, "1"), tree(impl.PVar, "x")
	tv, tc := tree(impl.TVar, "a"), tree(impl.TCon, "T")
	names, context := tree(impl.DNames, ""), tree(impl.DContext, "")
	rhs, gen := tree(impl.NRhs, "", e), tree(impl.NGen, "", p, e)
	constr := tree(impl.DConstr, "C")
	trees := []impl.Node{
		tree(impl.NVar, "x"), tree(impl.NCon, "C"), e, tree(impl.NChar, "c"), tree(impl.NStr, "s"),
		tree(impl.NApp, "", e, e), tree(impl.NLam, "", p, e), tree(impl.NLet, "", e), tree(impl.NIf, "", e, e, e),
		tree(impl.NCase, "", e, tree(impl.NAlt, "", p, rhs)), tree(impl.NTuple, "", e, e), tree(impl.NList, "", e),
		tree(impl.NRange, "", e, e), tree(impl.NComp, "", e, gen), tree(impl.NLeft, "+", e), tree(impl.NRight, "+", e),
		tree(impl.NNeg, "", e), tree(impl.NOps, "", e, tree(impl.NVar, "+"), e), tree(impl.NAlt, "", p, rhs), rhs,
		tree(impl.NGuard, "", e, e), gen, tree(impl.NTest, "", e),
		p, tree(impl.PWild, ""), tree(impl.PCon, "C"), tree(impl.PNum, "-1"), tree(impl.PChar, "c"), tree(impl.PStr, "s"),
		tree(impl.PTuple, "", p, p), tree(impl.PList, "", p), tree(impl.PAs, "x", p), tree(impl.PLazy, "", p), tree(impl.PBang, "", p),
		tree(impl.POps, "", p, tree(impl.PCon, ":"), p),
		tv, tc, tree(impl.TApp, "", tc, tv), tree(impl.TFun, "", tv, tv), tree(impl.TTuple, "", tv, tv), tree(impl.TList, "", tv),
		tree(impl.DSig, "", names, context, tv), tree(impl.DClause, "f", rhs), tree(impl.DFix, "infix", e, names),
		tree(impl.DData, "D", names, constr, names), constr, tree(impl.DClass, "C", context, tv),
		tree(impl.DInst, "C", context, tc), tree(impl.DImport, "M"), tree(impl.DModule, "M", names), context, names, tree(impl.DItem, "x"),
	}
	plain := map[int64]impl.Node{}
	for _, n := range trees {
		plain[n.Kind] = n
	}
	return plain
}

// somePieces has trees without fault that the table tells apart, though two of them may have one kind.
func somePieces() []impl.Node {
	plain := plainTrees()
	var pieces []impl.Node
	for _, kind := range allKinds() {
		pieces = append(pieces, plain[kind])
	}
	x, tc, tv := tree(impl.PVar, "x"), plain[impl.TCon], plain[impl.TVar]
	return append(pieces,
		tree(impl.NNum, "10"), tree(impl.NVar, "+"), tree(impl.NCon, ":+"), tree(impl.PCon, ":", x, x), tree(impl.DNames, "all"),
		tree(impl.TApp, "", tc, tc), tree(impl.TApp, "", tv, tv), tree(impl.TApp, "", tv, tc), tree(impl.TApp, "", tc, tv, tv),
		tree(impl.DNames, "", tree(impl.DItem, "x")), tree(impl.DContext, "", tree(impl.TApp, "", tc, tv)))
}

// A slowChecker is a second reading of the chapter: kids are written as a text and held against patterns.
type slowChecker struct {
	names, kids map[int64]*regexp.Regexp
	kept        []string
}

func newSlowChecker() *slowChecker {
	c := &slowChecker{names: map[int64]*regexp.Regexp{}, kids: map[int64]*regexp.Regexp{}, kept: append(allWords(), allMarks()...)}
	const name, con, digits, bytes = "[a-z_][A-Za-z0-9_']*", "[A-Z][A-Za-z0-9_']*", "0|[1-9][0-9]{0,299}", "[\n -~]"
	symbol := "[" + regexp.QuoteMeta("!#$%&*+./<=>?@\\^|~:") + "-]"
	conop, op := ":"+symbol+"*", strings.Replace(symbol, ":", "", 1)+symbol+"*"
	variable, constructor := name+"|"+op+"|<mark>", con+"|"+conop
	for pattern, kinds := range map[string][]int64{
		name:                           {impl.PVar, impl.PAs, impl.TVar},
		variable:                       {impl.NVar, impl.DClause},
		constructor:                    {impl.NCon, impl.PCon},
		con:                            {impl.TCon, impl.DData, impl.DConstr, impl.DClass, impl.DInst, impl.DImport, impl.DModule},
		variable + "|" + constructor:   {impl.NLeft, impl.NRight, impl.DItem},
		digits:                         {impl.NNum},
		digits + "|-[1-9][0-9]{0,299}": {impl.PNum},
		bytes:                          {impl.NChar, impl.PChar},
		bytes + "*":                    {impl.NStr, impl.PStr},
		"infix[lr]?":                   {impl.DFix},
		"(all)?":                       {impl.DNames},
	} {
		for _, kind := range kinds {
			c.names[kind] = regexp.MustCompile("\\A(" + pattern + ")\\z")
		}
	}
	c.addKids()
	return c
}

func (c *slowChecker) addKids() {
	words := strings.NewReplacer(
		"e", "<([1-9]|1[0-8])[^0-9>]*>", "p", "<(3[0-9]|4[01])[^0-9>]*>", "t", "<5[0-5][^0-9>]*>", "d", "<6[0-2]>",
		"O", "<[12]>", "P", "<32>", "A", "<19>", "R", "<20>", "G", "<21>", "Q", "<2[23]>", "N", "<70>", "C", "<69>", "V", "<50>",
		"S", "<60>", "F", "<61>", "K", "<64>", "M", "<67>", "T", "<6[0-356]>", "X", "<70(all)?>", "B", "<52bound>", "L", "<3digit>", "I", "<71>", " ", "")
	for shape, kinds := range map[string][]int64{
		"":       {impl.NVar, impl.NCon, impl.NNum, impl.NChar, impl.NStr, impl.PVar, impl.PWild, impl.PNum, impl.PChar, impl.PStr, impl.TVar, impl.TCon, impl.DItem},
		"e (e)+": {impl.NApp}, "(p)+ e": {impl.NLam}, "(d)* e": {impl.NLet}, "e e e": {impl.NIf}, "e (A)+": {impl.NCase}, "p R": {impl.NAlt},
		"(e|(G)+) (d)*": {impl.NRhs}, "e e": {impl.NGuard, impl.NRange}, "(e (e)+)?": {impl.NTuple}, "(e)*": {impl.NList}, "e (Q)+": {impl.NComp},
		"p e": {impl.NGen}, "e": {impl.NTest, impl.NLeft, impl.NRight, impl.NNeg}, "e (O e)+": {impl.NOps}, "(B)*": {impl.DContext}, "(I)*": {impl.DNames},
		"(p)*": {impl.PCon, impl.PList}, "(p (p)+)?": {impl.PTuple}, "p": {impl.PAs, impl.PLazy, impl.PBang}, "p (P p)+": {impl.POps},
		"t (t)+": {impl.TApp}, "t t": {impl.TFun}, "(t (t)+)?": {impl.TTuple}, "t": {impl.TList}, "N C t": {impl.DSig}, "(p)* R": {impl.DClause},
		"L N": {impl.DFix}, "N (K)+ N": {impl.DData}, "(t)*": {impl.DConstr}, "C V (S)*": {impl.DClass}, "C t (F)*": {impl.DInst}, "(N)?": {impl.DImport},
		"X (M)* (T)*": {impl.DModule},
	} {
		for _, kind := range kinds {
			c.kids[kind] = regexp.MustCompile("\\A(" + words.Replace(shape) + ")\\z")
		}
	}
}

// mark tells what the table asks of a kid beside its kind.
func (c *slowChecker) mark(kid impl.Node) string {
	mark := ""
	switch {
	case kid.Kind == impl.PCon && len(kid.Kids) > 0:
		mark = "kids"
	case kid.Kind == impl.DNames:
		mark = kid.Name
	case kid.Kind == impl.NNum && len(kid.Name) == 1:
		mark = "digit"
	case kid.Kind == impl.TApp && len(kid.Kids) == 2 && kid.Kids[0].Kind == impl.TCon && kid.Kids[1].Kind == impl.TVar:
		mark = "bound"
	}
	return fmt.Sprintf("<%d%s>", kid.Kind, mark)
}

func (c *slowChecker) nameFits(n impl.Node) bool {
	pattern := c.names[n.Kind]
	switch {
	case pattern == nil:
		return n.Name == ""
	case n.Kind == impl.DNames && n.Name != "" && len(n.Kids) > 0:
		return false
	case n.Kind == impl.NStr || n.Kind == impl.PStr:
		written := 2 + len(n.Name) + strings.Count(n.Name, "\n") + strings.Count(n.Name, "\\") + strings.Count(n.Name, "\"")
		return pattern.MatchString(n.Name) && written <= impl.MaxSource
	case n.Kind == impl.NChar || n.Kind == impl.PChar || n.Kind == impl.DFix:
		return pattern.MatchString(n.Name)
	case n.Name == "!" || n.Name == "~":
		return pattern.MatchString("<mark>")
	}
	comment := len(n.Name) > 1 && strings.Trim(n.Name, "-") == ""
	return pattern.MatchString(n.Name) && !slices.Contains(c.kept, n.Name) && !comment && n.Name != "<mark>" && len(n.Name) <= impl.MaxSource
}

func (c *slowChecker) fits(n impl.Node) bool {
	var kids strings.Builder
	for _, kid := range n.Kids {
		if !c.fits(kid) {
			return false
		}
		kids.WriteString(c.mark(kid))
	}
	pattern := c.kids[n.Kind]
	return pattern != nil && pattern.MatchString(kids.String()) && c.nameFits(n)
}

func measures(n impl.Node) (nodes, levels int) {
	for _, kid := range n.Kids {
		below, deep := measures(kid)
		nodes += below
		levels = max(levels, deep)
	}
	return nodes + 1, levels + 1
}

func (c *slowChecker) fault(n impl.Node) int64 {
	nodes, levels := measures(n)
	switch {
	case nodes > 20000 || levels > 200:
		return 1
	case !c.fits(n):
		return 2
	}
	return 0
}

func checkTree(t *testing.T, c *slowChecker, n impl.Node) {
	t.Helper()
	if got, want := impl.NodeFault(n), c.fault(n); got != want {
		t.Errorf("%.300s: fault %d, not %d", showSlowly(n), got, want)
	}
}

func checkNodeFault(t *testing.T, want int64, trees ...impl.Node) {
	t.Helper()
	for _, n := range trees {
		if got := impl.NodeFault(n); got != want {
			t.Errorf("%.300s: fault %d, not %d", showSlowly(n), got, want)
		}
	}
}

func showSlowly(n impl.Node) string {
	text := fmt.Sprint(n.Kind)
	if n.Name != "" {
		text += fmt.Sprintf(":%x", n.Name)
	}
	if len(n.Kids) == 0 {
		return text
	}
	var kids []string
	for _, kid := range n.Kids {
		kids = append(kids, showSlowly(kid))
	}
	return text + "(" + strings.Join(kids, " ") + ")"
}

func sameSlowly(a, b impl.Node) bool {
	return a.Kind == b.Kind && a.Name == b.Name && slices.EqualFunc(a.Kids, b.Kids, sameSlowly)
}

// cloneTree copies a tree with all its lists and texts.
func cloneTree(n impl.Node) impl.Node {
	kids := make([]impl.Node, len(n.Kids))
	for i, kid := range n.Kids {
		kids[i] = cloneTree(kid)
	}
	return impl.Node{Kind: n.Kind, Name: strings.Clone(n.Name), Kids: kids}
}

// randomTree has any kinds, names and kids.
func randomTree(r *rand.Rand, levels int) impl.Node {
	kinds := append(allKinds(), 0, -1, 24, 29, 42, 72)
	names := []string{"", "x", "C", "+", ":+", "1", "!", "all", "where", "\x00", "a b"}
	n := tree(kinds[r.IntN(len(kinds))], names[r.IntN(len(names))])
	if levels > 1 {
		for range r.IntN(4) {
			n.Kids = append(n.Kids, randomTree(r, levels-1))
		}
	}
	return n
}

func deepTree(levels int, inner impl.Node) impl.Node {
	for range levels - 1 {
		inner = tree(impl.NNeg, "", inner)
	}
	return inner
}

func wideTree(nodes int) impl.Node {
	n := tree(impl.NList, "")
	for range nodes - 1 {
		n.Kids = append(n.Kids, tree(impl.NNum, "1"))
	}
	return n
}

// severalTrees has trees with faults and without, small and large.
func severalTrees() []impl.Node {
	r := rand.New(rand.NewPCG(4, 4))
	trees := append(somePieces(), impl.Node{}, impl.Node{Kind: -9, Name: "?", Kids: []impl.Node{{}, {}}}, wideTree(300), deepTree(150, tree(impl.NNum, "1")))
	for range 60 {
		trees = append(trees, randomTree(r, 5))
	}
	return trees
}
