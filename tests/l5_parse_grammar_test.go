package tests

import (
	"math/rand/v2"
	"slices"
	"strings"

	"loop.example/g00017/impl"
)

// slowRules is a second reading of the chapter's table, a rule a line. Of each choice: ?x asks a look ahead, x@ is (a part of) the node's name,
// -> K is the kind of the node that is made, K? of more or less than one alone, ^K the kind of the node that a rule with -> ^ makes; 'Q' is the backquote.
const slowRules = `
module = 'module' con@ exports 'where' block(top) -> DModule
exports = '(' list(item) ')' -> DNames / -> DNames:all
item = name@ -> DItem / con@ -> DItem / '(' any@ ')' -> DItem
any = op@ / conop@ / '!'@ / '~'@
top = import / data / class / instance / decl
import = 'import' con@ [ items ] -> DImport
items = '(' list(item) ')' -> DNames
data = 'data' con@ tyvars '=' constr { '|' constr } derivs -> DData
tyvars = { tyvar } -> DNames
tyvar = name@ -> DItem
derivs = 'deriving' '(' list(deriv) ')' -> DNames / -> DNames
deriv = con@ -> DItem
constr = con@ { atype } -> DConstr
class = 'class' context con@ classvar 'where' block(sig) -> DClass
classvar = name@ -> TVar
instance = 'instance' context con@ atype 'where' block(clause) -> DInst
context = ?arrow contexts / -> DContext
contexts = pred '=>' -> DContext / '(' list(pred) ')' '=>' -> DContext
pred = predcon classvar -> TApp
predcon = con@ -> TCon
decl = fix / ?sig sig / clause
fix = fixword@ level opers -> DFix
fixword = 'infix'@ / 'infixl'@ / 'infixr'@
level = number@ -> NNum
opers = operitem { ',' operitem } -> DNames
operitem = oper@ -> DItem
oper = any@ / 'Q' quoted@ 'Q'
quoted = name@ / con@
sig = sigvars '::' context type -> DSig
sigvars = varitem { ',' varitem } -> DNames
varitem = var@ -> DItem
var = name@ / '(' any@ ')'
clause = ?prefix var@ { apat } rhs -> DClause / apat vop@ apat rhs -> DClause
vop = op@ / 'Q' name@ 'Q'
rhs = bodies [ 'where' block(decl) ] -> NRhs
bodies = '=' exp / guard { guard }
guard = '|' exp '=' exp -> NGuard
altrhs = altbodies [ 'where' block(decl) ] -> NRhs
altbodies = '->' exp / altguard { altguard }
altguard = '|' exp '->' exp -> NGuard
type = btype [ '->' type ] -> TFun?
btype = atype { atype } -> TApp?
atype = con@ -> TCon / name@ -> TVar / '(' list(type) ')' -> TTuple? / '[' type ']' -> TList
exp = operand { opnode operand } -> NOps?
opnode = op@ -> NVar / conop@ -> NCon / '!'@ -> NVar / '~'@ -> NVar / 'Q' quotnode 'Q'
quotnode = name@ -> NVar / con@ -> NCon
operand = minus fexp -> NNeg / '\' apat { apat } '->' exp -> NLam / 'let' block(decl) 'in' exp -> NLet / ifelse / 'case' exp 'of' block(alt) -> NCase / fexp
ifelse = 'if' exp 'then' exp 'else' exp -> NIf
alt = pat altrhs -> NAlt
fexp = aexp { aexp } -> NApp?
aexp = name@ -> NVar / con@ -> NCon / number@ -> NNum / char@ -> NChar / string@ -> NStr / bracket / square
bracket = '(' inside@ -> ^
inside = ')' ^NTuple / ?alone anynode ')' / ?right oper@ exp ')' ^NRight / own ending@
anynode = op@ -> NVar / conop@ -> NCon / '!'@ -> NVar / '~'@ -> NVar
own = operand { ?inner opnode operand } -> NOps?
ending = ')' / ',' exp { ',' exp } ')' ^NTuple / oper@ ')' ^NLeft
square = '[' elements -> ^
elements = ']' ^NList / exp rest
rest = ']' ^NList / ',' exp { ',' exp } ']' ^NList / '..' exp ']' ^NRange / '|' qual { ',' qual } ']' ^NComp
qual = ?draws pat '<-' exp -> NGen / exp -> NTest
pat = lpat { pop lpat } -> POps?
pop = conop@ -> PCon / 'Q' con@ 'Q' -> PCon
lpat = con@ { apat } -> PCon / minus@ number@ -> PNum / apat
apat = named / '_' -> PWild / con@ -> PCon / number@ -> PNum / char@ -> PChar / string@ -> PStr / patlist / '~' apat -> PLazy / '!' apat -> PBang
patlist = '(' list(pat) ')' -> PTuple? / '[' list(pat) ']' -> PList
named = name@ asrest -> ^
asrest = '@' apat ^PAs / ^PVar
`

// A slowPart is a token by its text or kind, a rule by its name, or a loop, an option, a block or a list of what is in it.
type slowPart struct {
	sort     byte // t: token, r: rule, {: loop, [: option, b: block, l: list, ^: a kind
	text     string
	captured bool
	hook     string
	inner    []slowPart
	first    map[string]bool // what the inner parts may begin with
}

type slowChoice struct {
	hook, gives string
	parts       []slowPart
	first       map[string]bool // what the parts may begin with; the empty text if they may be nothing
}

type slowGrammar struct {
	rules  map[string][]slowChoice
	first  map[string]map[string]bool // of a rule the tokens that it may begin with
	weight map[string]int             // how deep the least of a rule is
}

var kindNames = strings.Fields("1NVar 2NCon 3NNum 4NChar 5NStr 6NApp 7NLam 8NLet 9NIf 10NCase 11NTuple 12NList 13NRange 14NComp 15NLeft 16NRight 17NNeg 18NOps 19NAlt 20NRhs 21NGuard 22NGen 23NTest " +
	"30PVar 31PWild 32PCon 33PNum 34PChar 35PStr 36PTuple 37PList 38PAs 39PLazy 40PBang 41POps 50TVar 51TCon 52TApp 53TFun 54TTuple 55TList " +
	"60DSig 61DClause 62DFix 63DData 64DConstr 65DClass 66DInst 67DImport 68DModule 69DContext 70DNames 71DItem")

func kindByName() map[string]int64 {
	kinds := map[string]int64{}
	for _, entry := range kindNames {
		at := strings.IndexAny(entry, "NPTD")
		for i := range at {
			kinds[entry[at:]] = kinds[entry[at:]]*10 + int64(entry[i]-'0')
		}
	}
	return kinds
}

func newSlowGrammar() *slowGrammar {
	g := &slowGrammar{rules: map[string][]slowChoice{}, first: map[string]map[string]bool{}, weight: map[string]int{}}
	text := strings.ReplaceAll(slowRules, "'Q'", "'`'")
	for _, line := range strings.Split(strings.TrimSpace(text), "\n") {
		name, body, _ := strings.Cut(line, " = ")
		g.rules[name] = slowChoices(body)
	}
	for _, choices := range g.rules {
		for i := range choices {
			choices[i].first = g.firsts(choices[i].parts)
		}
	}
	for round := 0; round < 40; round++ {
		for name, choices := range g.rules {
			for _, c := range choices {
				if w := g.weigh(c.parts) + 1; w > 1 && (g.weight[name] == 0 || w < g.weight[name]) {
					g.weight[name] = w
				}
			}
		}
	}
	return g
}

// slowChoices reads the choices of a rule.
func slowChoices(body string) []slowChoice {
	var choices []slowChoice
	for _, text := range strings.Split(body, " / ") {
		var c slowChoice
		text = " " + text
		text, c.gives, _ = strings.Cut(text, " -> ")
		fields := strings.Fields(text)
		if len(fields) > 0 && fields[0][0] == '?' {
			c.hook, fields = fields[0][1:], fields[1:]
		}
		c.parts, _ = slowParts(fields)
		choices = append(choices, c)
	}
	return choices
}

// slowParts reads parts up to the end of a loop or an option.
func slowParts(fields []string) (parts []slowPart, rest []string) {
	for len(fields) > 0 {
		f := fields[0]
		fields = fields[1:]
		part := slowPart{sort: 'r', text: strings.TrimSuffix(f, "@"), captured: len(f) > 1 && strings.HasSuffix(f, "@")}
		switch {
		case f == "{" || f == "[":
			part = slowPart{sort: f[0]}
			if fields[0][0] == '?' {
				part.hook, fields = fields[0][1:], fields[1:]
			}
			part.inner, fields = slowParts(fields)
		case f == "}" || f == "]":
			return parts, fields
		case strings.HasPrefix(f, "block(") || strings.HasPrefix(f, "list("):
			_, inner, _ := strings.Cut(strings.TrimSuffix(f, ")"), "(")
			part = slowPart{sort: f[0], inner: []slowPart{{sort: 'r', text: inner}}}
		case f[0] == '^':
			part = slowPart{sort: '^', text: f[1:]}
		case f[0] == '\'' || strings.Contains(" name con op conop number char string minus ", " "+part.text+" "):
			part.sort = 't'
		}
		parts = append(parts, part)
	}
	return parts, nil
}

func (g *slowGrammar) firstOf(rule string) map[string]bool {
	if g.first[rule] == nil {
		first := map[string]bool{}
		for _, c := range g.rules[rule] {
			if g.addFirst(first, c.parts) {
				first[""] = true
			}
		}
		g.first[rule] = first
	}
	return g.first[rule]
}

func (g *slowGrammar) firsts(parts []slowPart) map[string]bool {
	first := map[string]bool{}
	if g.addFirst(first, parts) {
		first[""] = true
	}
	for i := range parts {
		if parts[i].inner != nil {
			parts[i].first = g.firsts(parts[i].inner)
		}
	}
	return first
}

// addFirst adds what the parts may begin with, and says whether they may be nothing.
func (g *slowGrammar) addFirst(first map[string]bool, parts []slowPart) bool {
	for _, p := range parts {
		empty := false
		switch p.sort {
		case 't':
			first[p.text] = true
		case 'r':
			for text := range g.firstOf(p.text) {
				first[text] = first[text] || text != ""
			}
			empty = g.firstOf(p.text)[""]
		case '{', '[', 'l':
			g.addFirst(first, p.inner)
			empty = true
		case 'b':
			first["'{'"] = true
		case '^':
			empty = true
		}
		if !empty {
			return false
		}
	}
	return true
}

// weigh says how deep the least of the parts is, or -1 if that is not known yet.
func (g *slowGrammar) weigh(parts []slowPart) int {
	most := 1
	for _, p := range parts {
		if p.sort == 'r' {
			if g.weight[p.text] == 0 {
				return -1
			}
			most = max(most, g.weight[p.text])
		}
	}
	return most
}

// sentence makes tokens by a rule, choices taken at random; what looks ahead is not asked, so that not all that is made is read.
func (g *slowGrammar) sentence(r *rand.Rand, rule string, deep int) []impl.Token {
	choices := g.rules[rule]
	c := choices[r.IntN(len(choices))]
	if deep <= 0 {
		for _, other := range choices {
			if g.weigh(other.parts) < g.weigh(c.parts) {
				c = other
			}
		}
	}
	return g.sentenceOf(r, c.parts, deep-1)
}

func (g *slowGrammar) sentenceOf(r *rand.Rand, parts []slowPart, deep int) []impl.Token {
	var tokens []impl.Token
	for _, p := range parts {
		times := 0
		if deep > 0 {
			times = r.IntN(3)
		}
		switch p.sort {
		case 't':
			tokens = append(tokens, randomTokenOf(r, p.text))
		case 'r':
			tokens = append(tokens, g.sentence(r, p.text, deep)...)
		case '{':
			for range times {
				tokens = append(tokens, g.sentenceOf(r, p.inner, deep)...)
			}
		case '[':
			if times > 0 {
				tokens = append(tokens, g.sentenceOf(r, p.inner, deep)...)
			}
		case 'b':
			tokens = append(tokens, brace(r, "{"))
			for i := range times {
				if i > 0 || r.IntN(6) == 0 {
					tokens = append(tokens, brace(r, ";"))
				}
				tokens = append(tokens, g.sentenceOf(r, p.inner, deep)...)
			}
			tokens = append(tokens, brace(r, "}"))
		case 'l':
			for i := range times {
				if i > 0 {
					tokens = append(tokens, token(impl.TokSpecial, ","))
				}
				tokens = append(tokens, g.sentenceOf(r, p.inner, deep)...)
			}
		}
	}
	return tokens
}

func brace(r *rand.Rand, text string) impl.Token {
	return token([]int64{impl.TokLayout, impl.TokSpecial}[r.IntN(2)], text)
}

// exampleTokens has texts of each kind that rules name, and the kind ahead of them.
var exampleTokens = map[string][]string{
	"name": {"x", "y", "f'", "_g"}, "con": {"A", "B", "C'"}, "op": {"+", "-", "*", "++", "."}, "conop": {":", ":+"},
	"number": {"0", "1", "2", "9", "10"}, "char": {"a", "'", "\\", "\n"}, "string": {"", "s", "\"q\"", "a\nb"}, "minus": {"-"},
}

func randomTokenOf(r *rand.Rand, terminal string) impl.Token {
	if terminal[0] == '\'' {
		return fixedToken(terminal[1 : len(terminal)-1])
	}
	texts := exampleTokens[terminal]
	return token(kindOfTerminal(terminal), texts[r.IntN(len(texts))])
}

func kindOfTerminal(terminal string) int64 {
	if terminal == "minus" {
		return impl.TokOp
	}
	return int64(slices.Index([]string{"", "name", "con", "op", "conop", "number", "char", "string"}, terminal))
}

// fixedToken has the kind that a token of this text has in a text.
func fixedToken(text string) impl.Token {
	kind := int64(impl.TokWord)
	switch {
	case strings.Contains("( ) [ ] , ; ` { }", text):
		kind = impl.TokSpecial
	case strings.ContainsAny(text, symbolBytes):
		kind = impl.TokMark
	}
	return token(kind, text)
}
