package tests

import (
	"slices"
	"strings"
	"testing"

	"loop.example/g00017/impl"
)

// A slowParser reads by the rules of slowRules, calling itself from rule to rule.
type slowParser struct {
	*slowGrammar
	kinds     map[string]int64
	tokens    []impl.Token
	terminals [][]string
	at        int
}

// slowRead is what a rule has read: nodes, and the name and kind of one that is still to be made of them.
type slowRead struct {
	nodes      []impl.Node
	name, kind string
}

type slowMisfit struct{}

func newSlowParser() *slowParser {
	return &slowParser{slowGrammar: newSlowGrammar(), kinds: kindByName()}
}

func (s *slowParser) parse(tokens []impl.Token) (result impl.ParseResult) {
	defer func() {
		if caught := recover(); caught == (slowMisfit{}) {
			result = impl.ParseResult{Code: 1}
		} else if caught != nil {
			panic(caught)
		}
	}()
	s.tokens, s.terminals, s.at = tokens, nil, 0
	for _, tok := range tokens {
		s.terminals = append(s.terminals, terminalsOf(tok))
	}
	read := s.rule("module")
	if s.at != len(tokens) {
		panic(slowMisfit{})
	}
	if impl.NodeFault(read.nodes[0]) != 0 {
		return impl.ParseResult{Code: 2}
	}
	return impl.ParseResult{Tree: read.nodes[0]}
}

// terminalsOf has the terminals of the rules that a token is one of.
func terminalsOf(tok impl.Token) []string {
	switch tok.Kind {
	case impl.TokName:
		return []string{"name"}
	case impl.TokCon:
		return []string{"con"}
	case impl.TokNumber:
		return []string{"number"}
	case impl.TokChar:
		return []string{"char"}
	case impl.TokString:
		return []string{"string"}
	case impl.TokWord, impl.TokMark, impl.TokSpecial, impl.TokLayout:
		return []string{"'" + tok.Text + "'"}
	}
	switch {
	case tok.Kind == impl.TokOp && tok.Text == "-":
		return []string{"op", "minus"}
	case tok.Kind == impl.TokOp && tok.Text != "":
		return []string{"op"}
	case tok.Kind == impl.TokConOp && tok.Text != "":
		return []string{"conop"}
	}
	return nil
}

// is says whether the token at a place is one of these terminals.
func (s *slowParser) is(at int, terminals ...string) bool {
	if at >= len(s.tokens) {
		return false
	}
	return slices.ContainsFunc(s.terminals[at], func(terminal string) bool { return slices.Contains(terminals, terminal) })
}

// begins says whether the next token is one of these, or none is needed.
func (s *slowParser) begins(first map[string]bool) bool {
	if s.at >= len(s.tokens) {
		return first[""]
	}
	return first[""] || slices.ContainsFunc(s.terminals[s.at], func(terminal string) bool { return first[terminal] })
}

func (s *slowParser) rule(name string) slowRead {
	for _, c := range s.rules[name] {
		if c.hook != "" && s.ask(c.hook) || c.hook == "" && s.begins(c.first) {
			return s.give(c.gives, s.parts(c.parts))
		}
	}
	panic(slowMisfit{})
}

// give makes the node that a choice says.
func (s *slowParser) give(gives string, read slowRead) slowRead {
	if gives == "^" {
		gives = read.kind
	}
	if kind, ok := strings.CutSuffix(gives, "?"); ok {
		if len(read.nodes) == 1 {
			return read
		}
		gives = kind
	}
	if gives == "" {
		return read
	}
	kind, name, isNamed := strings.Cut(gives, ":")
	if isNamed {
		read.name = name
	}
	return slowRead{nodes: []impl.Node{{Kind: s.kinds[kind], Name: read.name, Kids: read.nodes}}}
}

func (s *slowParser) parts(parts []slowPart) slowRead {
	var read slowRead
	add := func(inner slowRead, captured bool) {
		read.nodes = append(read.nodes, inner.nodes...)
		read.kind += inner.kind
		if captured {
			read.name += inner.name
		}
	}
	for _, p := range parts {
		switch p.sort {
		case 't':
			add(slowRead{name: s.take(p.text)}, p.captured)
		case 'r':
			add(s.rule(p.text), p.captured)
		case '^':
			read.kind = p.text
		case '{':
			for s.begins(p.first) && (p.hook == "" || s.ask(p.hook)) {
				add(s.parts(p.inner), false)
			}
		case '[':
			if s.begins(p.first) {
				add(s.parts(p.inner), false)
			}
		case 'l':
			if s.begins(p.first) {
				add(s.parts(p.inner), false)
				for s.is(s.at, "','") {
					s.at++
					add(s.parts(p.inner), false)
				}
			}
		case 'b':
			s.take("'{'")
			for more := true; more; {
				if !s.is(s.at, "';'", "'}'") {
					add(s.parts(p.inner), false)
				}
				if more = s.is(s.at, "';'"); more {
					s.at++
				}
			}
			s.take("'}'")
		}
	}
	return read
}

func (s *slowParser) take(terminal string) string {
	if !s.is(s.at, terminal) {
		panic(slowMisfit{})
	}
	s.at++
	return s.tokens[s.at-1].Text
}

// ask looks ahead, where the table says how.
func (s *slowParser) ask(hook string) bool {
	at := s.at
	symbol := func(at int) bool { return s.is(at, "op", "conop", "'!'", "'~'") }
	inBrackets := s.is(at, "'('") && symbol(at+1) && s.is(at+2, "')'")
	quoted := s.is(at, "'`'") && s.is(at+1, "name", "con") && s.is(at+2, "'`'")
	switch hook {
	case "arrow":
		for ; at < len(s.tokens) && !s.is(at, "'='", "';'", "'}'", "'where'"); at++ {
			if s.is(at, "'=>'") {
				return true
			}
		}
		return false
	case "sig":
		return s.is(at, "name") && s.is(at+1, "','", "'::'") || inBrackets && s.is(at+3, "','", "'::'")
	case "prefix":
		behind := s.is(at+1, "op") || s.is(at+1, "'`'") && s.is(at+2, "name") && s.is(at+3, "'`'")
		return s.is(at, "name") && !behind || inBrackets
	case "alone":
		return symbol(at) && s.is(at+1, "')'")
	case "right":
		return (symbol(at) || s.is(at, "'`'")) && !s.is(at, "minus")
	case "inner":
		return !(symbol(at) && s.is(at+1, "')'") || quoted && s.is(at+3, "')'"))
	case "draws":
		return s.draws()
	}
	panic("no look ahead " + hook)
}

func (s *slowParser) draws() bool {
	depth := 0
	for at := s.at; at < len(s.tokens); at++ {
		switch {
		case depth == 0 && s.is(at, "','", "']'"):
			return false
		case depth == 0 && s.is(at, "'<-'"):
			return true
		case s.is(at, "'('", "'['", "'{'"):
			depth++
		case s.is(at, "')'", "']'", "'}'"):
			depth--
		}
	}
	return false
}

// checkTokens holds what is read of tokens against the second reading.
func checkTokens(t *testing.T, s *slowParser, tokens []impl.Token) impl.ParseResult {
	t.Helper()
	got, want := impl.ParseTokens(tokens), s.parse(tokens)
	if got.Code != want.Code || !impl.SameNode(got.Tree, want.Tree) {
		t.Fatalf("%s\nis code %d %s\nnot     %d %s", shown(tokens), got.Code, kinded(got.Tree), want.Code, kinded(want.Tree))
	}
	return got
}

// checkModule reads back what is printed, too; the tokens are such as a text may have.
func checkModule(t *testing.T, s *slowParser, tokens []impl.Token) int64 {
	t.Helper()
	got := checkTokens(t, s, tokens)
	if got.Code == 0 {
		checkReadBack(t, got.Tree)
	}
	return got.Code
}

// checkReadBack reads what is printed of a tree.
func checkReadBack(t *testing.T, n impl.Node) {
	t.Helper()
	text := impl.Print(n)
	if want := printSlowly(n); text != want {
		t.Fatalf("%s\nis printed as %s\nnot as        %s", kinded(n), text, want)
	}
	again := impl.ParseText(text)
	if len(text) > impl.MaxSource {
		if again.Code != 15 {
			t.Fatalf("%d bytes: code %d", len(text), again.Code)
		}
		return
	}
	if again.Code != 0 || !impl.SameNode(again.Tree, n) {
		t.Fatalf("%s\nis printed as %s\nand read as %d %s", kinded(n), text, again.Code, kinded(again.Tree))
	}
}

// kinded writes a tree with the names of its kinds.
func kinded(n impl.Node) string {
	text := "?"
	for name, kind := range kindByName() {
		if kind == n.Kind {
			text = name
		}
	}
	if n.Name != "" {
		text += ":" + n.Name
	}
	if len(n.Kids) == 0 {
		return text
	}
	var kids []string
	for _, kid := range n.Kids {
		kids = append(kids, kinded(kid))
	}
	return text + "(" + strings.Join(kids, " ") + ")"
}

// parsed reads a text that is a module.
func parsed(t *testing.T, text string) impl.Node {
	t.Helper()
	r := impl.ParseText(text)
	if r.Code != 0 {
		t.Errorf("%q is not read: code %d", text, r.Code)
		return impl.Node{}
	}
	checkReadBack(t, r.Tree)
	return r.Tree
}

// A place is where a text may stand in a module, and the way to its tree there.
type place struct {
	ahead, behind string
	way           []int
}

func inTop() place  { return place{"module M where { ", " }", []int{1}} }
func inExp() place  { return place{"module M where { x = ", " }", []int{1, 0, 0}} }
func inType() place { return place{"module M where { f :: ", " }", []int{1, 2}} }
func inPattern() place {
	return place{"module M where { x = case a of { ", " -> b } }", []int{1, 0, 0, 1, 0}}
}
func inApat() place  { return place{"module M where { f ", " = a }", []int{1, 0}} }
func inWhole() place { return place{} }

// checkTrees reads each text at a place, and compares its tree.
func checkTrees(t *testing.T, p place, rows [][2]string) {
	t.Helper()
	for _, row := range rows {
		n := parsed(t, p.ahead+row[0]+p.behind)
		for _, at := range p.way {
			if at >= len(n.Kids) {
				t.Errorf("%q has no tree at the place", row[0])
				break
			}
			n = n.Kids[at]
		}
		if got := kinded(n); got != row[1] {
			t.Errorf("%q is read as\n%s, not\n%s", row[0], got, row[1])
		}
	}
}

// checkCodes reads each text at a place, and compares the code; with a code there is no tree.
func checkCodes(t *testing.T, want int64, p place, texts ...string) {
	t.Helper()
	for _, text := range texts {
		got := impl.ParseText(p.ahead + text + p.behind)
		if got.Code != want || want != 0 && !impl.SameNode(got.Tree, impl.Node{}) {
			t.Errorf("%q has code %d, not %d: %s", text, got.Code, want, kinded(got.Tree))
		}
	}
}
