package tests

import (
	"fmt"
	"math/rand/v2"
	"slices"
	"strconv"
	"strings"
	"testing"

	"loop.example/g00017/impl"
)

func typeVar(id int64) impl.Type { return impl.Type{Kind: impl.TyVar, Id: id} }

func typePlace(id int64) impl.Type { return impl.Type{Kind: impl.TyGen, Id: id} }

func typeCon(name string, args ...impl.Type) impl.Type {
	return impl.Type{Kind: impl.TyCon, Name: name, Args: args}
}

// ty reads a type: #1 is a variable, @1 a place, all else a constructor, with its arguments in braces and a blank between.
func ty(text string) impl.Type {
	t, rest := cutType(text)
	if rest != "" {
		panic(text)
	}
	return t
}

func cutType(text string) (impl.Type, string) {
	end := strings.IndexAny(text+" ", " {}")
	word, rest := text[:end], text[end:]
	if number, err := strconv.ParseInt(word[1:], 10, 64); err == nil && word[0] == '#' {
		return typeVar(number), rest
	} else if err == nil && word[0] == '@' {
		return typePlace(number), rest
	}
	t := typeCon(word)
	for strings.HasPrefix(rest, "{") || strings.HasPrefix(rest, " ") && t.Args != nil {
		var arg impl.Type
		arg, rest = cutType(rest[1:])
		t.Args = append(t.Args, arg)
	}
	if t.Args != nil {
		rest = strings.TrimPrefix(rest, "}")
	}
	return t, rest
}

// typeText writes a type as ty reads it; of a faulty one all its fields.
func typeText(t impl.Type) string {
	text := t.Name
	switch {
	case t.Kind == impl.TyVar && t.Name == "":
		text = fmt.Sprint("#", t.Id)
	case t.Kind == impl.TyGen && t.Name == "":
		text = fmt.Sprint("@", t.Id)
	case t.Kind != impl.TyCon || t.Id != 0 || t.Name == "":
		text = fmt.Sprintf("<%d,%d,%q>", t.Kind, t.Id, t.Name)
	}
	if len(t.Args) == 0 {
		return text
	}
	var args []string
	for _, arg := range t.Args {
		args = append(args, typeText(arg))
	}
	return text + "{" + strings.Join(args, " ") + "}"
}

func bindsText(binds []impl.Bind) string {
	var parts []string
	for _, b := range binds {
		parts = append(parts, fmt.Sprint(b.Id, "=", typeText(b.Type)))
	}
	return strings.Join(parts, " ")
}

func unifiedText(r impl.UnifyResult) string {
	if r.Code != 0 {
		return strings.TrimSpace(fmt.Sprint("?", r.Code, " ", bindsText(r.Binds)))
	}
	return bindsText(r.Binds)
}

func schemeText(s impl.Scheme) string {
	var preds []string
	for _, p := range s.Preds {
		preds = append(preds, fmt.Sprint(p.Class, "@", p.Id))
	}
	return strings.Join(append([]string{fmt.Sprint(s.Count)}, append(preds, typeText(s.Type))...), " ")
}

// nested puts levels of lists around a type.
func nested(levels int, inner impl.Type) impl.Type {
	for range levels {
		inner = typeCon("[]", inner)
	}
	return inner
}

// wideType has so many types in it, the last ones as they are given.
func wideType(count int, last ...impl.Type) impl.Type {
	t := typeCon("W")
	for range count - 1 - len(last) {
		t.Args = append(t.Args, typeCon("Int"))
	}
	t.Args = append(t.Args, last...)
	return t
}

func typeMeasures(t impl.Type) (count, levels int) {
	for _, arg := range t.Args {
		below, deep := typeMeasures(arg)
		count, levels = count+below, max(levels, deep)
	}
	return count + 1, levels + 1
}

// typeFaultSlowly is a second reading of what is wrong with a type.
func typeFaultSlowly(t impl.Type) bool {
	count, levels := typeMeasures(t)
	return count > 20000 || levels > 200 || partFaulty(t)
}

func partFaulty(t impl.Type) bool {
	isLeaf := t.Kind == 1 || t.Kind == 2
	wrong := !isLeaf && t.Kind != 3 || t.Id < 0 || isLeaf && (t.Name != "" || len(t.Args) > 0) || t.Kind == 3 && (t.Id != 0 || t.Name == "")
	return wrong || slices.ContainsFunc(t.Args, partFaulty)
}

func sameTypeSlowly(a, b impl.Type) bool {
	return a.Kind == b.Kind && a.Id == b.Id && a.Name == b.Name && slices.EqualFunc(a.Args, b.Args, sameTypeSlowly)
}

// leavesOf has the variables and places of a type, each once, by first appearance.
func leavesOf(t impl.Type) []impl.Type {
	if t.Kind != impl.TyCon {
		return []impl.Type{t}
	}
	var leaves []impl.Type
	for _, arg := range t.Args {
		for _, l := range leavesOf(arg) {
			if !slices.ContainsFunc(leaves, func(known impl.Type) bool { return sameTypeSlowly(known, l) }) {
				leaves = append(leaves, l)
			}
		}
	}
	return leaves
}

func freeIdsSlowly(t impl.Type) []int64 {
	var ids []int64
	if typeFaultSlowly(t) {
		return nil
	}
	for _, l := range leavesOf(t) {
		if l.Kind == impl.TyVar {
			ids = append(ids, l.Id)
		}
	}
	return ids
}

// formatSlowly is a second reading of how types are written: letters are looked up in a list of them all.
func formatSlowly(t impl.Type) string {
	if typeFaultSlowly(t) {
		return ""
	}
	return formatWith(leavesOf(t), t)
}

func letterAmong(leaves []impl.Type, l impl.Type) string {
	at := slices.IndexFunc(leaves, func(known impl.Type) bool { return sameTypeSlowly(known, l) })
	if at < 0 {
		return "?"
	}
	for round := 0; ; round++ {
		for _, letter := range "abcdefghijklmnopqrstuvwxyz" {
			if at--; at < 0 {
				return strings.ReplaceAll(strings.TrimSuffix(string(letter)+"."+strconv.Itoa(round), ".0"), ".", "")
			}
		}
	}
}

func formatWith(leaves []impl.Type, t impl.Type) string {
	if t.Kind != impl.TyCon {
		return letterAmong(leaves, t)
	}
	var args []string
	for _, arg := range t.Args {
		args = append(args, formatWith(leaves, arg))
	}
	form := fmt.Sprint(len(args), t.Name)
	tuple := len(args) != 1 && form == fmt.Sprint(len(args), "(", strings.Repeat(",", max(0, len(args)-1)), ")")
	switch {
	case form == "2->" && strings.HasPrefix(typeText(t.Args[0]), "->{") && len(t.Args[0].Args) == 2:
		return "(" + args[0] + ") -> " + args[1]
	case form == "2->":
		return args[0] + " -> " + args[1]
	case form == "1[]":
		return "[" + args[0] + "]"
	case tuple:
		return "(" + strings.Join(args, ", ") + ")"
	}
	text := ownSlowly(t.Name)
	for i, arg := range t.Args {
		commas := strings.Repeat(",", max(0, len(arg.Args)-1))
		bare := len(arg.Args) == 0 || len(arg.Args) == 1 && arg.Name == "[]" || len(arg.Args) > 1 && arg.Name == "("+commas+")"
		if bare {
			text += " " + args[i]
		} else {
			text += " (" + args[i] + ")"
		}
	}
	return text
}

func formatSchemeSlowly(s impl.Scheme) string {
	text := formatSlowly(s.Type)
	if text == "" || len(s.Preds) == 0 {
		return text
	}
	var preds []string
	for _, p := range s.Preds {
		preds = append(preds, ownSlowly(p.Class)+" "+letterAmong(leavesOf(s.Type), typePlace(p.Id)))
	}
	return "(" + strings.Join(preds, ", ") + ") => " + text
}

// applySlowly is a second reading of Apply, for types that do not grow far beyond what may be.
func applySlowly(binds []impl.Bind, t impl.Type) impl.Type {
	if typeFaultSlowly(t) || slices.ContainsFunc(binds, func(b impl.Bind) bool { return typeFaultSlowly(b.Type) }) {
		return impl.Type{}
	}
	var turn func(t impl.Type) impl.Type
	turn = func(t impl.Type) impl.Type {
		at := slices.IndexFunc(binds, func(b impl.Bind) bool { return b.Id == t.Id })
		if t.Kind == impl.TyVar && at >= 0 {
			return binds[at].Type
		}
		args := make([]impl.Type, len(t.Args))
		for i, arg := range t.Args {
			args[i] = turn(arg)
		}
		t.Args = args
		return t
	}
	applied := turn(t)
	if typeFaultSlowly(applied) {
		return impl.Type{}
	}
	return applied
}

// A slowUnifier is a second reading of Unify: binds are a list that is gone through again and again.
type slowUnifier struct {
	binds []impl.Bind
}

// seen answers a type as the binds so far have it, and whether it is as small as it must be.
func (u *slowUnifier) seen(t impl.Type) (impl.Type, bool) {
	left := 20000
	var turn func(t impl.Type, level int) impl.Type
	turn = func(t impl.Type, level int) impl.Type {
		for t.Kind == impl.TyVar {
			at := slices.IndexFunc(u.binds, func(b impl.Bind) bool { return b.Id == t.Id })
			if at < 0 {
				break
			}
			t = u.binds[at].Type
		}
		left--
		if level > 200 {
			left = -1
		}
		args := make([]impl.Type, 0, len(t.Args))
		for _, arg := range t.Args {
			if left >= 0 {
				args = append(args, turn(arg, level+1))
			}
		}
		t.Args = args
		return t
	}
	turned := turn(t, 1)
	return turned, left >= 0
}

func (u *slowUnifier) unify(a, b impl.Type) int64 {
	a, goodA := u.seen(a)
	b, goodB := u.seen(b)
	isVar, isPlace := [2]bool{a.Kind == impl.TyVar, b.Kind == impl.TyVar}, a.Kind == impl.TyGen || b.Kind == impl.TyGen
	switch {
	case !goodA || !goodB:
		return 4
	case isVar[0] && isVar[1] && a.Id == b.Id, isPlace && a.Kind == b.Kind && a.Id == b.Id:
		return 0
	case isPlace:
		return 1
	case isVar[1] && (!isVar[0] || b.Id > a.Id):
		return u.bind(b.Id, a)
	case isVar[0]:
		return u.bind(a.Id, b)
	case a.Name != b.Name || len(a.Args) != len(b.Args):
		return 1
	}
	for i := range a.Args {
		if code := u.unify(a.Args[i], b.Args[i]); code != 0 {
			return code
		}
	}
	return 0
}

func (u *slowUnifier) bind(id int64, t impl.Type) int64 {
	if slices.Contains(freeIdsSlowly(t), id) {
		return 2
	}
	u.binds = append(u.binds, impl.Bind{Id: id, Type: t})
	return 0
}

func unifySlowly(a, b impl.Type) impl.UnifyResult {
	if typeFaultSlowly(a) || typeFaultSlowly(b) {
		return impl.UnifyResult{Code: 3}
	}
	u := &slowUnifier{}
	code := u.unify(a, b)
	_, goodA := u.seen(a)
	if _, goodB := u.seen(b); code == 0 && !(goodA && goodB) {
		code = 4
	}
	if code != 0 {
		return impl.UnifyResult{Code: code}
	}
	var binds []impl.Bind
	for _, b := range u.binds {
		whole, _ := u.seen(b.Type)
		binds = append(binds, impl.Bind{Id: b.Id, Type: whole})
	}
	slices.SortFunc(binds, func(a, b impl.Bind) int { return int(a.Id - b.Id) })
	return impl.UnifyResult{Binds: binds}
}

// closeSlowly and openSlowly are second readings of Close and Open.
func closeSlowly(t impl.Type, preds []impl.Pred, keep []int64) impl.Scheme {
	if typeFaultSlowly(t) {
		return impl.Scheme{}
	}
	ids := slices.DeleteFunc(freeIdsSlowly(t), func(id int64) bool { return slices.Contains(keep, id) })
	var binds []impl.Bind
	for i, id := range ids {
		binds = append(binds, impl.Bind{Id: id, Type: typePlace(int64(i))})
	}
	s := impl.Scheme{Count: int64(len(ids)), Type: applySlowly(binds, t)}
	for _, p := range preds {
		placed := impl.Pred{Class: p.Class, Id: int64(slices.Index(ids, p.Id))}
		if placed.Id >= 0 && !slices.Contains(s.Preds, placed) {
			s.Preds = append(s.Preds, placed)
		}
	}
	return s
}

func openSlowly(s impl.Scheme, first int64) impl.Type {
	const most = 1099511627776
	if typeFaultSlowly(s.Type) || first < 0 || first > most || s.Count < 0 || s.Count > most {
		return impl.Type{}
	}
	good := true
	var turn func(t impl.Type) impl.Type
	turn = func(t impl.Type) impl.Type {
		if t.Kind == impl.TyGen {
			good = good && t.Id < s.Count
			return typeVar(t.Id + first)
		}
		args := make([]impl.Type, len(t.Args))
		for i, arg := range t.Args {
			args[i] = turn(arg)
		}
		t.Args = args
		return t
	}
	opened := turn(s.Type)
	if !good {
		return impl.Type{}
	}
	return opened
}

// A typeMaker draws types.
type typeMaker struct{ *rand.Rand }

// sound draws a type without fault that has variables up to an id.
func (m typeMaker) sound(levels int, ids int64) impl.Type {
	names := []string{"->", "[]", "(,)", "()", "Int", "A.T", "A.T", "(,,)"}
	counts := []int{2, 1, 2, 0, 0, 1, 2, 3}
	if levels <= 1 || m.IntN(4) == 0 {
		switch m.IntN(8) {
		case 0:
			return typePlace(m.Int64N(2))
		case 1:
			return typeCon("Int")
		}
		return typeVar(m.Int64N(ids))
	}
	at := m.IntN(len(names))
	t := typeCon(names[at])
	for range counts[at] {
		t.Args = append(t.Args, m.sound(levels-1, ids))
	}
	return t
}

// any draws a type that may have faults, or constructors with any number of arguments.
func (m typeMaker) any(levels int) impl.Type {
	t := m.sound(levels, 40)
	switch m.IntN(12) {
	case 0:
		return impl.Type{Kind: m.Int64N(6) - 1, Id: m.Int64N(3) - 1, Name: []string{"", "", "T", "->"}[m.IntN(4)]}
	case 1:
		return typePlace(m.Int64N(60))
	}
	for i := range t.Args {
		if m.IntN(6) == 0 {
			t.Args[i] = m.any(levels - 1)
		}
	}
	if t.Kind == impl.TyCon && m.IntN(5) == 0 {
		t.Name = []string{"->", "[]", "(,)", "()", "A.B.C", ".x", "A.", "a.b", "A.->", "(,,)", "(,,,)"}[m.IntN(11)]
	}
	return t
}

// several has types with faults and without, small and large.
func severalTypes() []impl.Type {
	m := typeMaker{rand.New(rand.NewPCG(8, 1))}
	types := []impl.Type{{}, typeVar(0), typePlace(0), typeVar(-1), typeCon("T"), typeCon("->", typeVar(1), typeVar(2)), wideType(300), nested(150, typeVar(3)), nested(200, typeVar(3)), wideType(impl.MaxNodes), wideType(impl.MaxNodes + 1)}
	for range 100 {
		types = append(types, m.any(4), m.sound(4, 5))
	}
	return types
}

func cloneType(t impl.Type) impl.Type {
	args := make([]impl.Type, len(t.Args))
	for i, arg := range t.Args {
		args[i] = cloneType(arg)
	}
	return impl.Type{Kind: t.Kind, Id: t.Id, Name: strings.Clone(t.Name), Args: args}
}

func checkType(t *testing.T, what string, got, want impl.Type) {
	t.Helper()
	if !sameTypeSlowly(got, want) {
		t.Errorf("%.300s: %.300s, not %.300s", what, typeText(got), typeText(want))
	}
}
