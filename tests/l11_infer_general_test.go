package tests

import (
	"math/rand/v2"
	"slices"
	"strings"
	"testing"

	"loop.example/g00017/impl"
)

// signedBy puts signatures of schemes ahead of the clauses of things, by their names in the module.
func signedBy(t *testing.T, module impl.Node, schemes map[string]impl.Scheme) impl.Node {
	t.Helper()
	own := tree(module.Kind, module.Name)
	done := map[string]bool{}
	for _, kid := range module.Kids {
		if s, has := schemes[kid.Name]; has && kid.Kind == impl.DClause && !done[kid.Name] {
			done[kid.Name] = true
			own.Kids = append(own.Kids, parsed(t, "module M where { "+asName(kid.Name)+" :: "+impl.FormatScheme(s)+" }").Kids[1])
		}
		own.Kids = append(own.Kids, kid)
	}
	return own
}

// toldIn has the schemes of things without signatures. Those that lead to themselves and have preds are left out: with a signature they use themselves at a type of its own each time, and a need at one that nothing else tells is left.
func toldIn(module impl.Node, r impl.InferResult) map[string]impl.Scheme {
	told := map[string]impl.Scheme{}
	for _, x := range r.Types {
		told[strings.TrimPrefix(x.Name, "M.")] = x.Scheme
	}
	for _, group := range ordered(slowThings(module.Kids)) {
		names := func(c impl.Node) bool { return slices.Contains(freeIn(c), group[0].name) }
		isRound := len(group) > 1 || slices.ContainsFunc(group[0].clauses, names)
		for _, one := range group {
			if one.sig != nil || isRound && len(told[one.name].Preds) > 0 {
				delete(told, one.name)
			}
		}
	}
	return told
}

func TestToldTypesAreSignatures(t *testing.T) {
	m := &progMaker{Rand: rand.New(rand.NewPCG(11, 2))}
	count := 0
	for range 40 {
		n := parsed(t, m.module())
		r := impl.InferProgram([]impl.Node{n})
		if r.Code != 0 {
			continue
		}
		told := toldIn(n, r)
		count += len(told)
		signed := signedBy(t, n, told)
		if got := impl.InferProgram([]impl.Node{signed}); toldTypes(got) != toldTypes(r) {
			t.Errorf("%s\nis\n%s\nnot\n%s", impl.Print(signed), toldTypes(got), toldTypes(r))
		}
		for name, scheme := range told {
			one := signedBy(t, n, map[string]impl.Scheme{name: scheme})
			if got := impl.InferProgram([]impl.Node{one}); got.Code != 0 {
				t.Errorf("%s\nis not taken: %s", impl.Print(one), toldTypes(got))
			}
		}
	}
	if count < 50 {
		t.Errorf("there are but %d", count)
	}
}

// moreGeneral has schemes that are more general than one, by one step each.
func moreGeneral(s impl.Scheme) []impl.Scheme {
	var list []impl.Scheme
	for i := range s.Preds {
		list = append(list, impl.Scheme{Count: s.Count, Preds: slices.Delete(slices.Clone(s.Preds), i, i+1), Type: s.Type})
	}
	counts := map[int64]int{}
	for _, leaf := range leavesOf(s.Type) {
		if leaf.Kind == impl.TyGen {
			counts[leaf.Id]++
		}
	}
	at := 0
	var turned func(t impl.Type, place int) impl.Type
	turned = func(t impl.Type, place int) impl.Type {
		at++
		if at-1 == place && (t.Kind == impl.TyCon || counts[t.Id] > 1) {
			return typePlace(s.Count)
		}
		own := impl.Type{Kind: t.Kind, Id: t.Id, Name: t.Name}
		for _, arg := range t.Args {
			own.Args = append(own.Args, turned(arg, place))
		}
		return own
	}
	size, _ := typeMeasures(s.Type)
	for place := range size {
		at = 0
		if t := turned(s.Type, place); !sameTypeSlowly(t, s.Type) {
			list = append(list, impl.Scheme{Count: s.Count + 1, Preds: s.Preds, Type: t})
		}
	}
	return list
}

// isWritten says whether all places of preds are in the type, so that it can be a signature.
func isWritten(s impl.Scheme) bool {
	return !strings.Contains(impl.FormatScheme(s), "?")
}

func TestToldTypesAreMostGeneral(t *testing.T) {
	m := &progMaker{Rand: rand.New(rand.NewPCG(11, 3))}
	refused, taken := 0, 0
	for range 60 {
		n := parsed(t, m.module())
		r := impl.InferProgram([]impl.Node{n})
		if r.Code != 0 || len(r.Types) == 0 {
			continue
		}
		told := toldIn(n, r)
		clauses := kidsOf(n, impl.DClause)
		last := clauses[len(clauses)-1].Name
		scheme, isTold := told[last]
		isUsed := slices.ContainsFunc(clauses, func(c impl.Node) bool { return slices.Contains(freeIn(c), last) })
		if !isTold || isUsed {
			continue
		}
		for _, s := range moreGeneral(scheme) {
			if !isWritten(s) {
				continue
			}
			refused++
			if got := impl.InferProgram([]impl.Node{signedBy(t, n, map[string]impl.Scheme{last: s})}); got.Code != 2 || got.Name != "M."+last {
				t.Errorf("%s\n%s :: %s, told %s, is %s", impl.Print(n), last, impl.FormatScheme(s), impl.FormatScheme(scheme), toldTypes(got))
			}
		}
		for k := range scheme.Count {
			taken++
			less := impl.Scheme{Count: scheme.Count, Type: placed(scheme.Type, impl.TyGen, map[int64]impl.Type{k: typePlace(0)})}
			for _, p := range scheme.Preds {
				less.Preds = append(less.Preds, impl.Pred{Class: p.Class, Id: map[bool]int64{true: 0, false: p.Id}[p.Id == k]})
			}
			if got := impl.InferProgram([]impl.Node{signedBy(t, n, map[string]impl.Scheme{last: less})}); got.Code != 0 {
				t.Errorf("%s\n%s :: %s, told %s, is %s", impl.Print(n), last, impl.FormatScheme(less), impl.FormatScheme(scheme), toldTypes(got))
			}
		}
	}
	if refused < 40 || taken < 15 {
		t.Errorf("there are but %d and %d", refused, taken)
	}
}
