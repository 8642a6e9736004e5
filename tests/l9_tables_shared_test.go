package tests

import (
	"slices"
	"testing"

	"loop.example/g00017/impl"
)

// placesUpTo has so many places.
func placesUpTo(count int) []impl.Type {
	list := make([]impl.Type, count)
	for i := range list {
		list[i] = typePlace(int64(i))
	}
	return list
}

// withArgs makes a constructor of a list that stays the list it is.
func withArgs(name string, args []impl.Type) impl.Type {
	return impl.Type{Kind: impl.TyCon, Name: name, Args: args}
}

func foundFields(fields ...impl.Type) []impl.Type {
	tables := impl.Tables{Cons: []impl.ConInfo{{Name: "M.B"}, {Name: "M.C", Data: "M.T", Fields: fields}}}
	return impl.FindCon(tables, "M.C").Fields
}

// listsBelow adds where a list of types and those below it lie.
func listsBelow(lists []memory, types []impl.Type) []memory {
	lists = append(lists, memoryOf(types)...)
	for _, one := range types {
		lists = listsBelow(lists, one.Args)
	}
	return lists
}

// checkApart holds what is found against what is given, which has an end.
func checkApart(t *testing.T, what string, fields ...impl.Type) {
	t.Helper()
	got := foundFields(fields...)
	if !slices.EqualFunc(got, fields, impl.SameType) {
		t.Errorf("%s: another one is found", what)
	}
	given, lists := listsBelow(nil, fields), listsBelow(nil, got)
	if !apart(lists) {
		t.Errorf("%s: two lists share memory", what)
	}
	slices.SortFunc(given, func(a, b memory) int { return int(a.from) - int(b.from) })
	given = slices.Compact(given)
	if len(given) < 100 && touches(lists, given) {
		t.Errorf("%s: a list lies in an argument", what)
	}
	spoilTypes(got)
	if again := foundFields(fields...); !slices.EqualFunc(again, fields, impl.SameType) {
		t.Errorf("%s: found another way behind a change of it", what)
	}
}

// However large types are, and however often a list stands in them, the lists that are answered are apart.
func TestSharedListsComeApart(t *testing.T) {
	for _, count := range []int{1, 2, 100, impl.MaxNodes/2 - 1, impl.MaxNodes / 2, impl.MaxNodes - 10, impl.MaxNodes - 1, impl.MaxNodes, impl.MaxNodes + 1, 30000, 100000, 700000} {
		leaves := placesUpTo(count)
		part := withArgs("M.L", leaves)
		checkApart(t, "twice in a field", typeCon("M.P", part, part))
		checkApart(t, "in two fields", part, withArgs("M.K", leaves))
		checkApart(t, "in a field and below one", part, typeCon("M.P", typePlace(1), typeCon("M.P", part)))
		checkApart(t, "in part", withArgs("M.L", leaves[:count/2]), withArgs("M.L", leaves[count/2:]), withArgs("M.L", leaves[count/3:]), part)
		checkApart(t, "often", part, part, typeCon("M.P", part, part), part, typeCon("M.P", part))
	}
}

// Levels of two that are one: a few lists, in a type of hundreds of thousands.
func TestSharedLevelsComeApart(t *testing.T) {
	doubled := typePlace(0)
	for range 17 {
		doubled = typeCon("D", doubled, doubled)
	}
	checkApart(t, "levels", doubled)
	checkApart(t, "levels twice", doubled, typeCon("E", doubled))
	chain := withArgs("L", placesUpTo(3))
	for range 50000 {
		chain = typeCon("L", chain)
	}
	checkApart(t, "a long way down", typeCon("P", chain, chain), chain)
	var many []impl.Type
	for range 30000 {
		many = append(many, withArgs("L", placesUpTo(1)))
	}
	checkApart(t, "many lists", withArgs("P", many), withArgs("P", many), withArgs("P", many[1:]))
}

// roundOf has a list that comes back to itself behind others.
func roundOf(ahead ...impl.Type) impl.Type {
	around := typeCon("R", append(slices.Clone(ahead), impl.Type{})...)
	around.Args[len(ahead)] = around
	return around
}

// What comes back to itself takes nothing from the lists beside it, and in it, that have an end.
func TestSharedListsBesideRounds(t *testing.T) {
	for _, count := range []int{1, 100, impl.MaxNodes + 1, 60000} {
		part := withArgs("M.L", placesUpTo(count))
		pair := typeCon("M.P", part, part)
		rounds := roundOf(pair, part)
		far := roundOf(typeCon("S", typeCon("S", rounds)), part)
		for name, fields := range map[string][]impl.Type{"behind": {rounds, pair}, "ahead": {pair, rounds}, "far": {far, pair, rounds}, "alone": {rounds, typePlace(0)}} {
			got := foundFields(fields...)
			if !slices.EqualFunc(got, fields, impl.SameType) {
				t.Errorf("%s: another one is found", name)
			}
			var lists []memory
			for _, field := range got {
				for field.Name == "R" && field.Args[0].Name == "S" {
					lists = append(lists, memoryOf(field.Args[1].Args)...)
					field = field.Args[0].Args[0].Args[0]
				}
				if field.Name == "R" {
					lists = slices.Concat(lists, memoryOf(field.Args[1].Args), memoryOf(field.Args[0].Args))
					field = field.Args[0]
				}
				for _, arg := range field.Args {
					lists = append(lists, memoryOf(arg.Args)...)
				}
			}
			if len(lists) < 2 || name != "far" && !apart(slices.Clone(lists)) || touches(lists, memoryOf(part.Args)) || touches(lists, memoryOf(pair.Args)) {
				t.Errorf("%s: %d: lists share memory", name, count)
			}
		}
	}
}

// A round is copied as a round: it leads to itself, and no more to the argument.
func TestRoundsStayRounds(t *testing.T) {
	one, other := roundOf(typePlace(0)), roundOf()
	both := typeCon("A", one, other, one)
	both.Args[1].Args[0] = withArgs("B", both.Args)
	got := foundFields(both, one)
	for at, steps := got[0], 0; steps < 1000; steps++ {
		if len(at.Args) != 3 || &at.Args[0] == &both.Args[0] || at.Args[0].Name != "R" || at.Args[2].Args[0].Kind != impl.TyGen {
			t.Fatalf("step %d", steps)
		}
		at = at.Args[1].Args[0]
	}
	got[0].Args[0] = typeVar(7)
	got[1].Args[0] = typeVar(7)
	if both.Args[0].Name != "R" || one.Args[0].Kind != impl.TyGen {
		t.Error("the argument is changed")
	}
}
