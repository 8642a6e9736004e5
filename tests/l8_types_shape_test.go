package tests

import (
	"math"
	"testing"

	"loop.example/g00017/impl"
)

func checkTypeFault(t *testing.T, want bool, types ...impl.Type) {
	t.Helper()
	for _, one := range types {
		if got := impl.TypeFault(one); got != want || typeFaultSlowly(one) != want {
			t.Errorf("%.300s: fault %v, not %v", typeText(one), got, want)
		}
	}
}

// inPlaces has a type at the top, as one of several arguments, and further below.
func inPlaces(t impl.Type) []impl.Type {
	return []impl.Type{t, typeCon("T", t), typeCon("T", typeVar(0), t), typeCon("T", t, typeVar(0)), typeCon("->", typeVar(0), typeCon("[]", typeCon("M.T", typeVar(2), t, typePlace(1))))}
}

func TestTypesWithoutFault(t *testing.T) {
	for _, text := range []string{"#0", "#9223372036854775807", "@0", "@9223372036854775807", "T", "->{#0 #1}", "[]{@0}", "()", "(,){#0 #0}", "M.T{#1 M.T{#2 T}}", "->", "[]{T T}", "(){T}", "a", ".", "1", "\x00", "\xff", "é"} {
		checkTypeFault(t, false, inPlaces(ty(text))...)
	}
}

func TestTypeFaults(t *testing.T) {
	one := []impl.Type{typeVar(1)}
	for _, wrong := range []impl.Type{
		{}, {Name: "T"}, {Id: 1}, {Kind: -1}, {Kind: 4}, {Kind: 4, Name: "T"}, {Kind: math.MinInt64}, {Kind: math.MaxInt64, Name: "T"}, {Args: one}, {Name: "T", Args: one},
		typeVar(-1), typeVar(math.MinInt64), typePlace(-1), typePlace(math.MinInt64),
		{Kind: impl.TyVar, Name: "a"}, {Kind: impl.TyGen, Name: "a"}, {Kind: impl.TyVar, Id: 1, Name: "\x00"}, {Kind: impl.TyGen, Id: 1, Name: "\x00"},
		{Kind: impl.TyVar, Args: one}, {Kind: impl.TyGen, Args: one}, {Kind: impl.TyVar, Id: 3, Args: one}, {Kind: impl.TyGen, Id: 3, Args: one},
		{Kind: impl.TyCon}, {Kind: impl.TyCon, Args: one}, {Kind: impl.TyCon, Id: 1, Name: "T"}, {Kind: impl.TyCon, Id: -1, Name: "T"}, {Kind: impl.TyCon, Id: math.MinInt64, Name: "T", Args: one}, {Kind: impl.TyCon, Id: math.MaxInt64, Name: "T"},
	} {
		checkTypeFault(t, true, inPlaces(wrong)...)
	}
}

func TestEmptyArgumentsAreNone(t *testing.T) {
	bare := impl.Type{Kind: impl.TyVar, Args: []impl.Type{}}
	checkTypeFault(t, false, bare, impl.Type{Kind: impl.TyGen, Args: []impl.Type{}}, impl.Type{Kind: impl.TyCon, Name: "T", Args: []impl.Type{}})
	if !impl.SameType(bare, typeVar(0)) || !impl.SameType(typeVar(0), bare) {
		t.Error("an empty list and none are not the same")
	}
}

func TestMostTypes(t *testing.T) {
	checkTypeFault(t, false, wideType(impl.MaxNodes), wideType(impl.MaxNodes-1), wideType(impl.MaxNodes-99, wideType(99)))
	checkTypeFault(t, true, wideType(impl.MaxNodes+1), typeCon("T", wideType(impl.MaxNodes)), wideType(impl.MaxNodes, wideType(3)), wideType(3*impl.MaxNodes))
	half := wideType(impl.MaxNodes / 2)
	checkTypeFault(t, false, typeCon("T", half, wideType(impl.MaxNodes/2-1)))
	checkTypeFault(t, true, typeCon("T", half, half))
}

func TestDeepestTypes(t *testing.T) {
	checkTypeFault(t, false, nested(impl.MaxDeep-1, typeVar(0)), nested(impl.MaxDeep-2, typeVar(0)))
	checkTypeFault(t, true, nested(impl.MaxDeep, typeVar(0)), nested(2*impl.MaxDeep, typeCon("T")), nested(impl.MaxDeep-1, typeVar(-1)))
	side := typeCon("T", typeVar(0), nested(impl.MaxDeep-2, typeCon("T")), typeVar(1))
	checkTypeFault(t, false, side)
	checkTypeFault(t, true, typeCon("[]", side), typeCon("T", nested(impl.MaxDeep-1, typeCon("T"))))
}

// roundType has itself as its last argument.
func roundType(name string, ahead ...impl.Type) impl.Type {
	args := append(ahead, impl.Type{})
	args[len(args)-1] = typeCon(name, args...)
	return args[len(args)-1]
}

// doubled has an argument twice at each level.
func doubled(levels int, inner impl.Type) impl.Type {
	for range levels {
		inner = typeCon("(,)", inner, inner)
	}
	return inner
}

// A type may stand in itself or in many places: all calls answer, and soon.
func TestTypesWithoutEnd(t *testing.T) {
	for _, endless := range []impl.Type{roundType("T"), roundType("T", typeVar(1)), doubled(100, typeVar(0)), nested(1000000, typeVar(0)), wideType(1000000)} {
		if !impl.TypeFault(endless) || impl.FormatType(endless) != "" || impl.FormatScheme(impl.Scheme{Preds: []impl.Pred{{Class: "C"}}, Type: endless}) != "" || impl.FreeIds(endless) != nil {
			t.Error("a type without end has no fault")
		}
		bind := []impl.Bind{{Id: 1, Type: endless}}
		zero := []impl.Type{impl.Apply(nil, endless), impl.Apply(bind, endless), impl.Apply(bind, typeVar(1)), impl.Apply(bind, typeVar(2)), impl.Open(impl.Scheme{Type: endless}, 0)}
		for _, got := range zero {
			checkType(t, "without end", got, impl.Type{})
		}
		for _, other := range []impl.Type{endless, typeVar(0), {}} {
			if impl.Unify(endless, other).Code != 3 || impl.Unify(other, endless).Code != 3 {
				t.Error("a type without end is made one")
			}
		}
		if got := schemeText(impl.Close(endless, []impl.Pred{{Class: "C"}}, nil)); got != schemeText(impl.Scheme{}) {
			t.Error(got)
		}
	}
}

func TestSameTypesWithoutEnd(t *testing.T) {
	a, b, other := roundType("T", typeVar(1)), roundType("T", typeVar(1)), roundType("T", typeVar(2))
	if !impl.SameType(a, a) || !impl.SameType(a, b) || impl.SameType(a, other) || impl.SameType(other, a) {
		t.Error("types that come back to themselves")
	}
	// Round in two steps, and round in three: the same without end; then one of them is another one.
	two := []impl.Type{typeCon("T", impl.Type{}), {}}
	two[1] = typeCon("T", two[:1]...)
	two[0].Args[0] = two[1]
	three := roundType("T")
	if !impl.SameType(two[0], three) || !impl.SameType(three, two[1]) {
		t.Error("types that come back to themselves in different ways")
	}
	two[0].Name = "U"
	if impl.SameType(two[0], three) || impl.SameType(three, two[1]) {
		t.Error("types that differ at the second step")
	}
	if !impl.SameType(doubled(100, typeVar(0)), doubled(100, typeVar(0))) || impl.SameType(doubled(100, typeVar(0)), doubled(100, typeVar(1))) {
		t.Error("types with arguments in many places")
	}
	deep := nested(1000000, typeVar(0))
	if !impl.SameType(deep, nested(1000000, typeVar(0))) || impl.SameType(deep, nested(1000000, typeVar(1))) || impl.SameType(deep, deep.Args[0]) {
		t.Error("deep types")
	}
}

// The first arguments of a list that both types have do not stand for all of them.
func TestListsThatBeginAlike(t *testing.T) {
	args := []impl.Type{typeVar(0), typeVar(1), typeVar(2)}
	short, long := typeCon("T", args[:2]...), typeCon("T", args...)
	if impl.SameType(short, long) || impl.SameType(long, short) || impl.SameType(typeCon("U", short, long), typeCon("U", long, short)) {
		t.Error("lists of other lengths are the same")
	}
	others := []impl.Type{typeVar(0), typeVar(1), typeVar(3)}
	a := typeCon("U", typeCon("T", args[:2]...), typeCon("T", args...))
	b := typeCon("U", typeCon("T", others[:2]...), typeCon("T", others...))
	if impl.SameType(a, b) || impl.SameType(b, a) {
		t.Error("the end of a longer list is not looked at")
	}
}

func TestSameTypeTellsEachField(t *testing.T) {
	base := []impl.Type{typeVar(1), typePlace(1), typeCon("T"), typeCon("T", typeVar(1)), typeCon("T", typeVar(1), typeVar(2)), {}, {Kind: 7, Id: -3, Name: "x", Args: []impl.Type{{Kind: -1}}}, {Kind: impl.TyVar, Id: 1, Name: "T", Args: []impl.Type{typeVar(1)}}}
	for _, one := range base {
		var others []impl.Type
		for _, change := range []func(*impl.Type){
			func(c *impl.Type) { c.Kind++ }, func(c *impl.Type) { c.Kind = -c.Kind - 1 }, func(c *impl.Type) { c.Id++ }, func(c *impl.Type) { c.Id -= 5 }, func(c *impl.Type) { c.Name += "x" }, func(c *impl.Type) { c.Name = "U" + c.Name },
			func(c *impl.Type) { c.Args = append(c.Args, typeVar(2)) }, func(c *impl.Type) { c.Args = append([]impl.Type{typeVar(9)}, c.Args...) }, func(c *impl.Type) { c.Args = append(c.Args, impl.Type{}) },
		} {
			other := cloneType(one)
			change(&other)
			others = append(others, other)
		}
		if len(one.Args) > 0 {
			last := cloneType(one)
			last.Args[len(last.Args)-1].Id += 8
			swapped := cloneType(one)
			swapped.Args = swapped.Args[1:]
			others = append(others, last, swapped)
		}
		mine := inPlaces(one)
		for _, other := range others {
			for i, theirs := range inPlaces(other) {
				if impl.SameType(mine[i], theirs) || impl.SameType(theirs, mine[i]) {
					t.Errorf("%s is %s", typeText(mine[i]), typeText(theirs))
				}
			}
		}
		for i, own := range inPlaces(cloneType(one)) {
			if !impl.SameType(mine[i], own) {
				t.Errorf("%s is not itself", typeText(own))
			}
		}
	}
}

func TestDrawnTypes(t *testing.T) {
	types := severalTypes()
	for i, one := range types {
		checkTypeFault(t, typeFaultSlowly(one), one)
		for _, other := range types[i:min(i+40, len(types))] {
			if got := impl.SameType(one, cloneType(other)); got != sameTypeSlowly(one, other) {
				t.Errorf("%.300s and %.300s: %v", typeText(one), typeText(other), got)
			}
		}
	}
}
