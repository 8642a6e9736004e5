package tests

import (
	"fmt"
	"math/rand/v2"
	"slices"
	"strings"
	"testing"

	"loop.example/g00017/impl"
)

// checkUnified holds what makes two types one against a text: binds, or ? and a code.
func checkUnified(t *testing.T, a, b impl.Type, want string) {
	t.Helper()
	got := impl.Unify(a, b)
	if text, slow := unifiedText(got), unifiedText(unifySlowly(a, b)); text != want || slow != want {
		t.Errorf("%.200s and %.200s: %.200s, not %.200s (%.200s)", typeText(a), typeText(b), text, want, slow)
	}
	checkOneWay(t, a, b, got)
}

// checkOneWay says whether binds are as they should be, and make both one.
func checkOneWay(t *testing.T, a, b impl.Type, r impl.UnifyResult) {
	t.Helper()
	if r.Code != 0 {
		if r.Binds != nil {
			t.Errorf("code %d with binds", r.Code)
		}
		return
	}
	one, other := impl.Apply(r.Binds, a), impl.Apply(r.Binds, b)
	if one.Kind == 0 || !sameTypeSlowly(one, other) {
		t.Errorf("%.200s and %.200s are made %.200s and %.200s", typeText(a), typeText(b), typeText(one), typeText(other))
	}
	used := append(freeIdsSlowly(a), freeIdsSlowly(b)...)
	for i, bind := range r.Binds {
		if i > 0 && r.Binds[i-1].Id >= bind.Id || !slices.Contains(used, bind.Id) {
			t.Errorf("binds %.200s", bindsText(r.Binds))
		}
		if bind.Type.Kind == impl.TyVar && bind.Type.Id >= bind.Id {
			t.Errorf("%d is bound to a greater one", bind.Id)
		}
		for _, id := range freeIdsSlowly(bind.Type) {
			if slices.ContainsFunc(r.Binds, func(b impl.Bind) bool { return b.Id == id }) || !slices.Contains(used, id) {
				t.Errorf("%d stands in the type of %d: %.200s", id, bind.Id, bindsText(r.Binds))
			}
		}
	}
}

// checkUnifiedRows reads rows of two types with = between.
func checkUnifiedRows(t *testing.T, rows map[string]string) {
	t.Helper()
	for text, want := range rows {
		a, b, _ := strings.Cut(text, " = ")
		checkUnified(t, ty(a), ty(b), want)
		if !strings.Contains(want, "?") {
			checkUnified(t, ty(b), ty(a), want) // the most general way does not hang on the side
		}
	}
}

func TestTypesThatAreOne(t *testing.T) {
	checkUnifiedRows(t, map[string]string{
		"#0 = #0": "", "@0 = @0": "", "@9223372036854775807 = @9223372036854775807": "", "Int = Int": "", "A.T{#1 @2} = A.T{#1 @2}": "", "->{#0 ->{#1 #0}} = ->{#0 ->{#1 #0}}": "", "() = ()": "",
	})
}

func TestVariablesMadeOne(t *testing.T) {
	checkUnifiedRows(t, map[string]string{
		"#2 = #9":                                                 "9=#2",
		"#9 = #2":                                                 "9=#2",
		"#0 = #9223372036854775807":                               "9223372036854775807=#0",
		"#2 = Int":                                                "2=Int",
		"Int = #2":                                                "2=Int",
		"#2 = ->{#3 #1}":                                          "2=->{#3 #1}",
		"[]{@0} = #2":                                             "2=[]{@0}",
		"T{#1 #2 #3} = T{#2 #3 #4}":                               "2=#1 3=#1 4=#1",
		"T{#4 #3 #2} = T{#3 #2 #1}":                               "2=#1 3=#1 4=#1",
		"T{#3 #3} = T{#2 #1}":                                     "2=#1 3=#1",
		"T{#1 #4 #2} = T{#3 #5 #5}":                               "3=#1 4=#2 5=#2",
		"T{#1 #4 #2 #3} = T{#3 #5 #5 #4}":                         "2=#1 3=#1 4=#1 5=#1",
		"T{#1 #2 #3 #1} = T{#2 #3 #4 Int}":                        "1=Int 2=Int 3=Int 4=Int",
		"T{#1 #2 #3 #4} = T{#2 #3 #4 Int}":                        "1=Int 2=Int 3=Int 4=Int",
		"T{Int #1 #2} = T{#1 #2 #3}":                              "1=Int 2=Int 3=Int",
		"T{#1 #1} = T{[]{#2} []{Int}}":                            "1=[]{Int} 2=Int",
		"T{#1 #2 #3} = T{[]{#2} []{#3} Int}":                      "1=[]{[]{Int}} 2=[]{Int} 3=Int",
		"T{#3 #2 #1} = T{Int []{#3} []{#2}}":                      "1=[]{[]{Int}} 2=[]{Int} 3=Int",
		"T{#1 #2} = T{(,){#2 #3} (,){#4 #5}}":                     "1=(,){(,){#4 #5} #3} 2=(,){#4 #5}",
		"T{#1 #1} = T{(,){#2 #3} (,){#4 #5}}":                     "1=(,){#2 #3} 4=#2 5=#3",
		"T{#1 #1} = T{(,){#4 #5} (,){#2 #3}}":                     "1=(,){#2 #3} 4=#2 5=#3",
		"T{#1 #2 #1} = T{(,){#4 #4} (,){#3 Int} #2}":              "1=(,){Int Int} 2=(,){Int Int} 3=Int 4=Int",
		"->{#1 []{#2}} = ->{(,){#3 #2} #4}":                       "1=(,){#3 #2} 4=[]{#2}",
		"->{->{#0 #1} ->{[]{#0} []{#1}}} = ->{#2 ->{#3 []{Int}}}": "1=Int 2=->{#0 Int} 3=[]{#0}",
	})
}

func TestTypesThatDiffer(t *testing.T) {
	checkUnifiedRows(t, map[string]string{
		"Int = Char": "?1", "A.T = B.T": "?1", "A.T = T": "?1", "T{#0} = U{#0}": "?1", "T{#0} = T": "?1", "T = T{#0}": "?1", "T{#0} = T{#0 #1}": "?1", "->{#0 #1} = []{#0}": "?1", "(,){#0 #1} = (,,){#0 #1 #2}": "?1", "() = (){#0}": "?1",
		"@0 = @1": "?1", "@1 = @0": "?1", "@0 = #0": "?1", "#0 = @0": "?1", "@0 = Int": "?1", "Int = @0": "?1", "[]{#3} = @0": "?1", "[]{@0} = []{#0}": "?1", "[]{#0} = []{@0}": "?1", "T{@0 @1} = T{@1 @0}": "?1",
		"T{#0 #0} = T{[]{@0} []{@1}}": "?1", "T{#0 #0} = T{[]{@0} []{#1}}": "?1", "T{#0 #0} = T{[]{@0} []{@0}}": "0=[]{@0}", "T{#0 #1} = T{#1 @0}": "?1",
		"->{#1 #1} = ->{Int Char}": "?1", "T{#1 #2 #1} = T{Int Char #2}": "?1", "T{#1 #2 #1 #2} = T{U{#3} U{#4} #2 U{U{#3}}}": "?2",
		"U{Int V{#1}} = U{Int V{W{#1} #1}}": "?1", "U{T{Int} #1} = U{T{Char} #1}": "?1",
	})
}

func TestVariablesInThemselves(t *testing.T) {
	checkUnifiedRows(t, map[string]string{
		"#1 = []{#1}": "?2", "[]{#1} = #1": "?2", "#1 = T{Int U{#2 #1}}": "?2", "[]{#1} = []{[]{#1}}": "?2", "T{#1 #2} = T{#2 []{#1}}": "?2", "T{#2 #1} = T{#1 []{#2}}": "?2",
		"T{#1 #2} = T{[]{#2} []{#1}}": "?2", "T{#1 #2 #3} = T{[]{#2} []{#3} []{#1}}": "?2", "T{#3 #2 #1} = T{[]{#2} []{#1} []{#3}}": "?2",
		"->{#1 #2} = ->{#2 []{#1}}": "?2", "T{#1 #1} = T{(,){#2 Int} (,){[]{#2} Int}}": "?2", "T{#1 #2 #1} = T{[]{#3} []{[]{#3}} #2}": "?2", "T{#1 #2 #3 #4} = T{#2 #3 #4 T{#1}}": "?2",
		"T{#1 #2} = T{(,){#2 #2} (,){#3 #3}}": "1=(,){(,){#3 #3} (,){#3 #3}} 2=(,){#3 #3}",
	})
}

// The first fault on the way from left to right is told, and what is faulty ahead of all.
func TestFirstCode(t *testing.T) {
	wrong := impl.Type{Kind: impl.TyCon}
	deep := nested(150, typeCon("Int"))
	parts := map[string][2]impl.Type{
		"?1": {typeCon("Int"), typeCon("Char")},
		"?2": {typeVar(1), typeCon("[]", typeVar(1))},
		"?4": {nested(150, typeVar(0)), typeVar(2)},
	}
	for first, x := range parts {
		for second, y := range parts {
			for _, names := range [][2]string{{"T", "T"}, {"T", "U"}} {
				a := typeCon("T", typeVar(0), typeCon("V", x[0]), typeVar(9), typeCon(names[0], y[0]))
				b := typeCon("T", deep, typeCon("V", x[1]), typeCon("Int"), typeCon(names[1], y[1]))
				checkUnified(t, a, b, first)
				if first != "?4" && second != "?4" {
					checkUnified(t, b, a, first)
				}
			}
			a, b := typeCon("T", x[0], y[0]), typeCon("T", x[1], y[1])
			checkUnified(t, typeCon("T", a, wrong), typeCon("T", b, typeCon("Int")), "?3")
			checkUnified(t, typeCon("T", a, typeCon("Int")), typeCon("T", b, wrong), "?3")
			checkUnified(t, typeCon("T", wrong, a), typeCon("U", wrong, b), "?3")
		}
	}
	for _, other := range []impl.Type{typeVar(0), typeCon("Int"), wrong, {}, nested(impl.MaxDeep, typeVar(0)), wideType(impl.MaxNodes + 1)} {
		checkUnified(t, wrong, other, "?3")
		checkUnified(t, other, wrong, "?3")
		checkUnified(t, other, typeVar(-1), "?3")
	}
}

// At one pair of types, what is too large is looked for ahead of all else.
func TestTooLargeAheadOfTheOthers(t *testing.T) {
	deep := nested(150, typeVar(1))
	for _, other := range []impl.Type{typeCon("Int"), typeVar(2), typeVar(1), typePlace(0), typeCon("[]", typeCon("Int"), typeCon("Int")), nested(50, typeCon("Int"))} {
		a, b := typeCon("T", typeVar(0), nested(150, typeVar(0))), typeCon("T", deep, other)
		checkUnified(t, a, b, "?4")
		checkUnified(t, b, a, "?4")
	}
	// The whole pair ahead of what is in it, be it another constructor.
	a := typeCon("T", typeVar(0), typeCon("U", typeCon("Int"), nested(150, typeVar(0))))
	checkUnified(t, a, typeCon("T", deep, typeCon("U", typeCon("Char"), typeVar(2))), "?4")
	checkUnified(t, a, typeCon("T", deep, typeCon("V", typeCon("Char"))), "?4")
	// Beside it, it comes behind what stands ahead of it.
	checkUnified(t, typeCon("T", typeVar(0), typeCon("Int"), nested(150, typeVar(0))), typeCon("T", deep, typeCon("Char"), typeVar(2)), "?1")
}

// A type that the way has left behind may grow: that is told if nothing else is.
func TestTypesGrowBehindTheWay(t *testing.T) {
	a, b := typeCon("T", typeVar(0), typeVar(1)), typeCon("T", nested(150, typeVar(1)), nested(150, typeVar(2)))
	checkUnified(t, a, b, "?4")
	a.Args, b.Args = append(a.Args, typeCon("Int")), append(b.Args, typeCon("Char"))
	checkUnified(t, a, b, "?1")
	a.Args[2], b.Args[2] = typeVar(3), typeCon("[]", typeVar(3))
	checkUnified(t, a, b, "?2")
	a.Args[2], b.Args[2] = typeVar(3), typeVar(0)
	checkUnified(t, a, b, "?4")
	a.Args, b.Args = append(a.Args, typeCon("Int")), append(b.Args, typeCon("Char"))
	checkUnified(t, a, b, "?4")
	// Each bind is small enough, both types as a whole are not.
	large := wideType(impl.MaxNodes / 2)
	checkUnified(t, typeCon("T", typeVar(0), typeVar(0)), typeCon("T", large, typeVar(1)), "?4")
	checkUnified(t, typeCon("T", typeVar(0), typeVar(0), typeVar(2)), typeCon("T", large, typeVar(1), typePlace(0)), "?1")
}

// doubling asks for a type that has twice the one ahead of it at each argument.
func doubling(count int, backwards bool) (a, b impl.Type) {
	a, b = typeCon("T"), typeCon("T")
	for i := range int64(count) {
		a.Args = append(a.Args, typeVar(i+1))
		b.Args = append(b.Args, typeCon("(,)", typeVar(i), typeVar(i)))
	}
	if backwards {
		slices.Reverse(a.Args)
		slices.Reverse(b.Args)
	}
	return a, b
}

func TestDoubling(t *testing.T) {
	for _, backwards := range []bool{false, true} {
		for _, count := range []int{1, 2, 5, 12, 13, 14, 15, 40, 64, 100, 1000, 6000} {
			a, b := doubling(count, backwards)
			got := impl.Unify(a, b)
			if count <= 12 && (got.Code != 0 || len(got.Binds) != count) || count > 12 && got.Code != 4 {
				t.Errorf("%d: code %d", count, got.Code)
			}
			checkOneWay(t, a, b, got)
			if other := impl.Unify(b, a); other.Code != got.Code || bindsText(other.Binds) != bindsText(got.Binds) {
				t.Errorf("%d: the other way round", count)
			}
			if count < 100 {
				if slow := unifySlowly(a, b); unifiedText(slow) != unifiedText(got) {
					t.Errorf("%d: code %d, not %d", count, got.Code, slow.Code)
				}
			}
			// Forwards it is seen at the fourteenth argument, backwards at none of them.
			want := int64(1)
			if count >= 14 && !backwards {
				want = 4
			}
			if code := impl.Unify(typeCon("U", a, typeCon("Int")), typeCon("U", b, typeCon("Char"))).Code; code != want {
				t.Errorf("%d: code %d, not %d", count, code, want)
			}
		}
	}
}

// Types that are as large or as deep as may be, and by one more.
func TestUnifyAtTheBounds(t *testing.T) {
	for _, more := range []int{-1, 0, 1} {
		deep, wide := nested(99+more, typeVar(1)), wideType(impl.MaxNodes/2-2+more, typeVar(1))
		wantDeep := "0=" + typeText(deep) + " 2=" + typeText(nested(99, deep))
		wantWide := "0=" + typeText(wide) + " 2=" + typeText(typeCon("U", typeCon("Int"), wide))
		if more == 1 {
			wantDeep, wantWide = "?4", "?4"
		}
		// Both as a whole have one level and one type more than what stands in them.
		checkUnified(t, typeCon("T", typeVar(0), typeVar(2)), typeCon("T", deep, nested(99, typeVar(0))), wantDeep)
		checkUnified(t, typeCon("T", typeVar(0), typeVar(2), typeCon("()")), typeCon("T", wide, typeCon("U", typeCon("Int"), typeVar(0)), typeCon("()")), wantWide)
	}
	whole := wideType(impl.MaxNodes)
	checkUnified(t, typeVar(3), whole, "3="+typeText(whole))
	checkUnified(t, whole, whole, "")
	long := nested(impl.MaxDeep-1, typeVar(0))
	checkUnified(t, long, typeVar(3), "3="+typeText(long))
	checkUnified(t, long, nested(impl.MaxDeep-1, typeCon("Int")), "0=Int")
	checkUnified(t, long, nested(impl.MaxDeep-2, typeVar(1)), "1=[]{#0}")
	checkUnified(t, long, nested(impl.MaxDeep-2, typeVar(0)), "?2")
}

func TestDrawnTypesMadeOne(t *testing.T) {
	m := typeMaker{rand.New(rand.NewPCG(8, 4))}
	codes := map[int64]int{}
	for range 30000 {
		levels, ids := 2+m.IntN(4), 1+m.Int64N(6)
		a, b := m.sound(levels, ids), m.sound(levels, ids)
		if m.IntN(50) == 0 {
			b = m.any(levels)
		}
		got := impl.Unify(a, b)
		codes[got.Code]++
		checkUnified(t, a, b, unifiedText(unifySlowly(a, b)))
		// Whether there is a way does not hang on which one stands first.
		if other := impl.Unify(b, a); other.Code != got.Code || bindsText(other.Binds) != bindsText(got.Binds) {
			t.Errorf("%s and %s: %s the other way round", typeText(a), typeText(b), unifiedText(other))
		}
	}
	if codes[0] < 3000 || codes[1] < 3000 || codes[2] < 500 || codes[3] < 50 {
		t.Errorf("codes %v", codes)
	}
}

// Types with large ones in them grow too large in many ways.
func TestDrawnTypesGrow(t *testing.T) {
	m := typeMaker{rand.New(rand.NewPCG(8, 5))}
	codes := map[int64]int{}
	for range 1000 {
		a, b := typeCon("T"), typeCon("T")
		for range 2 + m.IntN(5) {
			sides := []impl.Type{m.sound(2, 7), {}, typeVar(m.Int64N(7))}
			switch m.IntN(3) {
			case 0:
				sides[0] = nested(60+m.IntN(80), sides[0])
			case 1:
				sides[0] = doubled(4+m.IntN(4), sides[0])
			}
			at := m.IntN(2)
			a.Args, b.Args = append(a.Args, sides[at*2]), append(b.Args, sides[2-at*2])
		}
		got := impl.Unify(a, b)
		codes[got.Code]++
		checkUnified(t, a, b, unifiedText(unifySlowly(a, b)))
	}
	if codes[0] < 20 || codes[1] < 20 || codes[2] < 20 || codes[4] < 20 {
		t.Errorf("codes %v", codes)
	}
}

// sharedParts draws a type with some of its parts replaced by variables that stand for them.
func (m typeMaker) sharedParts(t impl.Type, way []impl.Bind) impl.Type {
	for _, b := range way {
		if m.IntN(2) == 0 && sameTypeSlowly(b.Type, t) {
			return typeVar(b.Id)
		}
	}
	args := make([]impl.Type, len(t.Args))
	for i, arg := range t.Args {
		args[i] = m.sharedParts(arg, way)
	}
	t.Args = args
	return t
}

func (m typeMaker) partOf(t impl.Type) impl.Type {
	for len(t.Args) > 0 && m.IntN(4) > 0 {
		t = t.Args[m.IntN(len(t.Args))]
	}
	return t
}

// Every way to make two types one goes through the most general one: it makes one what that has made one already.
func TestEveryWayGoesThroughTheMostGeneral(t *testing.T) {
	m := typeMaker{rand.New(rand.NewPCG(8, 6))}
	bound := 0
	for range 4000 {
		whole := m.sound(5, 3)
		var way []impl.Bind
		for id := range int64(6) {
			part := m.partOf(whole)
			if part.Kind != impl.TyGen {
				way = append(way, impl.Bind{Id: 10 + id, Type: part})
			}
		}
		a, b := m.sharedParts(whole, way), m.sharedParts(whole, way)
		got := impl.Unify(a, b)
		if got.Code != 0 {
			t.Errorf("%s and %s: code %d, though there is a way: %s", typeText(a), typeText(b), got.Code, bindsText(way))
			continue
		}
		bound += len(got.Binds)
		for id := range int64(16) {
			through, straight := impl.Apply(way, impl.Apply(got.Binds, typeVar(id))), impl.Apply(way, typeVar(id))
			checkType(t, fmt.Sprint(typeText(a), " and ", typeText(b), " at ", id), through, straight)
		}
	}
	if bound < 2000 {
		t.Errorf("%d binds", bound)
	}
}

// Where no way is told, none of the small ones is one.
func TestNoWayIsNone(t *testing.T) {
	m := typeMaker{rand.New(rand.NewPCG(8, 7))}
	small := []impl.Type{ty("Int"), ty("Char"), ty("[]{Int}"), ty("[]{Char}"), ty("(,){Int Int}"), ty("(,){Int Char}"), ty("[]{[]{Int}}"), ty("(,){[]{Int} Int}")}
	var draw func(levels int) impl.Type
	draw = func(levels int) impl.Type {
		switch at := m.IntN(5); {
		case at < 2 || levels == 1:
			return typeVar(m.Int64N(3))
		case at == 2:
			return small[m.IntN(2)]
		case at == 3:
			return typeCon("[]", draw(levels-1))
		}
		return typeCon("(,)", draw(levels-1), draw(levels-1))
	}
	found := 0
	for range 600 {
		a, b := draw(3), draw(3)
		code := impl.Unify(a, b).Code
		ways := 0
		for _, x := range small {
			for _, y := range small {
				for _, z := range small {
					way := []impl.Bind{{Id: 0, Type: x}, {Id: 1, Type: y}, {Id: 2, Type: z}}
					if sameTypeSlowly(applySlowly(way, a), applySlowly(way, b)) {
						ways++
					}
				}
			}
		}
		if ways > 0 && code != 0 {
			t.Errorf("%s and %s: code %d, and %d ways", typeText(a), typeText(b), code, ways)
		}
		found += min(ways, 1)
	}
	if found < 100 {
		t.Errorf("%d have a way", found)
	}
}
