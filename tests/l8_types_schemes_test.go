package tests

import (
	"fmt"
	"math"
	"math/rand/v2"
	"slices"
	"strings"
	"testing"

	"loop.example/g00017/impl"
)

// bindsOf reads binds: an id, =, a type, with | between.
func bindsOf(text string) []impl.Bind {
	var binds []impl.Bind
	for _, part := range strings.FieldsFunc(text, func(r rune) bool { return r == '|' }) {
		var b impl.Bind
		id, rest, _ := strings.Cut(part, "=")
		fmt.Sscan(id, &b.Id)
		if b.Type = (impl.Type{}); rest != "" {
			b.Type = ty(rest)
		}
		binds = append(binds, b)
	}
	return binds
}

// predsOf reads preds: a class, @, an id, with blanks between.
func predsOf(text string) []impl.Pred {
	var preds []impl.Pred
	for _, part := range strings.Fields(text) {
		var p impl.Pred
		class, id, _ := strings.Cut(part, "@")
		fmt.Sscan(id, &p.Id)
		p.Class = class
		preds = append(preds, p)
	}
	return preds
}

func TestFreeIds(t *testing.T) {
	for text, want := range map[string][]int64{
		"#3": {3}, "@3": nil, "Int": nil, "->{#4 ->{#1 #4}}": {4, 1}, "T{#1 U{#0 #1 @7 #2} #0 #9223372036854775807}": {1, 0, 2, math.MaxInt64}, "(,){@0 #0}": {0}, "T{U{V{#2}} #1 #2 #1}": {2, 1},
	} {
		if got := impl.FreeIds(ty(text)); !slices.Equal(got, want) {
			t.Errorf("%s: %v, not %v", text, got, want)
		}
	}
	for _, one := range severalTypes() {
		if got := impl.FreeIds(one); !slices.Equal(got, freeIdsSlowly(one)) {
			t.Errorf("%.300s: %v", typeText(one), got)
		}
	}
	for _, wrong := range []impl.Type{{}, typeVar(-1), typeCon("T", typeVar(1), impl.Type{}), typeCon("T", typeVar(1), impl.Type{Kind: impl.TyVar, Id: 2, Name: "x"}), nested(impl.MaxDeep, typeVar(0))} {
		if got := impl.FreeIds(wrong); got != nil {
			t.Errorf("%.300s: %v", typeText(wrong), got)
		}
	}
}

func TestManyFreeIds(t *testing.T) {
	one := typeCon("T")
	var want []int64
	for id := int64(impl.MaxNodes - 2); id >= 0; id-- {
		one.Args = append(one.Args, typeVar(id))
		want = append(want, id)
	}
	if got := impl.FreeIds(one); !slices.Equal(got, want) {
		t.Errorf("%d ids", len(got))
	}
}

func TestApply(t *testing.T) {
	for _, row := range [][3]string{
		{"", "->{#0 @1}", "->{#0 @1}"},
		{"0=Int", "->{#0 ->{#1 #0}}", "->{Int ->{#1 Int}}"},
		{"0=Int", "#0", "Int"},
		{"0=Int", "@0", "@0"},
		{"0=Int", "Int", "Int"},
		{"7=Int", "T{#0 #1}", "T{#0 #1}"},
		{"0=Int|0=Char", "#0", "Int"},
		{"1=A|0=Int|0=Char|1=B", "T{#0 #1}", "T{Int A}"},
		{"0=#1|1=Int", "T{#0 #1}", "T{#1 Int}"},
		{"1=Int|0=#1", "T{#0 #1}", "T{#1 Int}"},
		{"0=[]{#0}", "T{#0 #0}", "T{[]{#0} []{#0}}"},
		{"0=#0", "T{#0}", "T{#0}"},
		{"0=#1|1=#0", "->{#0 #1}", "->{#1 #0}"},
		{"0=(,){#1 #2}|1=@3|2=#0", "T{#2 #0 #1}", "T{#0 (,){#1 #2} @3}"},
		{"-1=Int|0=Char", "T{#0 #1}", "T{Char #1}"},
		{"9223372036854775807=Int", "#9223372036854775807", "Int"},
		{"0=Int|5=", "#0", ""},
		{"5=", "#0", ""},
		{"5=", "Int", ""},
		{"0=Int|0=", "#0", ""},
		{"0=#-1", "#0", ""},
		{"1=T{#-1}", "#0", ""},
	} {
		want := impl.Type{}
		if row[2] != "" {
			want = ty(row[2])
		}
		one, binds := ty(row[1]), bindsOf(row[0])
		checkType(t, row[0]+" in "+row[1], impl.Apply(binds, one), want)
		checkType(t, row[0]+" in "+row[1], applySlowly(binds, one), want)
	}
}

func TestApplyToFaultyTypes(t *testing.T) {
	for _, wrong := range []impl.Type{{}, typeVar(-1), typeCon("T", typeVar(0), impl.Type{}), nested(impl.MaxDeep, typeVar(0)), wideType(impl.MaxNodes + 1)} {
		for _, binds := range [][]impl.Bind{nil, bindsOf("0=Int"), bindsOf("-1=Int"), bindsOf("9=Int")} {
			checkType(t, "faulty", impl.Apply(binds, wrong), impl.Type{})
		}
		for _, one := range []impl.Type{typeVar(0), typeVar(1), typeCon("Int")} {
			checkType(t, "faulty bind", impl.Apply([]impl.Bind{{Id: 0, Type: wrong}}, one), impl.Type{})
			checkType(t, "faulty bind", impl.Apply([]impl.Bind{{Id: 0, Type: typeVar(1)}, {Id: 0, Type: wrong}}, one), impl.Type{})
		}
	}
}

// What comes out has as many types and levels as may be, and no more.
func TestApplyGrows(t *testing.T) {
	for _, more := range []int{-1, 0, 1, 2} {
		for _, row := range []struct {
			name  string
			t     impl.Type
			binds []impl.Bind
		}{
			{"deep", nested(100, typeVar(0)), []impl.Bind{{Id: 0, Type: nested(impl.MaxDeep-101+more, typeVar(0))}}},
			{"deep at the side", typeCon("T", typeVar(1), nested(99, typeVar(0)), typeVar(1)), []impl.Bind{{Id: 1, Type: typeCon("Int")}, {Id: 0, Type: nested(impl.MaxDeep-101+more, typeVar(1))}}},
			{"deep ahead of others", typeCon("T", typeVar(0), nested(99, typeVar(0))), []impl.Bind{{Id: 0, Type: typeCon("T", nested(impl.MaxDeep-102+more, typeVar(0)), typeVar(0))}}},
			{"wide", wideType(1000, typeVar(0)), []impl.Bind{{Id: 0, Type: wideType(impl.MaxNodes - 999 + more)}}},
			{"twice", typeCon("T", typeVar(0), typeVar(0), wideType(1+more)), []impl.Bind{{Id: 0, Type: wideType(impl.MaxNodes/2 - 1)}}},
			{"two", typeCon("T", typeVar(0), typeVar(1)), []impl.Bind{{Id: 0, Type: wideType(impl.MaxNodes / 2)}, {Id: 1, Type: wideType(impl.MaxNodes/2 - 1 + more)}}},
		} {
			got := impl.Apply(row.binds, row.t)
			if (got.Kind == 0) != (more > 0) {
				t.Errorf("%s: %d more", row.name, more)
			}
			checkType(t, row.name, got, applySlowly(row.binds, row.t))
		}
	}
}

// Binds that are not asked for do not count, nor do those behind the first one of an id.
func TestApplyCountsWhatItTakes(t *testing.T) {
	large := wideType(impl.MaxNodes - 1)
	binds := []impl.Bind{{Id: 3, Type: large}, {Id: 0, Type: typeCon("Int")}, {Id: 0, Type: large}, {Id: 1, Type: large}, {Id: 1, Type: large}, {Id: 4, Type: large}}
	checkType(t, "taken", impl.Apply(binds, typeCon("[]", typeVar(1))), typeCon("[]", large))
	checkType(t, "taken", impl.Apply(binds, typeCon("T", typeVar(0), typeVar(0))), ty("T{Int Int}"))
	checkType(t, "too much", impl.Apply(binds, typeCon("T", typeVar(1), typeVar(0))), impl.Type{})
	many := typeCon("T")
	var all []impl.Bind
	for id := range int64(5000) {
		many.Args = append(many.Args, typeVar(id))
		all = append(all, impl.Bind{Id: id, Type: large})
	}
	checkType(t, "far too much", impl.Apply(all, many), impl.Type{})
	checkType(t, "far too much", impl.Apply(all[:1], doubled(10, typeVar(0))), impl.Type{})
}

func TestClose(t *testing.T) {
	for _, row := range []struct {
		text, preds string
		keep        []int64
		want        string
	}{
		{"Int", "", nil, "0 Int"},
		{"#5", "", nil, "1 @0"},
		{"->{#5 ->{#2 #5}}", "", nil, "2 ->{@0 ->{@1 @0}}"},
		{"->{#5 ->{#2 #5}}", "", []int64{2}, "1 ->{@0 ->{#2 @0}}"},
		{"->{#5 ->{#2 #5}}", "", []int64{5}, "1 ->{#5 ->{@0 #5}}"},
		{"->{#5 ->{#2 #5}}", "", []int64{5, 2, 5}, "0 ->{#5 ->{#2 #5}}"},
		{"->{#5 ->{#2 #5}}", "", []int64{7, -1}, "2 ->{@0 ->{@1 @0}}"},
		{"T{#1 U{#0 #1} #2}", "Eq@0 Eq@1 Eq@2", nil, "3 Eq@1 Eq@0 Eq@2 T{@0 U{@1 @0} @2}"},
		{"T{#1 U{#0 #1} #2}", "Eq@0 Eq@1 Eq@2", []int64{1}, "2 Eq@0 Eq@1 T{#1 U{@0 #1} @1}"},
		{"T{#1 #2}", "Eq@2 Ord@2 Eq@2 Eq@1 Ord@2", nil, "2 Eq@1 Ord@1 Eq@0 T{@0 @1}"},
		{"T{#1 #2}", "Eq@3 Ord@-1 Eq@0", nil, "2 T{@0 @1}"},
		{"T{#1 #2}", "Eq@1 Eq@2", []int64{1, 2}, "0 T{#1 #2}"},
		{"#4", "L.Eq@4 M.Eq@4 Eq@4 L.Eq@4", nil, "1 L.Eq@0 M.Eq@0 Eq@0 @0"},
		{"Int", "Eq@0 Eq@1", nil, "0 Int"},
		{"T{@3 #1 @0}", "", nil, "1 T{@3 @0 @0}"},
		{"T{@3 #1 @0}", "Eq@0 Eq@3 Eq@1", nil, "1 Eq@0 T{@3 @0 @0}"},
		{"T{@3 #1 @0}", "Eq@0 Eq@3 Eq@1", []int64{1, 3}, "0 T{@3 #1 @0}"},
	} {
		one := ty(row.text)
		if got, slow := schemeText(impl.Close(one, predsOf(row.preds), row.keep)), schemeText(closeSlowly(one, predsOf(row.preds), row.keep)); got != row.want || slow != row.want {
			t.Errorf("%s %s %v: %s, not %s (%s)", row.text, row.preds, row.keep, got, row.want, slow)
		}
	}
	for _, wrong := range []impl.Type{{}, typeVar(-1), typeCon("T", typeVar(0), impl.Type{}), nested(impl.MaxDeep, typeVar(0)), wideType(impl.MaxNodes + 1)} {
		if got := schemeText(impl.Close(wrong, predsOf("Eq@0"), []int64{1})); got != schemeText(impl.Scheme{}) {
			t.Error(got)
		}
	}
}

func TestOpen(t *testing.T) {
	const most = 1 << 40
	for _, row := range []struct {
		count int64
		text  string
		first int64
		want  string
	}{
		{0, "Int", 0, "Int"},
		{0, "#3", 7, "#3"},
		{1, "->{@0 #3}", 7, "->{#7 #3}"},
		{2, "T{@1 @0 @1}", 7, "T{#8 #7 #8}"},
		{9, "T{@1}", 0, "T{#1}"},
		{1, "T{@1}", 0, ""},
		{0, "@0", 0, ""},
		{3, "T{@2 U{@3}}", 0, ""},
		{3, "T{@2 U{@2}}", 0, "T{#2 U{#2}}"},
		{most, "T{@0 @1099511627775}", most, "T{#1099511627776 #2199023255551}"},
		{most, "@1099511627776", 0, ""},
		{most + 1, "@0", 0, ""},
		{math.MaxInt64, "@0", 0, ""},
		{math.MaxInt64, "@9223372036854775806", 5, ""},
		{1, "@0", most, "#1099511627776"},
		{1, "@0", most + 1, ""},
		{1, "@0", math.MaxInt64, ""},
		{1, "@0", -1, ""},
		{1, "@0", math.MinInt64, ""},
		{-1, "Int", 0, ""},
		{math.MinInt64, "Int", 0, ""},
		{0, "Int", -1, ""},
		{most + 1, "Int", 0, ""},
		{0, "Int", most + 1, ""},
		{2, "T{#9223372036854775807 @1}", 1, "T{#9223372036854775807 #2}"},
	} {
		want := impl.Type{}
		if row.want != "" {
			want = ty(row.want)
		}
		for _, preds := range []string{"", "Eq@0 Eq@-7 Eq@99"} {
			s := impl.Scheme{Count: row.count, Preds: predsOf(preds), Type: ty(row.text)}
			what := fmt.Sprint(schemeText(s), " at ", row.first)
			checkType(t, what, impl.Open(s, row.first), want)
			checkType(t, what, openSlowly(s, row.first), want)
		}
	}
	for _, wrong := range []impl.Type{{}, typePlace(-1), typeCon("T", typePlace(0), impl.Type{}), nested(impl.MaxDeep, typePlace(0)), wideType(impl.MaxNodes + 1)} {
		checkType(t, "faulty", impl.Open(impl.Scheme{Count: 1, Type: wrong}, 0), impl.Type{})
	}
}

func TestDrawnSchemes(t *testing.T) {
	m := typeMaker{rand.New(rand.NewPCG(8, 2))}
	for _, one := range severalTypes() {
		var preds []impl.Pred
		for range m.IntN(6) {
			preds = append(preds, impl.Pred{Class: []string{"A.C", "D", ""}[m.IntN(3)], Id: m.Int64N(7) - 1})
		}
		var keep []int64
		for range m.IntN(4) {
			keep = append(keep, m.Int64N(7)-1)
		}
		got := impl.Close(one, preds, keep)
		if want := closeSlowly(one, preds, keep); schemeText(got) != schemeText(want) {
			t.Errorf("%.300s: %.300s, not %.300s", typeText(one), schemeText(got), schemeText(want))
		}
		got.Count += m.Int64N(5) - 1
		first := m.Int64N(1000)
		checkType(t, schemeText(got), impl.Open(got, first), openSlowly(got, first))
		var binds []impl.Bind
		for range m.IntN(5) {
			binds = append(binds, impl.Bind{Id: m.Int64N(6), Type: m.sound(3, 6)})
		}
		checkType(t, bindsText(binds), impl.Apply(binds, one), applySlowly(binds, one))
	}
}

// What is closed and opened is the type, with others for the variables that were not kept: those put back, it is the type itself.
func TestClosedAndOpened(t *testing.T) {
	m := typeMaker{rand.New(rand.NewPCG(8, 3))}
	types := []impl.Type{nested(impl.MaxDeep-1, typeVar(3)), wideType(impl.MaxNodes, typeVar(1), typeVar(0), typeVar(1))}
	for range 400 {
		types = append(types, m.sound(5, 6))
	}
	for _, one := range types {
		one = impl.Apply(nil, one)
		if slices.ContainsFunc(leavesOf(one), func(l impl.Type) bool { return l.Kind == impl.TyGen }) {
			continue // its own places would be taken for those of the scheme
		}
		for _, keep := range [][]int64{nil, {0}, {1, 3}, {0, 1, 2, 3, 4, 5}} {
			for _, first := range []int64{6, 1000, 1 << 40} {
				opened := impl.Open(impl.Close(one, nil, keep), first)
				var back []impl.Bind
				for _, id := range impl.FreeIds(one) {
					if !slices.Contains(keep, id) {
						back = append(back, impl.Bind{Id: first + int64(len(back)), Type: typeVar(id)})
					}
				}
				checkType(t, "opened", impl.Apply(back, opened), one)
				if len(impl.FreeIds(opened)) != len(impl.FreeIds(one)) {
					t.Errorf("%.300s has other variables", typeText(opened))
				}
			}
		}
		s := impl.Close(one, nil, nil)
		ids := impl.FreeIds(impl.Open(s, 50))
		for i, id := range ids {
			if id != 50+int64(i) {
				t.Errorf("%.300s: %v", typeText(one), ids)
			}
		}
		if impl.FormatScheme(s) != impl.FormatType(one) || s.Count != int64(len(ids)) {
			t.Errorf("%.300s is written another way", typeText(one))
		}
	}
}
