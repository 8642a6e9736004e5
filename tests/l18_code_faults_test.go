package tests

import (
	"math"
	"slices"
	"testing"

	"loop.example/g00017/impl"
)

// checkFormFault asks for the fault of lists, and for a text of those without one alone.
func checkFormFault(t *testing.T, want int64, lists ...[]impl.Form) {
	t.Helper()
	for i, list := range lists {
		if got := impl.FormFault(list); got != want {
			t.Errorf("list %d: the fault %d, not %d: %.300s", i, got, want, formsText(list))
		}
		if got := impl.FormatForms(list); (got != "") != (want == 0) {
			t.Errorf("list %d with the fault %d is written %.300s", i, want, got)
		}
	}
}

// plainForm has a form without anything brought along.
func plainForm(slots int64, body impl.Code) impl.Form { return impl.Form{Slots: slots, Body: body} }

// formsAround has a list of three forms, of which the first one has three slots and a code; the second one brings two along and has a parameter.
func formsAround(body impl.Code) []impl.Form {
	return append([]impl.Form{plainForm(3, body)}, readForms("0 0 0 0 0\n1 2 1 4 (app s0 s3 s2)\n2 0 0 0 1\n")[1:]...)
}

func TestFormNumbers(t *testing.T) {
	one := readCode("1")
	behind := func(f impl.Form) []impl.Form { return []impl.Form{plainForm(0, one), f} }
	most := int64(impl.MaxCore)
	checkFormFault(t, 0,
		[]impl.Form{plainForm(0, one)},
		[]impl.Form{plainForm(most, one)},
		slices.Repeat([]impl.Form{plainForm(0, one)}, impl.MaxCore),
		behind(impl.Form{Free: 1, Slots: 1, Body: one}),
		behind(impl.Form{Params: 1, Slots: 1, Body: one}),
		behind(impl.Form{Free: 2, Params: 3, Slots: 5, Body: one}),
		behind(impl.Form{Free: 2, Params: 3, Slots: 6, Body: one}),
		behind(impl.Form{Free: most, Slots: most, Body: one}),
		behind(impl.Form{Params: most, Slots: most, Body: one}),
		behind(impl.Form{Free: most / 2, Params: most / 2, Slots: most, Body: one}),
	)
	checkFormFault(t, 1,
		nil,
		[]impl.Form{},
		slices.Repeat([]impl.Form{plainForm(0, one)}, impl.MaxCore+1),
		slices.Repeat([]impl.Form{plainForm(0, one)}, 300000),
		[]impl.Form{{Free: 1, Slots: 1, Body: one}},
		[]impl.Form{{Params: 1, Slots: 1, Body: one}},
		[]impl.Form{{Free: 1, Params: 1, Slots: 5, Body: one}, plainForm(0, one)},
		[]impl.Form{plainForm(-1, one)},
		[]impl.Form{plainForm(most+1, one)},
		behind(plainForm(-1, one)),
		behind(plainForm(most+1, one)),
		behind(plainForm(math.MinInt64, one)),
		behind(plainForm(math.MaxInt64, one)),
		behind(impl.Form{Free: -1, Body: one}),
		behind(impl.Form{Free: -1, Params: 1, Body: one}),
		behind(impl.Form{Params: -1, Body: one}),
		behind(impl.Form{Free: 1, Params: -1, Body: one}),
		behind(impl.Form{Free: most + 1, Slots: most + 1, Body: one}),
		behind(impl.Form{Params: most + 1, Slots: most + 1, Body: one}),
		behind(impl.Form{Free: most + 1, Slots: most, Body: one}),
		behind(impl.Form{Free: 1, Body: one}),
		behind(impl.Form{Params: 1, Body: one}),
		behind(impl.Form{Free: 2, Params: 3, Slots: 4, Body: one}),
		behind(impl.Form{Free: most / 2, Params: most/2 + 1, Slots: most, Body: one}),
		behind(impl.Form{Free: math.MaxInt64, Params: math.MaxInt64, Slots: 1, Body: one}),
		behind(impl.Form{Free: math.MinInt64, Params: math.MinInt64, Body: one}),
		append(slices.Repeat([]impl.Form{plainForm(0, one)}, 500), plainForm(-1, one)),
	)
}

// soundCodes has codes of each kind that may stand in the first of formsAround.
func soundCodes() map[int64][]impl.Code {
	codes := map[int64][]impl.Code{}
	for _, text := range []string{"s0", "s2", "0", "-7", "12345678901234567890", "'c'", `"text"`, "(con C)", "(con C s2)", "(con : s0 s1 s2 s0)", "(app s2 s0)", "(app s0 s2 s2 s1)", "(let s0 1 2)", "(let s2 (con C s0) s2)", "(let s0 (make 1 s1 s2) (make 2) 'c' s0)", "(let s1 (make 0) (con C s2) s2)", "(case s0 - _ s1)", "(case s0 s2 _ s1)", "(case s0 s0 { A s0 3 s1 })", "(case s0 - { A s3 0 s1 } { B s2 1 s2 } { C s0 2 1 } _ 2)", "(prim primAdd s0 s2)", "(prim primShow s1)", "(prim primSeq s1 s1)"} {
		c := readCode(text)
		codes[c.Kind] = append(codes[c.Kind], c)
	}
	return codes
}

func TestSoundCodes(t *testing.T) {
	codes := soundCodes()
	for kind := int64(impl.KSlot); kind <= impl.KText; kind++ {
		if len(codes[kind]) == 0 && kind != impl.KMake {
			t.Errorf("no code of kind %d", kind)
		}
		for _, c := range codes[kind] {
			checkFormFault(t, 0, formsAround(c))
			checkFormsTold(t, formsAround(c))
		}
	}
}

// Codes of no kind, wherever they stand.
func TestCodesOfNoKind(t *testing.T) {
	for _, kind := range []int64{0, 11, -1, 12, 100, math.MinInt64, math.MaxInt64} {
		for _, c := range []impl.Code{{Kind: kind}, {Kind: kind, Name: "C"}, {Kind: kind, A: 1, Refs: []int64{0}}, {Kind: kind, Kids: []impl.Code{readCode("1"), readCode("1")}}} {
			checkFormFault(t, 2, formsAround(c), formsAround(impl.Code{Kind: impl.KLet, Kids: []impl.Code{c, readCode("1")}}), formsAround(impl.Code{Kind: impl.KLet, Kids: []impl.Code{readCode("1"), c}}), formsAround(impl.Code{Kind: impl.KCase, Kids: []impl.Code{c, readCode("1")}}))
		}
	}
}

// What is wrong right below a code of each kind, or in any form, is told.
func TestWrongCodesAnywhere(t *testing.T) {
	wrong := readCode("s3")
	one := readCode("1")
	lets := impl.Code{Kind: impl.KLet, Kids: []impl.Code{one, wrong}}
	for _, c := range []impl.Code{
		wrong,
		lets,
		{Kind: impl.KLet, Kids: []impl.Code{readCode("(con C s3)"), one}},
		{Kind: impl.KLet, Kids: []impl.Code{one, one, readCode("(con C s3)"), one}},
		{Kind: impl.KCase, A: -1, Kids: []impl.Code{wrong, one}},
		{Kind: impl.KCase, A: -1, Kids: []impl.Code{one, wrong}},
		{Kind: impl.KCase, A: -1, Kids: []impl.Code{one}, Alts: []impl.CodeAlt{{Con: "A", Body: wrong}}},
		{Kind: impl.KCase, A: -1, Kids: []impl.Code{one, one}, Alts: []impl.CodeAlt{{Con: "A", Body: one}, {Con: "B", Body: lets}}},
	} {
		checkFormFault(t, 2, formsAround(c), []impl.Form{plainForm(3, one), plainForm(3, one), plainForm(3, c)})
		checkFormFault(t, 0, []impl.Form{plainForm(4, c)})
	}
	// A slot is one of the form's own.
	checkFormFault(t, 0, readForms("0 0 0 1 s0\n1 0 0 2 s1\n"))
	checkFormFault(t, 2, readForms("0 0 0 1 s1\n1 0 0 2 s1\n"), readForms("0 0 0 2 s1\n1 0 0 1 s1\n"), readForms("0 0 0 0 s0\n"))
}

func TestWrongNumbersOfKidsAndRefs(t *testing.T) {
	one := readCode("1")
	ones := func(count int) []impl.Code { return slices.Repeat([]impl.Code{one}, count) }
	alts := []impl.CodeAlt{{Con: "A", Body: one}}
	for _, c := range []impl.Code{
		{Kind: impl.KApp},
		{Kind: impl.KApp, A: 2},
		{Kind: impl.KLet},
		{Kind: impl.KLet, Kids: ones(1)},
		{Kind: impl.KLet, Kids: ones(5)}, // slots 0 to 3
		{Kind: impl.KCase, A: -1},
		{Kind: impl.KCase, A: -1, Kids: ones(1)},
		{Kind: impl.KCase, A: -1, Kids: ones(3)},
		{Kind: impl.KCase, A: -1, Kids: ones(3), Alts: alts},
		{Kind: impl.KCase, A: -1, Alts: alts},
		{Kind: impl.KPrim, Name: "primAdd"},
		{Kind: impl.KPrim, Name: "primAdd", Refs: []int64{0}},
		{Kind: impl.KPrim, Name: "primAdd", Refs: []int64{0, 1, 2}},
		{Kind: impl.KPrim, Name: "primSeq", Refs: []int64{0}},
		{Kind: impl.KPrim, Name: "primShow"},
		{Kind: impl.KPrim, Name: "primShow", Refs: []int64{0, 1}},
	} {
		checkFormFault(t, 2, formsAround(c))
	}
	checkFormFault(t, 0, formsAround(impl.Code{Kind: impl.KLet, Kids: ones(2)}), formsAround(impl.Code{Kind: impl.KLet, Kids: ones(4)}), formsAround(impl.Code{Kind: impl.KCase, A: -1, Kids: ones(2)}), formsAround(impl.Code{Kind: impl.KCase, A: -1, Kids: ones(2), Alts: alts}), formsAround(impl.Code{Kind: impl.KCase, A: -1, Kids: ones(1), Alts: alts}), formsAround(impl.Code{Kind: impl.KCon, Name: "C", Refs: slices.Repeat([]int64{2}, 1000)}), formsAround(impl.Code{Kind: impl.KApp, Refs: slices.Repeat([]int64{2}, 1000)}))
}

func TestSlotsThatAreNone(t *testing.T) {
	one := readCode("1")
	for _, slot := range []int64{-1, -2, 3, 4, impl.MaxCore, math.MinInt64, math.MaxInt64} {
		for _, c := range []impl.Code{
			{Kind: impl.KSlot, A: slot},
			{Kind: impl.KCon, Name: "C", Refs: []int64{slot}},
			{Kind: impl.KCon, Name: "C", Refs: []int64{0, 1, slot, 2}},
			{Kind: impl.KApp, A: slot, Refs: []int64{0}},
			{Kind: impl.KApp, A: 0, Refs: []int64{slot}},
			{Kind: impl.KApp, A: 0, Refs: []int64{1, slot}},
			{Kind: impl.KPrim, Name: "primShow", Refs: []int64{slot}},
			{Kind: impl.KPrim, Name: "primAdd", Refs: []int64{0, slot}},
			{Kind: impl.KLet, A: slot, Kids: []impl.Code{one, one}},
			{Kind: impl.KLet, A: 0, Kids: []impl.Code{{Kind: impl.KMake, A: 1, Refs: []int64{0, slot}}, one}},
			{Kind: impl.KCase, A: slot, Kids: []impl.Code{one, one}},
			{Kind: impl.KCase, A: -1, Kids: []impl.Code{one}, Alts: []impl.CodeAlt{{Con: "A", First: slot, Count: 1, Body: one}}},
			{Kind: impl.KCase, A: -1, Kids: []impl.Code{one}, Alts: []impl.CodeAlt{{Con: "A", Body: one}, {Con: "B", First: slot, Count: 2, Body: one}}},
		} {
			if c.Kind == impl.KCase && c.A == -1 && len(c.Alts) == 0 {
				continue // no slot, as is told by -1
			}
			checkFormFault(t, 2, formsAround(c))
		}
	}
	for _, alt := range []impl.CodeAlt{{First: 0, Count: 4}, {First: 1, Count: 3}, {First: 2, Count: 2}, {First: 3, Count: 1}, {First: 4, Count: 0}, {First: -1, Count: 0}, {First: -1, Count: 2}, {First: 0, Count: -1}, {First: 3, Count: -1}, {First: 1, Count: math.MaxInt64}, {First: math.MaxInt64, Count: math.MaxInt64}, {First: math.MinInt64, Count: math.MinInt64}, {First: 3, Count: math.MinInt64}} {
		alt.Con, alt.Body = "A", one
		checkFormFault(t, 2, formsAround(impl.Code{Kind: impl.KCase, A: -1, Kids: []impl.Code{one}, Alts: []impl.CodeAlt{alt}}))
	}
	for _, alt := range []impl.CodeAlt{{First: 0, Count: 3}, {First: 1, Count: 2}, {First: 2, Count: 1}, {First: 3, Count: 0}, {First: 0, Count: 0}} {
		alt.Con, alt.Body = "A", one
		checkFormFault(t, 0, formsAround(impl.Code{Kind: impl.KCase, A: -1, Kids: []impl.Code{one}, Alts: []impl.CodeAlt{alt}}))
	}
	checkFormFault(t, 2, formsAround(readCode("(let s1 1 2 3 4)")), formsAround(readCode("(let s2 1 2 3)")))
	checkFormFault(t, 0, formsAround(readCode("(let s0 1 2 3 4)")), formsAround(readCode("(let s2 1 2)")))
}

func TestWrongMakes(t *testing.T) {
	one := readCode("1")
	let := func(kids ...impl.Code) []impl.Form {
		return formsAround(impl.Code{Kind: impl.KLet, Kids: append(kids, one)})
	}
	for _, form := range []int64{-1, 3, 4, impl.MaxCore, math.MinInt64, math.MaxInt64} {
		checkFormFault(t, 2, let(impl.Code{Kind: impl.KMake, A: form}), let(impl.Code{Kind: impl.KMake, A: form, Refs: []int64{0, 1}}))
	}
	for form, free := range []int{0, 2, 0} {
		for count := range 5 {
			want := int64(2)
			if count == free {
				want = 0
			}
			checkFormFault(t, want, let(impl.Code{Kind: impl.KMake, A: int64(form), Refs: slices.Repeat([]int64{1}, count)}))
		}
	}
	// It stands where a KLet makes something, and nowhere else; other things are not made there.
	makes := readCode("(let s0 (make 2) 1)").Kids[0]
	checkFormFault(t, 2, formsAround(makes), formsAround(impl.Code{Kind: impl.KLet, Kids: []impl.Code{one, makes}}), formsAround(impl.Code{Kind: impl.KCase, A: -1, Kids: []impl.Code{makes, one}}), formsAround(impl.Code{Kind: impl.KCase, A: -1, Kids: []impl.Code{one, makes}}), formsAround(impl.Code{Kind: impl.KCase, A: -1, Kids: []impl.Code{one}, Alts: []impl.CodeAlt{{Con: "A", Body: makes}}}))
	for kind, codes := range soundCodes() {
		want := int64(2)
		if kind == impl.KCon || kind == impl.KInt || kind == impl.KChar {
			want = 0
		}
		for _, c := range codes {
			checkFormFault(t, want, let(c), let(one, c), let(c, makes))
		}
	}
}

func TestFaultyNumbersInCodes(t *testing.T) {
	for _, b := range []impl.Big{{Minus: true}, {Limbs: []uint32{0}}, {Limbs: []uint32{1, 0}}, {Minus: true, Limbs: []uint32{5, 0, 0}}, {Limbs: slices.Repeat([]uint32{1}, impl.MaxLimbs+1)}} {
		c := impl.Code{Kind: impl.KInt, Big: b}
		checkFormFault(t, 2, formsAround(c), formsAround(impl.Code{Kind: impl.KLet, Kids: []impl.Code{c, readCode("1")}}))
	}
	for _, b := range []impl.Big{{}, {Limbs: []uint32{1}}, {Limbs: []uint32{0, 1}}, {Minus: true, Limbs: slices.Repeat([]uint32{math.MaxUint32}, impl.MaxLimbs)}} {
		checkFormFault(t, 0, formsAround(impl.Code{Kind: impl.KInt, Big: b}))
	}
	for _, name := range []string{"", "ab", "é", "abc"} {
		checkFormFault(t, 2, formsAround(impl.Code{Kind: impl.KChar, Name: name}))
	}
	for _, name := range []string{"a", "\x00", "\xff", "'"} {
		checkFormFault(t, 0, formsAround(impl.Code{Kind: impl.KChar, Name: name}))
	}
}

func TestPrimsThatAreNone(t *testing.T) {
	for _, name := range []string{"", "primAppend", "prim", "primadd", "PrimAdd", "primAdd ", "negate", "C", "primShow'"} {
		for count := range 4 {
			checkFormFault(t, 2, formsAround(impl.Code{Kind: impl.KPrim, Name: name, Refs: slices.Repeat([]int64{1}, count)}))
		}
	}
	for name, count := range primCounts() {
		for refs := range 4 {
			want := int64(2)
			if refs == count {
				want = 0
			}
			checkFormFault(t, want, formsAround(impl.Code{Kind: impl.KPrim, Name: name, Refs: slices.Repeat([]int64{1}, refs)}))
		}
	}
}

// Something that its kind does not have, one thing at a time.
func TestWhatCodesDoNotHave(t *testing.T) {
	one := readCode("1")
	extras := map[string]func(c *impl.Code){
		"Name":  func(c *impl.Code) { c.Name += "n" },
		"Minus": func(c *impl.Code) { c.Big.Minus = true },
		"Limbs": func(c *impl.Code) { c.Big.Limbs = []uint32{1} },
		"A":     func(c *impl.Code) { c.A = 1 },
		"A -1":  func(c *impl.Code) { c.A = -1 },
		"B":     func(c *impl.Code) { c.B = 1 },
		"B -1":  func(c *impl.Code) { c.B = -1 },
		"Refs":  func(c *impl.Code) { c.Refs = append(slices.Clone(c.Refs), 1) },
		"Kids":  func(c *impl.Code) { c.Kids = append(slices.Clone(c.Kids), one) },
		"Alts":  func(c *impl.Code) { c.Alts = append(slices.Clone(c.Alts), impl.CodeAlt{Con: "Z", Body: one}) },
	}
	// What may turn into another sound code, of each kind.
	mayHave := map[int64][]string{
		impl.KSlot: {"A"}, impl.KInt: {"Minus", "Limbs"}, impl.KChar: nil, impl.KText: {"Name"}, impl.KCon: {"Name", "Refs"},
		impl.KApp: {"A", "Refs"}, impl.KLet: {"A", "Kids"}, impl.KCase: {"A", "A -1", "Kids", "Alts"}, impl.KPrim: {"Refs"}, impl.KMake: {"A", "Refs"},
	}
	sound := soundCodes()
	sound[impl.KMake] = []impl.Code{{Kind: impl.KMake, A: 2}, {Kind: impl.KMake, A: 1, Refs: []int64{0, 2}}}
	told := 0
	for kind, codes := range sound {
		for name, add := range extras {
			for _, c := range codes {
				if slices.Contains(mayHave[kind], name) {
					continue
				}
				add(&c)
				list := formsAround(c)
				if kind == impl.KMake {
					list = formsAround(impl.Code{Kind: impl.KLet, Kids: []impl.Code{c, one}})
				}
				told++
				if got := impl.FormFault(list); got != 2 {
					t.Errorf("kind %d with %s: the fault %d", kind, name, got)
				}
			}
		}
	}
	if told < 150 {
		t.Errorf("%d were asked for", told)
	}
	for _, c := range []impl.Code{{Kind: impl.KCon}, {Kind: impl.KCon, Refs: []int64{1}}, {Kind: impl.KText}} {
		checkFormFault(t, 0, formsAround(c)) // no name is a name
	}
	checkFormFault(t, 0, formsAround(readCode("(case 1 - { A s0 0 1 } { A s0 0 2 })")))
}

// The most codes that all forms may have together: kids, and bodies of alternatives.
func TestMostCodes(t *testing.T) {
	one := readCode("1")
	wide := func(count int) impl.Code {
		return impl.Code{Kind: impl.KCase, A: -1, Kids: []impl.Code{one}, Alts: slices.Repeat([]impl.CodeAlt{{Con: "A", Body: one}}, count-2)}
	}
	deep := func(count int) impl.Code {
		c := one
		for range (count - 1) / 2 {
			c = impl.Code{Kind: impl.KCase, A: -1, Kids: []impl.Code{c, one}}
		}
		return c
	}
	lets := func(count int) impl.Code {
		c := one
		for range (count - 1) / 2 {
			c = impl.Code{Kind: impl.KLet, Kids: []impl.Code{one, c}}
		}
		return c
	}
	forms := func(count int, write func(int) impl.Code, rest ...impl.Code) []impl.Form {
		list := slices.Repeat([]impl.Form{plainForm(1, write(count))}, 20)
		for _, c := range rest {
			list = append(list, plainForm(1, c))
		}
		return list
	}
	most := 4 * impl.MaxCore
	checkFormFault(t, 0, []impl.Form{plainForm(0, wide(most))}, []impl.Form{plainForm(0, deep(most-1))}, []impl.Form{plainForm(1, lets(most-1))}, []impl.Form{plainForm(1, lets(most-1)), plainForm(0, one)})
	checkFormFault(t, 2, []impl.Form{plainForm(0, wide(most+1))}, []impl.Form{plainForm(0, deep(most+1))}, []impl.Form{plainForm(1, lets(most+1))}, []impl.Form{plainForm(1, lets(most-1)), plainForm(0, one), plainForm(0, one)}, []impl.Form{plainForm(0, one), plainForm(0, wide(most))})
	checkFormFault(t, 0, forms(most/20, wide), forms(most/20-1, deep, wide(20)), forms(most/20-1, lets, deep(19), one))
	checkFormFault(t, 2, forms(most/20, wide, one), forms(most/20-1, deep, wide(20), one), forms(most/20-1, lets, deep(19), one, one))
	fourEach := slices.Repeat([]impl.Form{plainForm(0, wide(4))}, impl.MaxCore)
	checkFormFault(t, 0, fourEach)
	fourEach[777] = plainForm(0, wide(5))
	checkFormFault(t, 2, fourEach)
	fourEach[778] = plainForm(0, wide(3))
	checkFormFault(t, 0, fourEach)
	// Far too many, shared or coming back to themselves.
	double := one
	for range 60 {
		double = impl.Code{Kind: impl.KCase, A: -1, Kids: []impl.Code{double, double}}
	}
	round := impl.Code{Kind: impl.KLet, Kids: []impl.Code{one, one}}
	round.Kids[1] = round
	turning := impl.Code{Kind: impl.KCase, A: -1, Kids: []impl.Code{one}, Alts: []impl.CodeAlt{{Con: "A", Body: one}}}
	turning.Alts[0].Body = turning
	checkFormFault(t, 2, []impl.Form{plainForm(0, wide(1000000))}, []impl.Form{plainForm(0, double)}, slices.Repeat([]impl.Form{plainForm(1, double)}, impl.MaxCore))
	for _, c := range []impl.Code{round, turning} {
		if list := []impl.Form{plainForm(1, c)}; impl.FormFault(list) != 2 || impl.FormatForms(list) != "" {
			t.Error("codes that come back to themselves are told as sound")
		}
	}
}

// What is wrong with numbers is told ahead of what is wrong with codes, wherever either stands.
func TestFormNumbersAreToldFirst(t *testing.T) {
	one, wrong := readCode("1"), impl.Code{}
	many := impl.Code{Kind: impl.KCase, A: -1, Kids: []impl.Code{one}, Alts: slices.Repeat([]impl.CodeAlt{{Con: "A", Body: one}}, 4*impl.MaxCore)}
	for _, bad := range []impl.Code{wrong, many, readCode("s0")} {
		checkFormFault(t, 1,
			[]impl.Form{plainForm(0, bad), plainForm(-1, one)},
			[]impl.Form{plainForm(-1, one), plainForm(0, bad)},
			[]impl.Form{plainForm(0, one), {Free: 1, Body: bad}},
			[]impl.Form{{Params: 1, Slots: 1, Body: impl.Code{Kind: 77}}, plainForm(0, bad)},
			append(slices.Repeat([]impl.Form{plainForm(0, wrong)}, 4000), plainForm(impl.MaxCore+1, bad)),
			slices.Repeat([]impl.Form{plainForm(0, wrong)}, impl.MaxCore+1),
		)
		checkFormFault(t, 2, []impl.Form{plainForm(0, bad), plainForm(0, one)}, []impl.Form{plainForm(0, one), plainForm(0, bad)}, append(slices.Repeat([]impl.Form{plainForm(0, one)}, impl.MaxCore-1), plainForm(0, bad)))
	}
}
