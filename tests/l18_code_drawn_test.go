package tests

import (
	"math"
	"math/rand/v2"
	"slices"
	"testing"

	"loop.example/g00017/impl"
)

// closedCore binds the names that stand free in a term: by a function, or by a CLet of what names them again.
func closedCore(m *rand.Rand, c impl.Core) impl.Core {
	free := impl.FreeNames(c)
	if len(free) == 0 {
		return c
	}
	if m.IntN(2) == 0 {
		return impl.Core{Kind: impl.CLam, Names: free, Kids: []impl.Core{c}}
	}
	return manyLet(free, func(i int) impl.Core {
		other := coreVar(free[m.IntN(len(free))])
		return []impl.Core{other, coreInt(1), coreCon("C", other), coreLam("z", other), coreApp(other, other)}[m.IntN(5)]
	}, c)
}

// closedTerms draws closed terms of several makers.
func closedTerms(seed uint64, count int, use func(c impl.Core)) {
	rnd := rand.New(rand.NewPCG(18, seed))
	m, many, other, meant := newPassMaker(seed), newPassMaker(seed+1), newCoreMaker(seed), newMeantMaker(seed)
	m.names = "a b c"
	for i := range count {
		use(closedCore(rnd, m.term(1+i%6)))
		use(closedCore(rnd, many.strictTerm(1+i%6)))
		use(closedCore(rnd, other.sound(2+i%6)))
		c, _ := meant.drawn(2 + i%8)
		use(c)
	}
}

func TestDrawnForms(t *testing.T) {
	t.Parallel()
	kinds, most := map[int64]int{}, 0
	closedTerms(1800, 1200, func(c impl.Core) {
		list := checkForms(t, c)
		if len(list) == 0 {
			t.Errorf("%s has no forms", shortCore(c))
		}
		most = max(most, len(list))
		for i := range list {
			for _, code := range codeParts(&list[i].Body) {
				kinds[code.Kind]++
			}
		}
	})
	for kind := int64(impl.KSlot); kind <= impl.KText; kind++ {
		if kinds[kind] < 500 {
			t.Errorf("%d codes of kind %d only", kinds[kind], kind)
		}
	}
	if most < 50 {
		t.Errorf("%d forms at most", most)
	}
}

// Terms with names that stand free, or with faults, have none.
func TestDrawnTermsWithoutForms(t *testing.T) {
	t.Parallel()
	m, none := newCoreMaker(1810), 0
	for i := range 2500 {
		c := m.sound(2 + i%5)
		checkForms(t, c)
		wrong := m.spoilt(closedCore(m.Rand, c))
		if len(checkForms(t, wrong)) == 0 {
			none++
		}
	}
	if none < 900 {
		t.Errorf("%d have none", none)
	}
}

// codeParts has all codes of a code where they stand, itself ahead.
func codeParts(c *impl.Code) []*impl.Code {
	var list []*impl.Code
	var add func(c *impl.Code)
	add = func(c *impl.Code) {
		list = append(list, c)
		for i := range c.Kids {
			add(&c.Kids[i])
		}
		for i := range c.Alts {
			add(&c.Alts[i].Body)
		}
	}
	add(c)
	return list
}

// What holds of all forms of a term: numbers in their order, each slot filled at one place, each form but the first one made at one place, behind its number.
func TestFormsAreMadeOnce(t *testing.T) {
	t.Parallel()
	closedTerms(1820, 600, func(c impl.Core) {
		list := impl.FormsOf(c)
		made := map[int64]int{}
		for number, form := range list {
			filled := map[int64]int{}
			for i := range form.Free + form.Params {
				filled[i]++
			}
			for _, code := range codeParts(&form.Body) {
				for _, slot := range slotsFilled(*code) {
					filled[slot]++
				}
				if code.Kind == impl.KMake {
					made[code.A]++
					if code.A <= int64(number) {
						t.Errorf("form %d makes form %d: %s", number, code.A, shortCore(c))
					}
				}
			}
			for i := range form.Slots {
				if filled[i] != 1 {
					t.Errorf("slot %d of form %d is filled %d times: %s", i, number, filled[i], shortCore(c))
				}
			}
		}
		for number := range list {
			if times := made[int64(number)]; times != min(number, 1) {
				t.Errorf("form %d is made %d times: %s", number, times, shortCore(c))
			}
		}
	})
}

// slotsFilled has the slots into which a code puts something.
func slotsFilled(c impl.Code) []int64 {
	var list []int64
	if c.Kind == impl.KLet {
		for i := range c.Kids[1:] {
			list = append(list, c.A+int64(i))
		}
	}
	if c.Kind == impl.KCase && c.A >= 0 {
		list = append(list, c.A)
	}
	for _, alt := range c.Alts {
		for i := range alt.Count {
			list = append(list, alt.First+i)
		}
	}
	return list
}

// Names are nothing but places: other ones in their stead give the same forms.
func TestFormsHangOnNoNames(t *testing.T) {
	t.Parallel()
	closedTerms(1830, 300, func(c impl.Core) {
		own := cloneCore(c)
		for _, part := range coreParts(&own) {
			turn := func(name string) string { return "z" + name + "'" }
			for i := range part.Names {
				part.Names[i] = turn(part.Names[i])
			}
			for _, alt := range part.Alts {
				for i := range alt.Names {
					alt.Names[i] = turn(alt.Names[i])
				}
			}
			if part.Kind == impl.CVar || part.Kind == impl.CCase && part.Name != "" {
				part.Name = turn(part.Name)
			}
		}
		if formsText(impl.FormsOf(own)) != formsText(impl.FormsOf(c)) {
			t.Errorf("%s has other forms by other names", shortCore(c))
		}
	})
}

// A formsChange turns one thing in a form or in a code.
type formsChange func(m *rand.Rand, form *impl.Form, c *impl.Code)

func formsChanges() []formsChange {
	numbers := []int64{-1, 1, 2, -2, 5, -7, 20000, math.MaxInt32, math.MinInt32}
	by := func(m *rand.Rand) int64 { return numbers[m.IntN(len(numbers))] }
	anAlt := func(turn func(m *rand.Rand, alt *impl.CodeAlt)) formsChange {
		return func(m *rand.Rand, form *impl.Form, c *impl.Code) {
			if len(c.Alts) > 0 {
				turn(m, &c.Alts[m.IntN(len(c.Alts))])
			}
		}
	}
	return []formsChange{
		func(m *rand.Rand, form *impl.Form, c *impl.Code) { form.Free += by(m) },
		func(m *rand.Rand, form *impl.Form, c *impl.Code) { form.Params += by(m) },
		func(m *rand.Rand, form *impl.Form, c *impl.Code) { form.Slots += by(m) },
		func(m *rand.Rand, form *impl.Form, c *impl.Code) { form.Slots-- },
		func(m *rand.Rand, form *impl.Form, c *impl.Code) { form.Slots++ },
		func(m *rand.Rand, form *impl.Form, c *impl.Code) { c.Kind = m.Int64N(12) },
		func(m *rand.Rand, form *impl.Form, c *impl.Code) { c.Name = "" },
		func(m *rand.Rand, form *impl.Form, c *impl.Code) { c.Name += "z" },
		func(m *rand.Rand, form *impl.Form, c *impl.Code) { c.Name = "primAdd" },
		func(m *rand.Rand, form *impl.Form, c *impl.Code) { c.Big.Minus = !c.Big.Minus },
		func(m *rand.Rand, form *impl.Form, c *impl.Code) { c.Big.Limbs = append(c.Big.Limbs, m.Uint32N(2)) },
		func(m *rand.Rand, form *impl.Form, c *impl.Code) { c.Big.Limbs = lessOne(c.Big.Limbs) },
		func(m *rand.Rand, form *impl.Form, c *impl.Code) { c.A += by(m) },
		func(m *rand.Rand, form *impl.Form, c *impl.Code) { c.A = m.Int64N(form.Slots+3) - 1 },
		func(m *rand.Rand, form *impl.Form, c *impl.Code) { c.B += by(m) },
		func(m *rand.Rand, form *impl.Form, c *impl.Code) { c.Refs = append(c.Refs, m.Int64N(form.Slots+2)) },
		func(m *rand.Rand, form *impl.Form, c *impl.Code) { c.Refs = append(c.Refs, by(m)) },
		func(m *rand.Rand, form *impl.Form, c *impl.Code) { c.Refs = lessOne(c.Refs) },
		func(m *rand.Rand, form *impl.Form, c *impl.Code) { c.Kids = lessOne(c.Kids) },
		func(m *rand.Rand, form *impl.Form, c *impl.Code) { slices.Reverse(c.Kids) },
		func(m *rand.Rand, form *impl.Form, c *impl.Code) {
			c.Kids = append(c.Kids, impl.Code{Kind: impl.KInt, Big: impl.BigOf(7)})
		},
		func(m *rand.Rand, form *impl.Form, c *impl.Code) { c.Alts = lessOne(c.Alts) },
		func(m *rand.Rand, form *impl.Form, c *impl.Code) { c.Alts = append(c.Alts, c.Alts...) },
		func(m *rand.Rand, form *impl.Form, c *impl.Code) {
			c.Alts = append(c.Alts, impl.CodeAlt{Con: "Z", First: form.Slots, Body: impl.Code{Kind: impl.KInt}})
		},
		anAlt(func(m *rand.Rand, alt *impl.CodeAlt) { alt.First += by(m) }),
		anAlt(func(m *rand.Rand, alt *impl.CodeAlt) { alt.Count += []int64{-1, 1, 2, -2, 9}[m.IntN(5)] }),
		anAlt(func(m *rand.Rand, alt *impl.CodeAlt) { alt.Con = "" }),
		anAlt(func(m *rand.Rand, alt *impl.CodeAlt) { alt.Body.Kind++ }),
	}
}

func cloneForms(list []impl.Form) []impl.Form {
	own := slices.Clone(list)
	for i := range own {
		own[i].Body = cloneCode(own[i].Body)
	}
	return own
}

func cloneCode(c impl.Code) impl.Code {
	c.Big.Limbs, c.Refs, c.Kids, c.Alts = slices.Clone(c.Big.Limbs), slices.Clone(c.Refs), slices.Clone(c.Kids), slices.Clone(c.Alts)
	for i := range c.Kids {
		c.Kids[i] = cloneCode(c.Kids[i])
	}
	for i := range c.Alts {
		c.Alts[i].Body = cloneCode(c.Alts[i].Body)
	}
	return c
}

// One thing is turned, or two, somewhere in sound forms: what is told then is what the second reading tells.
func TestDrawnFormFaults(t *testing.T) {
	t.Parallel()
	m, changes, faults := rand.New(rand.NewPCG(18, 1840)), formsChanges(), map[int64]int{}
	closedTerms(1840, 250, func(c impl.Core) {
		list := impl.FormsOf(c)
		for range 12 {
			own := cloneForms(list)
			for range 1 + m.IntN(5)/4 {
				form := &own[m.IntN(len(own))]
				parts := codeParts(&form.Body)
				if form.Slots >= 0 {
					changes[m.IntN(len(changes))](m, form, parts[m.IntN(len(parts))])
				}
			}
			faults[checkFormsTold(t, own)]++
		}
	})
	if faults[0] < 2000 || faults[1] < 500 || faults[2] < 5000 {
		t.Errorf("few of one sort: %v", faults)
	}
}
