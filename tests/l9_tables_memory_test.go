package tests

import (
	"math/rand/v2"
	"slices"
	"strings"
	"sync"
	"testing"

	"loop.example/g00017/impl"
)

// tableLists has lists of modules with each code, and with none.
func tableLists(t *testing.T) [][]impl.Node {
	t.Helper()
	m := &declMaker{Rand: rand.New(rand.NewPCG(9, 4))}
	helpers := modulesOf(t, "module H where { twice = 1 } module T where { twice = 2 }")
	lists := [][]impl.Node{nil, {}, helpers, {impl.Node{}}, severalTrees(), append(slices.Clone(helpers), helpers[0])}
	for _, w := range wrongModules() {
		lists = append(lists, append(modulesOf(t, strings.ReplaceAll(w.text, "@", "X")), helpers...))
	}
	for _, w := range wrongDecls() {
		lists = append(lists, modulesOf(t, "module M where { "+w.in("M", "X").text+" }"))
	}
	for range 60 {
		list := m.modules(t)
		lists = append(lists, slices.Clone(list))
		m.spoil(list)
		lists = append(lists, list)
	}
	return append(lists, modulesOf(t, "module M where { class Eq a where { (==) , (/=) :: Eq b => a -> b -> T a a } ; data T a b = A ( T b a ) [ a ] | B ( a , b , ( ) ) ( a -> b ) ; instance ( Eq a , Eq b ) => Eq ( T b a ) where { x == y = x ; (/=) = (==) } ; instance Eq a => Eq [ a ] where { (==) = 1 ; (/=) = 2 } ; class ( Eq a , Eq a ) => Ord a where { (<=) , (<) :: a } }"))
}

func TestTablesChangeNothing(t *testing.T) {
	behind := importing("Behind", "Nothing")
	for _, list := range tableLists(t) {
		own := make([]impl.Node, 0, len(list)+1)
		for _, n := range list {
			own = append(own, roomyTree(n))
		}
		own = append(own, behind)
		given := own[:len(list)]
		got := impl.TableOf(given)
		if !slices.EqualFunc(given, list, sameSlowly) || slices.ContainsFunc(given, func(n impl.Node) bool { return !roomKept(n) }) || !sameSlowly(own[len(list)], importing("Behind", "Nothing")) {
			t.Errorf("%s is changed", kinded(tree(0, "", list...)))
		}
		if resultText(got) != resultText(impl.TableOf(list)) {
			t.Errorf("%s hangs on what stands behind a list", kinded(tree(0, "", list...)))
		}
	}
}

// entryMemory has where lists and texts of single entries lie.
func entryMemory(cons []impl.ConInfo, insts []impl.InstInfo) (lists, texts []memory) {
	for _, c := range cons {
		moreLists, moreTexts := typesMemory(c.Fields, nil, nil)
		lists = slices.Concat(lists, moreLists, memoryOf(c.Fields))
		texts = slices.Concat(texts, moreTexts, textMemory(c.Name), textMemory(c.Data))
	}
	for _, i := range insts {
		moreLists, moreTexts := typesMemory(nil, nil, i.Preds)
		lists, texts = append(lists, moreLists...), slices.Concat(texts, moreTexts, textMemory(i.Class), textMemory(i.Con))
	}
	return lists, texts
}

func tablesMemory(t impl.Tables) (lists, texts []memory) {
	lists, texts = entryMemory(t.Cons, t.Insts)
	lists = slices.Concat(lists, memoryOf(t.Cons), memoryOf(t.Datas), memoryOf(t.Methods), memoryOf(t.Classes), memoryOf(t.Insts))
	for _, d := range t.Datas {
		lists, texts = append(lists, memoryOf(d.Cons)...), append(texts, textMemory(d.Name)...)
		texts = slices.Concat(append([][]memory{texts}, memoriesOf(d.Cons)...)...)
	}
	for _, m := range t.Methods {
		moreLists, moreTexts := typesMemory([]impl.Type{m.Scheme.Type}, nil, m.Scheme.Preds)
		lists, texts = append(lists, moreLists...), slices.Concat(texts, moreTexts, textMemory(m.Name), textMemory(m.Class))
	}
	for _, c := range t.Classes {
		lists = slices.Concat(lists, memoryOf(c.Supers), memoryOf(c.Methods))
		texts = slices.Concat(append(append([][]memory{texts, textMemory(c.Name)}, memoriesOf(c.Supers)...), memoriesOf(c.Methods)...)...)
	}
	return lists, texts
}

func memoriesOf(texts []string) [][]memory {
	var list [][]memory
	for _, text := range texts {
		list = append(list, textMemory(text))
	}
	return list
}

func spoilTypes(types []impl.Type) {
	for _, one := range types {
		spoilType(one)
	}
	clear(types[:cap(types)])
}

// spoilTables overwrites all that lists of tables have room for.
func spoilTables(t impl.Tables) {
	for _, c := range t.Cons {
		spoilTypes(c.Fields)
	}
	for _, d := range t.Datas {
		clear(d.Cons[:cap(d.Cons)])
	}
	for _, m := range t.Methods {
		spoilType(m.Scheme.Type)
		clear(m.Scheme.Preds[:cap(m.Scheme.Preds)])
	}
	for _, c := range t.Classes {
		clear(c.Supers[:cap(c.Supers)])
		clear(c.Methods[:cap(c.Methods)])
	}
	for _, i := range t.Insts {
		clear(i.Preds[:cap(i.Preds)])
	}
	clear(t.Cons[:cap(t.Cons)])
	clear(t.Datas[:cap(t.Datas)])
	clear(t.Methods[:cap(t.Methods)])
	clear(t.Classes[:cap(t.Classes)])
	clear(t.Insts[:cap(t.Insts)])
}

func TestTablesAreNewMemory(t *testing.T) {
	codes := map[int64]int{}
	for _, list := range tableLists(t) {
		own := cloneTrees(list)
		got := impl.TableOf(own)
		want := resultText(got)
		codes[got.Code]++
		lists, texts := tablesMemory(got.Tables)
		if !apart(lists) {
			t.Errorf("%s: two lists share memory", want)
		}
		var given []memory
		for _, text := range textsIn(tree(0, "", own...), nil) {
			given = append(given, textMemory(text)...)
		}
		if touches(append(texts, textMemory(got.Name)...), given) {
			t.Errorf("%s: a text lies in an argument", want)
		}
		spoilTables(got.Tables)
		if !slices.EqualFunc(own, list, sameSlowly) || resultText(impl.TableOf(own)) != want {
			t.Errorf("%s is told another way behind a change of it", want)
		}
	}
	for _, code := range []int64{0, 1, 2, 3, 4, 5, 6, 7, 8, 21, 22, 23, 24, 25, 26, 27, 28, 29, 30, 31, 32, 33} {
		if codes[code] == 0 {
			t.Errorf("no code %d in %v", code, codes)
		}
	}
}

// With a code there are no tables; a name is told but with some codes.
func TestTableCodesStandAlone(t *testing.T) {
	for _, list := range tableLists(t) {
		got := impl.TableOf(list)
		isNameless := slices.Contains([]int64{0, 1, 21, 22, 24}, got.Code)
		lists, _ := tablesMemory(got.Tables)
		if got.Code != 0 && (len(lists) > 0 || len(entriesOf(got.Tables)) > 0) || got.Code == 0 && got.Name != "" || !isNameless && got.Name == "" {
			t.Errorf("%s", resultText(got))
		}
	}
}

func TestBuiltinsAreNewMemory(t *testing.T) {
	first, second := impl.Builtins(), impl.Builtins()
	want := tablesText(first)
	lists, _ := tablesMemory(first)
	others, _ := tablesMemory(second)
	if !apart(slices.Concat(lists, others)) {
		t.Error("two lists share memory")
	}
	spoilTables(first)
	if tablesText(second) != want || tablesText(impl.Builtins()) != want {
		t.Error("they are changed")
	}
}

// A findCall has arguments for the functions that look things up.
type findCall struct {
	tables          impl.Tables
	con, class, dat string
}

func (c findCall) answers() (impl.ConInfo, impl.InstInfo, []string) {
	return impl.FindCon(c.tables, c.con), impl.FindInst(c.tables, c.class, c.dat), impl.SuperPath(c.tables, c.class, c.dat)
}

func (c findCall) text() string {
	con, inst, way := c.answers()
	return glue(conInfoText(con), ";", instInfoText(inst), ";", strings.Join(way, " "))
}

// roomy copies a list, and puts something behind it, in the room that it could grow into.
func roomy[T any](list []T, behind T, own func(T) T) []T {
	room := make([]T, 0, len(list)+1)
	for _, one := range list {
		room = append(room, own(one))
	}
	return append(room, behind)[:len(list)]
}

// clone copies the arguments, with room behind each list.
func (c findCall) clone() findCall {
	own := findCall{con: strings.Clone(c.con), class: strings.Clone(c.class), dat: strings.Clone(c.dat)}
	behind := impl.Pred{Class: "behind", Id: -7}
	clonePred := func(p impl.Pred) impl.Pred { return impl.Pred{Class: strings.Clone(p.Class), Id: p.Id} }
	own.tables.Cons = roomy(c.tables.Cons, impl.ConInfo{Name: "behind"}, func(i impl.ConInfo) impl.ConInfo {
		return impl.ConInfo{Name: strings.Clone(i.Name), Data: strings.Clone(i.Data), Tag: i.Tag, Vars: i.Vars, Fields: roomy(i.Fields, typeVar(-7), roomyType)}
	})
	own.tables.Insts = roomy(c.tables.Insts, impl.InstInfo{Class: "behind"}, func(i impl.InstInfo) impl.InstInfo {
		return impl.InstInfo{Class: strings.Clone(i.Class), Con: strings.Clone(i.Con), Vars: i.Vars, Preds: roomy(i.Preds, behind, clonePred)}
	})
	own.tables.Classes = roomy(c.tables.Classes, impl.ClassInfo{Name: "behind"}, func(i impl.ClassInfo) impl.ClassInfo {
		return impl.ClassInfo{Name: strings.Clone(i.Name), Supers: roomy(i.Supers, "behind", strings.Clone), Methods: roomy(i.Methods, "behind", strings.Clone)}
	})
	own.tables.Datas, own.tables.Methods = c.tables.Datas, c.tables.Methods
	return own
}

func (c findCall) roomKept() bool {
	t := c.tables
	kept := t.Cons[:len(t.Cons)+1][len(t.Cons)].Name == "behind" && t.Insts[:len(t.Insts)+1][len(t.Insts)].Class == "behind" && t.Classes[:len(t.Classes)+1][len(t.Classes)].Name == "behind"
	for _, i := range t.Cons {
		behind := i.Fields[:len(i.Fields)+1][len(i.Fields)]
		kept = kept && behind.Kind == impl.TyVar && behind.Id == -7 && !slices.ContainsFunc(i.Fields, func(f impl.Type) bool { return !typeRoomKept(f) })
	}
	for _, i := range t.Insts {
		kept = kept && i.Preds[:len(i.Preds)+1][len(i.Preds)].Class == "behind"
	}
	for _, i := range t.Classes {
		kept = kept && i.Supers[:len(i.Supers)+1][len(i.Supers)] == "behind" && i.Methods[:len(i.Methods)+1][len(i.Methods)] == "behind"
	}
	return kept
}

// findCalls draws tables, of modules and such as no modules have.
func findCalls(t *testing.T) []findCall {
	m := &declMaker{Rand: rand.New(rand.NewPCG(9, 5))}
	types := typeMaker{m.Rand}
	var calls []findCall
	for round := range 150 {
		list := m.modules(t)
		c := findCall{tables: impl.TableOf(list).Tables, con: "True", class: "no", dat: "Int"}
		if round%3 == 0 {
			con := impl.ConInfo{Name: "odd", Data: m.one("", "D"), Tag: m.Int64N(9) - 3, Vars: m.Int64N(9) - 3}
			for range m.IntN(4) {
				con.Fields = append(con.Fields, types.any(4))
			}
			c.tables.Cons = append(c.tables.Cons, con, con)
			c.tables.Insts = append(c.tables.Insts, impl.InstInfo{Class: "odd", Con: "D", Preds: []impl.Pred{{Class: "x", Id: -3}}}, impl.InstInfo{Class: "odd", Con: "D"})
			c.tables.Classes = append(c.tables.Classes, impl.ClassInfo{Name: "odd", Supers: []string{"x", "odd", "D"}})
		}
		con := c.tables.Cons[m.IntN(len(c.tables.Cons))]
		c.con = con.Name
		if len(c.tables.Insts) > 0 {
			inst := c.tables.Insts[m.IntN(len(c.tables.Insts))]
			c.class, c.dat = inst.Class, inst.Con
		}
		if round%2 == 0 {
			c.class, c.dat = c.tables.Classes[len(c.tables.Classes)-1].Name, c.tables.Classes[0].Name
		}
		calls = append(calls, c)
	}
	return calls
}

func TestFindingChangesNothing(t *testing.T) {
	for _, c := range findCalls(t) {
		own := c.clone()
		if got := own.text(); got != c.text() || tablesText(own.tables) != tablesText(c.tables) || !own.roomKept() {
			t.Errorf("%s changes tables, or hangs on what stands behind a list", got)
		}
	}
}

func TestFoundIsNewMemory(t *testing.T) {
	filled := [3]int{}
	for _, c := range findCalls(t) {
		own := c.clone()
		con, inst, way := own.answers()
		want := c.text()
		for i, found := range []bool{len(con.Fields) > 0, len(inst.Preds) > 0, len(way) > 0} {
			if found {
				filled[i]++
			}
		}
		lists, texts := entryMemory([]impl.ConInfo{con}, []impl.InstInfo{inst})
		lists = append(lists, memoryOf(way)...)
		texts = slices.Concat(append([][]memory{texts}, memoriesOf(way)...)...)
		givenLists, givenTexts := tablesMemory(own.tables)
		givenTexts = slices.Concat(givenTexts, textMemory(own.con), textMemory(own.class), textMemory(own.dat))
		if !apart(slices.Clone(lists)) || touches(lists, givenLists) || touches(texts, givenTexts) {
			t.Errorf("%s shares memory", want)
		}
		spoilTypes(con.Fields)
		clear(inst.Preds[:cap(inst.Preds)])
		clear(way[:cap(way)])
		if got := own.text(); got != want || tablesText(own.tables) != tablesText(c.tables) || !own.roomKept() {
			t.Errorf("%s is %s behind a change of it", want, got)
		}
	}
	if slices.Min(filled[:]) < 10 {
		t.Errorf("found %v", filled)
	}
}

// Calls at the same time and in any order answer alike.
func TestTablesHangOnArgumentsAlone(t *testing.T) {
	lists, calls := tableLists(t), findCalls(t)
	var told, found []string
	for _, list := range lists {
		told = append(told, resultText(impl.TableOf(list)))
	}
	for _, c := range calls {
		found = append(found, c.text())
	}
	var all sync.WaitGroup
	for worker := range 8 {
		all.Go(func() {
			for i := range max(len(lists), len(calls)) {
				list, call := (i*7+worker)%len(lists), (i*5+worker)%len(calls)
				if resultText(impl.TableOf(lists[list])) != told[list] || calls[call].text() != found[call] {
					t.Errorf("%s or %s is told another way", told[list], found[call])
				}
			}
		})
	}
	all.Wait()
}

// Lists of one memory in a constructor that is given come apart in what is answered.
func TestSharedFieldsComeApart(t *testing.T) {
	shared := []impl.Type{typePlace(0), typeCon("[]", typePlace(1))}
	one := typeCon("T", shared...)
	for range 8 {
		one = impl.Type{Kind: impl.TyCon, Name: "U", Args: []impl.Type{one, one}}
	}
	tables := impl.Tables{Cons: []impl.ConInfo{{Name: "C", Fields: []impl.Type{one, one, {Kind: impl.TyCon, Name: "T", Args: shared}, {Kind: impl.TyCon, Name: "V", Args: shared[:1]}}}}}
	got := impl.FindCon(tables, "C")
	if lists, _ := entryMemory([]impl.ConInfo{got}, nil); !apart(lists) || conInfoText(got) != conInfoText(tables.Cons[0]) {
		t.Error("two lists share memory")
	}
	largest := typeCon("W")
	for range impl.MaxNodes/2 - 1 {
		largest.Args = append(largest.Args, impl.Type{Kind: impl.TyCon, Name: "X", Args: shared[:1]})
	}
	tables.Cons[0].Fields = []impl.Type{largest, largest}
	got = impl.FindCon(tables, "C")
	if lists, _ := entryMemory([]impl.ConInfo{got}, nil); impl.TypeFault(largest) || !apart(lists) || conInfoText(got) != conInfoText(tables.Cons[0]) {
		t.Error("two lists of large types share memory")
	}
}

// Types that come back to themselves, or grow beyond all bounds, are found all the same, in other memory.
func TestFieldsWithoutEnd(t *testing.T) {
	around := impl.Type{Kind: impl.TyCon, Name: "T", Args: []impl.Type{typePlace(0), {}}}
	around.Args[1] = around
	doubled := typePlace(0)
	for range 200 {
		doubled = typeCon("D", doubled, doubled)
	}
	deep := typePlace(0)
	for range 300000 {
		deep = typeCon("L", deep)
	}
	tables := impl.Tables{Cons: []impl.ConInfo{{Name: "C", Fields: []impl.Type{around, doubled, deep, wideType(100000)}}}}
	got := impl.FindCon(tables, "C")
	if len(got.Fields) != 4 {
		t.Fatal("not found")
	}
	for i, field := range tables.Cons[0].Fields {
		if !impl.SameType(field, got.Fields[i]) {
			t.Errorf("field %d is another one", i)
		}
	}
	got.Fields[0].Args[0] = typeVar(3)
	got.Fields[1].Args[1] = typeVar(3)
	got.Fields[2].Args[0] = typeVar(3)
	if around.Args[0].Kind != impl.TyGen || doubled.Args[1].Kind != impl.TyCon || deep.Args[0].Name != "L" {
		t.Error("what is found shares memory with the tables")
	}
	again := impl.FindCon(tables, "C")
	for at, rounds := again.Fields[0], 0; rounds < 100000; rounds++ {
		if len(at.Args) != 2 || at.Name != "T" || at.Args[0].Kind != impl.TyGen {
			t.Fatalf("round %d", rounds)
		}
		if &at.Args[0] == &around.Args[0] {
			t.Fatal("what is found leads into the tables")
		}
		at = at.Args[1]
	}
}
