package tests

import (
	"fmt"
	"math/rand/v2"
	"slices"
	"strings"
	"testing"

	"loop.example/g00017/impl"
)

func TestFindCon(t *testing.T) {
	tables := impl.TableOf(modulesOf(t, "module M where { data T a b = A b | B ( T b a ) [ a ] ; data False = True | Cons }")).Tables
	for name, want := range map[string]string{
		"M.A": "con M.A of M.T 0/2 @1", "M.B": "con M.B of M.T 1/2 M.T{@1 @0} []{@0}", "True": "con True of Bool 1/0", "False": "con False of Bool 0/0", "M.True": "con M.True of M.False 0/0", "M.Cons": "con M.Cons of M.False 1/0", ":": "con : of [] 1/1 @0 []{@0}", "[]": "con [] of [] 0/1", "()": "con () of () 0/0", "(,)": "con (,) of (,) 0/2 @0 @1", "(,,,,,,)": "con (,,,,,,) of (,,,,,,) 0/7 @0 @1 @2 @3 @4 @5 @6",
		"": "", "A": "", "B": "", "M.T": "", "Bool": "", "Int": "", "->": "", "M.": "", "M": "", "m.A": "", "(,,,,,,,)": "", "M.A ": "", "M.False": "", "Cons": "",
	} {
		got := impl.FindCon(tables, name)
		if text := conInfoText(got); text != want && !(want == "" && isZeroCon(got)) {
			t.Errorf("%q: %s, not %s", name, text, want)
		}
	}
	// of several the first one, whatever is in it
	odd := impl.Type{Kind: 9, Id: -4, Name: "odd", Args: []impl.Type{{}, typeVar(-1), {Kind: impl.TyGen, Name: "x", Args: []impl.Type{typeCon("")}}}}
	several := impl.Tables{Cons: []impl.ConInfo{{Name: "B", Data: "T", Tag: 7}, {Name: "A", Data: "first", Tag: -3, Vars: -2, Fields: []impl.Type{odd, typePlace(4)}}, {Name: "A", Data: "second", Tag: 1, Vars: 2}, {Data: "no name", Vars: 5}, {Name: "B"}}}
	if got := impl.FindCon(several, "A"); conInfoText(got) != conInfoText(several.Cons[1]) || !sameTypeSlowly(got.Fields[0], odd) {
		t.Errorf("%s", conInfoText(got))
	}
	if got := impl.FindCon(several, "B"); got.Tag != 7 {
		t.Errorf("%s", conInfoText(got))
	}
	if got := impl.FindCon(several, ""); got.Data != "no name" || got.Vars != 5 {
		t.Errorf("%s", conInfoText(got))
	}
	if !isZeroCon(impl.FindCon(impl.Tables{}, "True")) || !isZeroCon(impl.FindCon(several, "first")) {
		t.Error("found nowhere")
	}
}

func isZeroCon(c impl.ConInfo) bool {
	return c.Name == "" && c.Data == "" && c.Tag == 0 && c.Vars == 0 && len(c.Fields) == 0
}

func isZeroInst(i impl.InstInfo) bool {
	return i.Class == "" && i.Con == "" && i.Vars == 0 && len(i.Preds) == 0
}

func TestFindInst(t *testing.T) {
	tables := impl.TableOf(modulesOf(t, "module M where { class K a where { } ; class L a where { } ; data T a b = A ; instance ( L b , K a ) => K ( T a b ) where { } ; instance L ( T a b ) where { } ; instance K Int where { } ; instance K a => L [ a ] where { } }")).Tables
	for names, want := range map[[2]string]string{
		{"M.K", "M.T"}: "inst M.K M.T/2 M.L@1 M.K@0", {"M.L", "M.T"}: "inst M.L M.T/2", {"M.K", "Int"}: "inst M.K Int/0", {"M.L", "[]"}: "inst M.L []/1 M.K@0",
		{"M.L", "Int"}: "", {"M.K", "[]"}: "", {"M.K", ""}: "", {"", "Int"}: "", {"", ""}: "", {"Int", "M.K"}: "", {"M.T", "M.K"}: "", {"K", "Int"}: "", {"M.K", "T"}: "", {"M.K", "M.A"}: "", {"M.KI", "nt"}: "", {"M.K", "M.K"}: "",
	} {
		got := impl.FindInst(tables, names[0], names[1])
		if text := instInfoText(got); text != want && !(want == "" && isZeroInst(got)) {
			t.Errorf("%q: %s, not %s", names, text, want)
		}
	}
	several := impl.Tables{Insts: []impl.InstInfo{{Class: "K", Con: "U", Vars: 1}, {Class: "K", Con: "T", Vars: -2, Preds: []impl.Pred{{Class: "x", Id: -9}, {}, {Class: "x", Id: -9}}}, {Class: "K", Con: "T", Vars: 3}, {Class: "L", Con: "T", Vars: 4}, {Vars: 5}}}
	if got := impl.FindInst(several, "K", "T"); instInfoText(got) != instInfoText(several.Insts[1]) || len(got.Preds) != 3 {
		t.Errorf("%s", instInfoText(got))
	}
	if got := impl.FindInst(several, "", ""); got.Vars != 5 || impl.FindInst(several, "L", "T").Vars != 4 || impl.FindInst(several, "K", "U").Vars != 1 {
		t.Errorf("%s", instInfoText(got))
	}
	if !isZeroInst(impl.FindInst(impl.Tables{}, "K", "T")) || !isZeroInst(impl.FindInst(several, "L", "U")) {
		t.Error("found nowhere")
	}
}

// classesOf reads classes with their superclasses: "K:L N|L".
func classesOf(text string) impl.Tables {
	var t impl.Tables
	for _, part := range strings.Split(text, "|") {
		name, supers, _ := strings.Cut(part, ":")
		t.Classes = append(t.Classes, impl.ClassInfo{Name: name, Supers: strings.Fields(supers), Methods: []string{"m"}})
	}
	return t
}

// pathSlowly draws all ways step by step, in order, until one comes to the end.
func pathSlowly(t impl.Tables, from, to string) []string {
	if from == to {
		return nil
	}
	ways := [][]string{nil}
	for range len(t.Classes) + 1 {
		var longer [][]string
		for _, way := range ways {
			at := from
			if len(way) > 0 {
				at = way[len(way)-1]
			}
			class := slices.IndexFunc(t.Classes, func(c impl.ClassInfo) bool { return c.Name == at })
			if class < 0 {
				continue
			}
			for _, super := range t.Classes[class].Supers {
				longer = append(longer, append(slices.Clone(way), super))
			}
		}
		ways = longer
		for _, way := range ways {
			if way[len(way)-1] == to {
				return way
			}
		}
	}
	return nil
}

func checkPath(t *testing.T, tables impl.Tables, from, to string) []string {
	t.Helper()
	got, want := impl.SuperPath(tables, from, to), pathSlowly(tables, from, to)
	if !slices.Equal(got, want) {
		t.Fatalf("%s: from %s to %s %v, not %v", tablesText(tables), from, to, got, want)
	}
	return got
}

func TestSuperPath(t *testing.T) {
	for _, row := range []struct{ classes, from, to, want string }{
		// no way, and one class
		{"K|L", "K", "L", ""}, {"K:L|L", "L", "K", ""}, {"K:L|L", "K", "K", ""}, {"K:K", "K", "K", ""}, {"K:L|L:K", "K", "K", ""}, {"K", "K", "N", ""}, {"K", "N", "K", ""}, {"K", "N", "O", ""}, {"K:L|L", "", "L", ""}, {"K:L|L", "K", "", ""}, {"K|L:N|N", "K", "N", ""},
		// one step, and several
		{"K:L|L", "K", "L", "L"}, {"K:N L|L|N", "K", "L", "L"}, {"K:L|L:N|N", "K", "N", "L N"}, {"N|L:N|K:L", "K", "N", "L N"}, {"A:B|B:C|C:D|D:E|E", "A", "E", "B C D E"}, {"A:B|B:C|C:D|D:E|E", "B", "D", "C D"},
		// two ways of one length
		{"A:B C|B:D|C:D|D", "A", "D", "B D"}, {"A:C B|B:D|C:D|D", "A", "D", "C D"}, {"A:B|B:C D|C:E|D:E|E", "A", "E", "B C E"}, {"A:B|B:D C|C:E|D:E|E", "A", "E", "B D E"}, {"A:B C|B:E D|C:F|D:G|E:H|F:G|G|H:G", "A", "G", "B D G"}, {"A:C B|B:D|C:E|D:F|E:F|F", "A", "F", "C E F"},
		// a longer one ahead of a shorter one
		{"A:B C|B:C|C", "A", "C", "C"}, {"A:B C|B:D|C:E|D:E|E", "A", "E", "C E"}, {"A:B D|B:C|C:D|D", "A", "D", "D"}, {"A:B|B:C E|C:D|D:E|E", "A", "E", "B E"},
		// tables that go round
		{"A:B|B:A C|C", "A", "C", "B C"}, {"A:A B|B:B C|C:A", "A", "C", "B C"}, {"A:A B|B:B C|C:A", "C", "B", "A B"}, {"A:B|B:A", "A", "C", ""}, {"A:B|B:A", "B", "A", "A"},
		// one class again and again, classes that have no entry, two entries of one class
		{"A:B B C|B:C|C", "A", "B", "B"}, {"A:B", "A", "B", "B"}, {"A:B|C:A", "C", "B", "A B"}, {"A:B|A:C|B|C", "A", "C", ""}, {"A:C|A:B C|B:C|C", "A", "B", ""}, {"A|B:A|B:C|C:A", "B", "A", "A"}, {":A|A:B|B", "", "B", "A B"},
	} {
		if got := strings.Join(checkPath(t, classesOf(row.classes), row.from, row.to), " "); got != row.want {
			t.Errorf("%s: from %s to %s %q, not %q", row.classes, row.from, row.to, got, row.want)
		}
	}
	if got := impl.SuperPath(impl.Tables{}, "A", "B"); len(got) > 0 {
		t.Error(got)
	}
	tables := impl.TableOf(modulesOf(t, "module M where { class ( L a , N a ) => K a where { } ; class N a => L a where { } ; class O a => N a where { } ; class O a where { } }")).Tables
	if got := strings.Join(checkPath(t, tables, "M.K", "M.O"), " "); got != "M.N M.O" {
		t.Error(got)
	}
}

func TestDrawnSuperPaths(t *testing.T) {
	r := rand.New(rand.NewPCG(9, 1))
	lengths := map[int]int{}
	for range 4000 {
		var tables impl.Tables
		count := 1 + r.IntN(6)
		for i := range count {
			c := impl.ClassInfo{Name: fmt.Sprint("K", i)}
			for range r.IntN(4) {
				c.Supers = append(c.Supers, fmt.Sprint("K", r.IntN(count+1)))
			}
			tables.Classes = append(tables.Classes, c)
		}
		r.Shuffle(count, func(i, j int) {
			tables.Classes[i], tables.Classes[j] = tables.Classes[j], tables.Classes[i]
		})
		from, to := fmt.Sprint("K", r.IntN(count+1)), fmt.Sprint("K", r.IntN(count+1))
		way := checkPath(t, tables, from, to)
		lengths[len(way)]++
	}
	for length, least := range map[int]int{0: 500, 1: 500, 2: 200, 3: 50, 4: 5} {
		if lengths[length] < least {
			t.Errorf("lengths %v", lengths)
		}
	}
}
