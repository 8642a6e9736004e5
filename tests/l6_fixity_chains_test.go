package tests

import (
	"math"
	"math/rand/v2"
	"slices"
	"strconv"
	"testing"

	"loop.example/g00017/impl"
)

// A drawnChain has operators o1, o2, .. with a fixity each, and operands x0, x1, .. between them.
type drawnChain struct {
	kind     int64
	fixities []impl.Fixity
}

func (c drawnChain) operand(i int) impl.Node {
	kind := map[int64]int64{impl.NOps: impl.NVar, impl.POps: impl.PVar}[c.kind]
	return tree(kind, "x"+strconv.Itoa(i))
}

// operator is a variable or a constructor, in a pattern a constructor without kids.
func (c drawnChain) operator(i int) impl.Node {
	switch {
	case c.kind == impl.POps:
		return tree(impl.PCon, c.fixities[i].Name)
	case c.fixities[i].Name[0] == 'O':
		return tree(impl.NCon, c.fixities[i].Name)
	}
	return tree(impl.NVar, c.fixities[i].Name)
}

func (c drawnChain) node() impl.Node {
	n := tree(c.kind, "", c.operand(0))
	for i := range c.fixities {
		n.Kids = append(n.Kids, c.operator(i), c.operand(i+1))
	}
	return n
}

// named gives the names that chains of a kind can have.
func named(kind int64, fixities []impl.Fixity) drawnChain {
	own := slices.Clone(fixities)
	for i := range own {
		letter := "o"
		if kind == impl.POps || i%2 == 1 {
			letter = "O"
		}
		own[i].Name = letter + strconv.Itoa(i)
	}
	return drawnChain{kind, own}
}

// ways has each tree that the chain is when it is read from left to right, as long as no operator stands within one that binds tighter, nor on the wrong side of one that binds alike.
func (c drawnChain) ways(from, to int) []impl.Node {
	if from == to {
		return []impl.Node{c.operand(from)}
	}
	var ways []impl.Node
	for at := from; at < to; at++ {
		if !c.mayStand(at, from, at, 1) || !c.mayStand(at, at+1, to, 2) {
			continue
		}
		for _, left := range c.ways(from, at) {
			for _, right := range c.ways(at+1, to) {
				ways = append(ways, operation(c.operator(at), left, right))
			}
		}
	}
	return ways
}

// mayStand says whether all of these operators may stand within one, on a side.
func (c drawnChain) mayStand(outer, from, to int, side int64) bool {
	x := c.fixities[outer]
	for _, y := range c.fixities[from:to] {
		if y.Level < x.Level || y.Level == x.Level && (x.Side != side || y.Side != side) {
			return false
		}
	}
	return true
}

// checkWays holds a chain against all ways to nest it, of which one at most may stand.
func checkWays(t *testing.T, c drawnChain) impl.FixResult {
	t.Helper()
	ways := c.ways(0, len(c.fixities))
	got := checkOrder(t, c.node(), c.fixities)
	switch {
	case len(ways) > 1:
		t.Fatalf("%v has %d ways", c.fixities, len(ways))
	case len(ways) == 0 && got.Code != 1, len(ways) == 1 && (got.Code != 0 || !sameSlowly(got.Tree, ways[0])):
		t.Fatalf("%v is code %d %s, and has the ways %v", c.fixities, got.Code, kinded(got.Tree), ways)
	}
	return got
}

// Chains of each length up to four operators, with all levels and sides of a few.
func TestShortChains(t *testing.T) {
	t.Parallel()
	choices := []impl.Fixity{fixity("", 0, 3), fixity("", 1, 3), fixity("", 2, 3), fixity("", 3, 3), fixity("", 0, 4), fixity("", 1, 4), fixity("", 2, 4), fixity("", 1, 5)}
	for _, kind := range []int64{impl.NOps, impl.POps} {
		codes := map[int64]int{}
		var lengthen func(fixities []impl.Fixity)
		lengthen = func(fixities []impl.Fixity) {
			if len(fixities) > 0 {
				codes[checkWays(t, named(kind, fixities)).Code]++
			}
			if len(fixities) == 4 {
				return
			}
			for _, choice := range choices {
				lengthen(append(slices.Clip(fixities), choice))
			}
		}
		lengthen(nil)
		if codes[0] < 800 || codes[1] < 800 || len(codes) > 2 {
			t.Errorf("codes %v", codes)
		}
	}
}

// Longer chains of drawn levels and sides, those that no declaration gives among them.
func TestDrawnChains(t *testing.T) {
	t.Parallel()
	r := rand.New(rand.NewPCG(6, 2))
	levels := []int64{0, 1, 2, 5, 9, 10, -1, math.MinInt64, math.MaxInt64, math.MinInt64 + 1, math.MaxInt64 - 1, 1 << 32}
	sides := []int64{1, 2, 0, 3, -1, math.MinInt64, math.MaxInt64}
	codes := map[int64]int{}
	for round := range 4000 {
		wild := round%3 == 0
		fixities := make([]impl.Fixity, 1+r.IntN(9))
		used := 1 + r.IntN(len(levels))
		for i := range fixities {
			at := r.IntN(used)
			fixities[i] = fixity("", sides[at%2], levels[at])
			if wild && r.IntN(4) == 0 {
				fixities[i].Side = sides[r.IntN(len(sides))]
			}
		}
		for _, kind := range []int64{impl.NOps, impl.POps} {
			codes[checkWays(t, named(kind, fixities)).Code]++
		}
	}
	if codes[0] < 1000 || codes[1] < 500 {
		t.Errorf("codes %v", codes)
	}
}

func TestChainsInOrder(t *testing.T) {
	checkOrdered(t, inExp(), someTable(), [][2]string{
		{"a", "a"}, {"a+b", "( ( + ) a b )"}, {"a==b", "( ( == ) a b )"}, {"a^b", "( ( ^ ) a b )"}, {"a?b", "( ( ? ) a b )"}, {"a:b", "( ( : ) a b )"},
		{"a+b+c", "( ( + ) ( ( + ) a b ) c )"}, {"a+b-c+d", "( ( + ) ( ( - ) ( ( + ) a b ) c ) d )"}, {"a^b^c", "( ( ^ ) a ( ( ^ ) b c ) )"}, {"a^b^c^d", "( ( ^ ) a ( ( ^ ) b ( ( ^ ) c d ) ) )"}, {"a?b?c", "( ( ? ) ( ( ? ) a b ) c )"}, {"a:b:c", "( ( : ) a ( ( : ) b c ) )"},
		{"a+b*c", "( ( + ) a ( ( * ) b c ) )"}, {"a*b+c", "( ( + ) ( ( * ) a b ) c )"}, {"a*b+c*d", "( ( + ) ( ( * ) a b ) ( ( * ) c d ) )"}, {"a+b*c+d", "( ( + ) ( ( + ) a ( ( * ) b c ) ) d )"}, {"a^b**c^d", "( ( ^ ) a ( ( ^ ) ( ( ** ) b c ) d ) )"}, {"a+b==c*d", "( ( == ) ( ( + ) a b ) ( ( * ) c d ) )"},
		{"a==b+c", "( ( == ) a ( ( + ) b c ) )"}, {"a*b:c:d+e", "( ( : ) ( ( * ) a b ) ( ( : ) c ( ( + ) d e ) ) )"}, {"a?b*c", "( ( * ) ( ( ? ) a b ) c )"}, {"a%b==c%d", "( ( == ) ( ( % ) a b ) ( ( % ) c d ) )"}, {"a!b~c", "( ( ~ ) ( ( ! ) a b ) c )"},
		{"a`l`b`l`c", "( l ( l a b ) c )"}, {"a`r`b`r`c", "( r a ( r b c ) )"}, {"a`n`b", "( n a b )"}, {"a`f`b+c", "( ( + ) ( f a b ) c )"}, {"a`L`b`l`c", "( l ( L a b ) c )"}, {"a`R`b`r`c", "( R a ( r b c ) )"}, {"a`C`b`C`c", "( C ( C a b ) c )"}, {"a:+b:+c", "( ( :+ ) ( ( :+ ) a b ) c )"}, {"a:^b:^c", "( ( :^ ) a ( ( :^ ) b c ) )"}, {"a+b:+c:*d", "( ( :+ ) ( ( + ) a b ) ( ( :* ) c d ) )"},
		{"f a+g b c", "( ( + ) ( f a ) ( g b c ) )"}, {"(a+b)*c", "( ( * ) ( ( + ) a b ) c )"}, {"a*(b+c)", "( ( * ) a ( ( + ) b c ) )"}, {"a^(b^c)", "( ( ^ ) a ( ( ^ ) b c ) )"}, {"(a^b)^c", "( ( ^ ) ( ( ^ ) a b ) c )"}, {"(a==b)==c", "( ( == ) ( ( == ) a b ) c )"}, {"f(a+b)", "( f ( ( + ) a b ) )"}, {"(+)a b", "( ( + ) a b )"},
		{"a+ \\b->c*d+e", "( ( + ) a ( \\ b -> ( ( + ) ( ( * ) c d ) e ) ) )"}, {"if a+b then c*d else e^g", "( if ( ( + ) a b ) then ( ( * ) c d ) else ( ( ^ ) e g ) )"}, {"case a+b of{c->d+e;g|h*i->j}", "( case ( ( + ) a b ) of { c -> ( ( + ) d e ) ; g | ( ( * ) h i ) -> j } )"}, {"let{a=b+c}in d*e", "( let { a = ( ( + ) b c ) } in ( ( * ) d e ) )"},
		{"[a+b,c]", "[ ( ( + ) a b ) , c ]"}, {"(a+b,c)", "( ( ( + ) a b ) , c )"}, {"[a+b..c*d]", "[ ( ( + ) a b ) .. ( ( * ) c d ) ]"}, {"[a+b|c:d<-e*g,h==i]", "[ ( ( + ) a b ) | ( ( : ) c d ) <- ( ( * ) e g ) , ( ( == ) h i ) ]"}, {"1+'c'+\"s\"", "( ( + ) ( ( + ) 1 'c' ) \"s\" )"}, {"()+[]", "( ( + ) ( ) [ ] )"},
	})
	checkOrdered(t, inApat(), someTable(), [][2]string{
		{"(a:b)", "( ( : ) a b )"}, {"(a:b:c)", "( ( : ) a ( ( : ) b c ) )"}, {"(a:+b:+c)", "( ( :+ ) ( ( :+ ) a b ) c )"}, {"(a:+b:*c)", "( ( :+ ) a ( ( :* ) b c ) )"}, {"(a`L`b`L`c)", "( L ( L a b ) c )"}, {"(a`R`b`R`c)", "( R a ( R b c ) )"}, {"(a`C`b:c)", "( ( : ) ( C a b ) c )"}, {"((a:b):c)", "( ( : ) ( ( : ) a b ) c )"},
		{"(C a: -1:_)", "( ( : ) ( C a ) ( ( : ) ( - 1 ) _ ) )"}, {"(C(a:b))", "( C ( ( : ) a b ) )"}, {"(a:b,[c:d])", "( ( ( : ) a b ) , [ ( ( : ) c d ) ] )"}, {"a@(b:c)", "( a @ ( ( : ) b c ) )"}, {"~(b:c)", "( ~ ( ( : ) b c ) )"}, {"!(b:c)", "( ! ( ( : ) b c ) )"}, {"(a:%b)", "( ( :% ) a b )"},
	})
	checkOrdered(t, inTop(), someTable(), [][2]string{
		{"f(a:b)|c+d=e*g|h=i where{j(k:m)=n}", "f ( ( : ) a b ) | ( ( + ) c d ) = ( ( * ) e g ) | h = i where { j ( ( : ) k m ) = n }"}, {"instance K T where{f(a:b)=c+d}", "instance K T where { f ( ( : ) a b ) = ( ( + ) c d ) }"}, {"(a:b)+c=d", "( + ) ( ( : ) a b ) c = d"}, {"x= \\(a:b)->c", "x = ( \\ ( ( : ) a b ) -> c )"},
	})
}

func TestSigns(t *testing.T) {
	checkOrdered(t, inExp(), someTable(), [][2]string{
		{"-a", "( negate a )"}, {"-1", "( negate 1 )"}, {"-f a", "( negate ( f a ) )"}, {"-(a+b)", "( negate ( ( + ) a b ) )"}, {"-(-a)", "( negate ( negate a ) )"}, {"-(-(-a))", "( negate ( negate ( negate a ) ) )"}, {"(-a)", "( negate a )"}, {"f(-a)", "( f ( negate a ) )"},
		{"-a+b", "( ( + ) ( negate a ) b )"}, {"-a*b", "( ( * ) ( negate a ) b )"}, {"a+ -b", "( ( + ) a ( negate b ) )"}, {"a* -b*c", "( ( * ) ( ( * ) a ( negate b ) ) c )"}, {"a- -b", "( ( - ) a ( negate b ) )"}, {"-a - -b", "( ( - ) ( negate a ) ( negate b ) )"}, {"a== -b", "( ( == ) a ( negate b ) )"}, {"-a`l`b", "( l ( negate a ) b )"}, {"-a^ -b^ -c", "( ( ^ ) ( negate a ) ( ( ^ ) ( negate b ) ( negate c ) ) )"},
		{"-(a==b==c)", "?=="}, {"-negate a", "( negate ( negate a ) )"}, {"(-)a b", "( ( - ) a b )"},
	})
	checkOrdered(t, inExp(), []impl.Fixity{fixity("-", 2, 3), fixity("negate", 0, 0)}, [][2]string{{"-a", "( negate a )"}, {"-a- -b-c", "( ( - ) ( negate a ) ( ( - ) ( negate b ) c ) )"}, {"a`negate` -b", "( negate a ( negate b ) )"}, {"a`negate` b`negate`c", "?negate"}})
}

func TestSectionsStay(t *testing.T) {
	checkOrdered(t, inExp(), someTable(), [][2]string{
		{"(a+)", "( a + )"}, {"(+a)", "( + a )"}, {"(a`f`)", "( a ` f ` )"}, {"(:a)", "( : a )"}, {"(a+b*)", "( ( ( + ) a b ) * )"}, {"(+a*b)", "( + ( ( * ) a b ) )"}, {"(*a+b)", "( * ( ( + ) a b ) )"}, {"(a==b==)", "( ( ( == ) a b ) == )"}, {"(== a==b)", "( == ( ( == ) a b ) )"}, {"(a+(b*))", "( ( + ) a ( b * ) )"}, {"(a+)+(+b)+c", "( ( + ) ( ( + ) ( a + ) ( + b ) ) c )"},
		{"(-a+)", "( ( negate a ) + )"}, {"(+ -a)", "( + ( negate a ) )"}, {"(a==b==c+)", "?=="}, {"(+a==b==c)", "?=="}, {"((a+b+)-)", "( ( ( ( + ) a b ) + ) - )"},
	})
}

// The operators of one level, with sides that do not go together, at each place.
func TestClashes(t *testing.T) {
	checkOrdered(t, inExp(), someTable(), [][2]string{
		{"a+b^c", "?^"}, {"a^b+c", "?+"}, {"a%b%c", "?%"}, {"a+b%c", "?%"}, {"a%b+c", "?+"}, {"a^b%c", "?%"}, {"a%b^c", "?^"},
		{"a+b+c^d", "?^"}, {"a+b^c+d", "?^"}, {"a^b+c+d", "?+"}, {"a^b^c+d", "?+"}, {"a+b^c^d", "?^"}, {"a%b+c+d", "?+"}, {"a+b%c+d", "?%"}, {"a+b+c%d", "?%"}, {"a+b-c+d^e", "?^"}, {"a-b+c%d%e", "?%"}, {"a+b^c%d", "?^"},
		{"a+b*c^d", "?^"}, {"a*b+c*d^e*g", "?^"}, {"a%b*c%d", "?%"}, {"a==b+c==d", "?=="}, {"a==b+c++d", "?++"}, {"a++b+c^^d", "?^^"},
		{"a`l`b`r`c", "?r"}, {"a`r`b`l`c", "?l"}, {"a`n`b`n`c", "?n"}, {"a`L`b`r`c", "?r"}, {"a`l`b`R`c", "?R"}, {"a`n`b`N`c", "?N"}, {"a+b:^c", "?:^"}, {"a:^b:+c", "?:+"}, {"a:%b:%c", "?:%"}, {"a:b`C`c", "( ( : ) a ( C b c ) )"},
	})
	checkOrdered(t, inApat(), someTable(), [][2]string{{"(a:+b:^c)", "?:^"}, {"(a:^b:+c)", "?:+"}, {"(a:%b:%c)", "?:%"}, {"(a`L`b`R`c)", "?R"}, {"(a`N`b`N`c)", "?N"}, {"(a:+b:*c:^d)", "?:^"}, {"(C(a:%b:%c))", "?:%"}})
	inner := []impl.Fixity{fixity("+", 1, 1), fixity("^", 2, 1), fixity("-", -1, 2), fixity("%", -1, 2), fixity("*", 3, 2), fixity("/", 7, 20), fixity("&", 1, -5), fixity("|", 2, math.MinInt64), fixity("#", 1, math.MaxInt64), fixity("$", 1<<32+1, 30)}
	checkOrdered(t, inExp(), inner, [][2]string{
		{"a-b", "( ( - ) a b )"}, {"a-b-c", "?-"}, {"a-b%c", "?%"}, {"a*b*c", "?*"}, {"a-b*c", "?*"}, {"a/b/c", "?/"}, {"a/b", "( ( / ) a b )"}, {"a/b#c", "( ( / ) a ( ( # ) b c ) )"}, {"a&b+c&d", "( ( & ) ( ( & ) a ( ( + ) b c ) ) d )"}, {"a?b/c", "( ( ? ) a ( ( / ) b c ) )"}, {"a&b#c/d", "( ( & ) a ( ( / ) ( ( # ) b c ) d ) )"}, {"a$b$c", "?$"}, {"a+b/c^d", "?^"}, {"a/b+c/d", "( ( + ) ( ( / ) a b ) ( ( / ) c d ) )"},
	})
}

// Of several clashes the first one is told: in the kids of a node ahead of the node itself, in a chain from the whole of it inward, the left part ahead of the right one.
func TestFirstClash(t *testing.T) {
	checkOrdered(t, inExp(), someTable(), [][2]string{
		{"(a+b^c)%(d`l`e`r`g)", "?^"}, {"a%(d`l`e`r`g)%(a+b^c)", "?r"}, {"a%b%(c+d^e)", "?^"}, {"(c+d^e)%a%b", "?^"}, {"(a%b%c)+(d`l`e`r`g)", "?%"}, {"f(a+b^c)(d%e%g)", "?^"}, {"f(d%e%g)(a+b^c)", "?%"}, {"-(a%b%c)+d^e", "?%"},
		{"a*b**c+d%e", "?%"}, {"a+b%c*d**e", "?%"}, {"a*b**c+d%%e*g", "?**"}, {"a+b*c**d", "?**"}, {"a%%b%%c+d*e**g", "?%%"}, {"d*e**g+a%%b%%c", "?**"}, {"h+d*e**g+a%%b%%c", "?**"}, {"h^d*e**g^a%%b%%c", "?**"}, {"h^d*e^a%%b%%c", "?%%"}, {"h^d*e**g", "?**"},
		{"a*b**c==d+e^g", "?**"}, {"a+e*b**c==d+e^g", "?**"}, {"a+b*c**d^e==g", "?^"}, {"a==b+c*d**e==g", "?=="}, {"a+b^c==d%e%g", "?^"}, {"a+b==d%e%g", "?%"}, {"a%%b%%c+d%e", "?%"}, {"a++b%%c%%d++e+g^h", "?%%"}, {"a++b%d%%c%%d++e+g^h", "?%%"}, {"a++b%c%d%%e%%g++h", "?%"}, {"a++b^^c*d**e", "?^^"},
		{"if a+b^c then d%e%g else h", "?^"}, {"if a then d%e%g else b+c^d", "?%"}, {"[a+b^c|d%e%g]", "?^"}, {"[a|b:%c:%d<-e%g%h]", "?:%"}, {"[a|b<-e%g%h,c+d^e]", "?%"}, {"\\(a:%b:%c)->d%e%g", "?:%"}, {"case a%b%c of{d:%e:%g->h}", "?%"}, {"case a of{d:%e:%g->h+i^j;_->a%b%c}", "?:%"}, {"case a of{d|e%g%h->i+j^k}", "?%"}, {"case a of{d->i+j^k where{e=g%h%i}}", "?^"}, {"let{e=g%h%i}in i+j^k", "?%"}, {"let{e=g;h(a:%b:%c)=d%e%g}in i+j^k", "?:%"}, {"(a+b^c)d%e%g", "?^"}, {"(a+b^c*)%e%g", "?^"},
	})
	checkOrdered(t, inWhole(), someTable(), [][2]string{
		{"module M where{x=a+b^c;y=a%b%c}", "?^"}, {"module M where{y=a%b%c;x=a+b^c}", "?%"}, {"module M where{instance K T where{x=a:%b:%c;y=a%b%c};x=a+b^c}", "?:%"}, {"module M where{f|a=b|c=d%e%g|h+i^j=k}", "?%"}, {"module M where{f|a=b where{c=d%e%g};h=i+j^k}", "?%"},
	})
}
