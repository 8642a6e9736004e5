package tests

import (
	"math/big"
	"testing"

	"loop.example/g00017/impl"
)

// wanted is what a sum, difference or product must be told as.
func wanted(v *big.Int) impl.BigResult {
	if !fits(v) {
		return impl.BigResult{Code: 2}
	}
	return impl.BigResult{Big: bigFrom(v)}
}

// floorPair is written by truncation, apart from how the program divides.
func floorPair(a *big.Int, b *big.Int) impl.BigPair {
	if b.Sign() == 0 {
		return impl.BigPair{Code: 3}
	}
	quot, rem := new(big.Int).QuoRem(a, b, new(big.Int))
	if rem.Sign()*b.Sign() < 0 {
		quot.Sub(quot, big.NewInt(1))
		rem.Add(rem, b)
	}
	return impl.BigPair{Quot: bigFrom(quot), Rem: bigFrom(rem)}
}

func TestBigSumsAndProducts(t *testing.T) {
	all := manyNumbers()
	for _, a := range all {
		for _, b := range all {
			x, y := bigFrom(a), bigFrom(b)
			if got := impl.BigAdd(x, y); !sameResult(got, wanted(new(big.Int).Add(a, b))) {
				t.Fatalf("%s + %s is %v", a, b, got)
			}
			if got := impl.BigSub(x, y); !sameResult(got, wanted(new(big.Int).Sub(a, b))) {
				t.Fatalf("%s - %s is %v", a, b, got)
			}
			if got := impl.BigMul(x, y); !sameResult(got, wanted(new(big.Int).Mul(a, b))) {
				t.Fatalf("%s * %s is %v", a, b, got)
			}
			if got := impl.BigDivMod(x, y); !samePair(got, floorPair(a, b)) {
				t.Fatalf("%s by %s is %v", a, b, got)
			}
		}
	}
}

func TestBigSmallNumbers(t *testing.T) {
	for a := int64(-40); a <= 40; a++ {
		for b := int64(-40); b <= 40; b++ {
			x, y := impl.BigOf(a), impl.BigOf(b)
			if impl.BigSmall(impl.BigAdd(x, y).Big).Value != a+b || impl.BigSmall(impl.BigSub(x, y).Big).Value != a-b || impl.BigSmall(impl.BigMul(x, y).Big).Value != a*b {
				t.Errorf("%d and %d", a, b)
			}
			if got := impl.BigDivMod(x, y); !samePair(got, floorPair(big.NewInt(a), big.NewInt(b))) {
				t.Errorf("%d by %d is %v", a, b, got)
			}
		}
	}
}

func TestBigDivModWritten(t *testing.T) {
	for _, c := range []struct{ a, b, quot, rem int64 }{
		{7, 2, 3, 1}, {-7, 2, -4, 1}, {7, -2, -4, -1}, {-7, -2, 3, -1},
		{6, 2, 3, 0}, {-6, 2, -3, 0}, {6, -2, -3, 0}, {-6, -2, 3, 0},
		{1, 5, 0, 1}, {-1, 5, -1, 4}, {1, -5, -1, -4}, {-1, -5, 0, -1},
		{0, 5, 0, 0}, {0, -5, 0, 0}, {5, 1, 5, 0}, {5, -1, -5, 0},
	} {
		want := impl.BigPair{Quot: impl.BigOf(c.quot), Rem: impl.BigOf(c.rem)}
		if got := impl.BigDivMod(impl.BigOf(c.a), impl.BigOf(c.b)); !samePair(got, want) {
			t.Errorf("%d by %d is %v", c.a, c.b, got)
		}
	}
}

// A quotient below 0 that is not whole is rounded through all its limbs.
func TestBigDivModCarries(t *testing.T) {
	for _, n := range []uint{32, 64, 320, mostBits - 1} {
		a := power(n, -1)
		a.Mul(a, big.NewInt(-2))
		a.Add(a, big.NewInt(-1))
		if fits(a) {
			got := impl.BigDivMod(bigFrom(a), impl.BigOf(2))
			if !samePair(got, impl.BigPair{Quot: bigFrom(new(big.Int).Neg(power(n, 0))), Rem: impl.BigOf(1)}) {
				t.Errorf("2^%d is not reached by rounding: %v", n, got)
			}
		}
	}
}

// Limbs of the kinds for which a guess of the quotient's limb may be too large, by one or by two.
func TestBigDivModGuesses(t *testing.T) {
	kinds := []uint32{0, 1, 3, 1<<31 - 1, 1 << 31, 1<<32 - 2, 1<<32 - 1}
	var dividends, divisors []impl.Big
	for _, a := range kinds {
		for _, b := range kinds {
			for _, c := range kinds[1:] {
				divisors = append(divisors, limbsOf(a, b, c))
				for _, d := range kinds[1:] {
					dividends = append(dividends, limbsOf(a, b, c, d))
				}
			}
			if b != 0 {
				divisors = append(divisors, limbsOf(a, b))
			}
		}
	}
	divisors = append(divisors, limbsOf(1, 0, 1<<29))
	dividends = append(dividends, limbsOf(3, 0, 1<<31))
	for _, a := range dividends {
		for _, b := range divisors {
			if got := impl.BigDivMod(a, b); !samePair(got, floorPair(valueOf(a), valueOf(b))) {
				t.Fatalf("%v by %v is %v", a, b, got)
			}
		}
	}
}

func TestBigDivModOfAllShifts(t *testing.T) {
	for n := range uint(mostBits) {
		for _, m := range []uint{0, 31, 32, 33, 47, 64, 95, 640} {
			for _, more := range []int64{-1, 0, 1} {
				a, b := power(n, more), power(m, -more)
				if got := impl.BigDivMod(bigFrom(a), bigFrom(b)); !samePair(got, floorPair(a, b)) {
					t.Fatalf("%s by %s is %v", a, b, got)
				}
			}
		}
	}
}

func TestBigDivModByZero(t *testing.T) {
	for _, a := range faultless() {
		for _, zero := range []impl.Big{{}, {Limbs: []uint32{}}} {
			if got := impl.BigDivMod(a, zero); !samePair(got, impl.BigPair{Code: 3}) {
				t.Errorf("%v by 0 is %v", a, got)
			}
		}
	}
	for _, a := range faulty() {
		if got := impl.BigDivMod(a, impl.Big{}); !samePair(got, impl.BigPair{Code: 1}) {
			t.Errorf("%v, a fault, by 0 is %v", a, got)
		}
	}
}

func TestBigSumsOfFaulty(t *testing.T) {
	for _, bad := range faulty() {
		for _, other := range append(faulty(), faultless()...) {
			for _, pair := range [][2]impl.Big{{bad, other}, {other, bad}} {
				for _, got := range []impl.BigResult{impl.BigAdd(pair[0], pair[1]), impl.BigSub(pair[0], pair[1]), impl.BigMul(pair[0], pair[1])} {
					if !sameResult(got, impl.BigResult{Code: 1}) {
						t.Errorf("of %v a fault is not told: %v", pair, got)
					}
				}
				if got := impl.BigDivMod(pair[0], pair[1]); !samePair(got, impl.BigPair{Code: 1}) {
					t.Errorf("of %v a fault is not told: %v", pair, got)
				}
			}
		}
	}
}

func TestBigCarriesThroughAllLimbs(t *testing.T) {
	one := impl.BigOf(1)
	for n := uint(1); n < mostBits; n++ {
		full, next := bigFrom(power(n, -1)), bigFrom(power(n, 0))
		if got := impl.BigAdd(full, one); !sameResult(got, impl.BigResult{Big: next}) {
			t.Errorf("2^%d - 1 + 1 is %v", n, got)
		}
		if got := impl.BigSub(next, one); !sameResult(got, impl.BigResult{Big: full}) {
			t.Errorf("2^%d - 1 is %v", n, got)
		}
		if got := impl.BigSub(next, next); !sameResult(got, impl.BigResult{}) {
			t.Errorf("2^%d less itself is %v", n, got)
		}
	}
}

func TestBigTooLarge(t *testing.T) {
	most, least := bigFrom(power(mostBits, -1)), bigFrom(new(big.Int).Neg(power(mostBits, -1)))
	one, zero, down := impl.BigOf(1), impl.BigOf(0), impl.BigOf(-1)
	low, high := bigFrom(power(mostBits/2, 0)), bigFrom(power(mostBits/2-1, 0))
	for i, got := range []impl.BigResult{
		impl.BigAdd(most, one), impl.BigAdd(one, most), impl.BigAdd(least, down), impl.BigAdd(most, most), impl.BigSub(most, down),
		impl.BigSub(least, one), impl.BigSub(down, most), impl.BigSub(most, least), impl.BigMul(most, impl.BigOf(2)), impl.BigMul(impl.BigOf(-2), most),
		impl.BigMul(low, low), impl.BigMul(most, most), impl.BigMul(most, least), impl.BigMul(least, least),
	} {
		if !sameResult(got, impl.BigResult{Code: 2}) {
			t.Errorf("row %d: %v is not too large", i, got)
		}
	}
	for i, c := range []struct{ got, want impl.BigResult }{
		{impl.BigAdd(most, zero), impl.BigResult{Big: most}}, {impl.BigAdd(most, least), impl.BigResult{}}, {impl.BigSub(most, most), impl.BigResult{}},
		{impl.BigSub(zero, most), impl.BigResult{Big: least}}, {impl.BigMul(most, one), impl.BigResult{Big: most}}, {impl.BigMul(most, down), impl.BigResult{Big: least}},
		{impl.BigMul(most, zero), impl.BigResult{}}, {impl.BigMul(zero, least), impl.BigResult{}},
		{impl.BigMul(low, high), impl.BigResult{Big: bigFrom(power(mostBits-1, 0))}},
	} {
		if !sameResult(c.got, c.want) {
			t.Errorf("row %d: %v is not %v", i, c.got, c.want)
		}
	}
	for _, a := range []impl.Big{most, least} {
		for _, b := range []impl.Big{most, least, one, down} {
			if got := impl.BigDivMod(a, b); !samePair(got, floorPair(valueOf(a), valueOf(b))) {
				t.Errorf("%v by %v is %v", a, b, got)
			}
		}
	}
}

func good(t *testing.T, r impl.BigResult) impl.Big {
	t.Helper()
	if r.Code != 0 || impl.BigFault(r.Big) {
		t.Fatalf("%v is no number", r)
	}
	return r.Big
}

// The laws of a ring with an order, by the program's own functions alone.
func TestBigRing(t *testing.T) {
	var some []impl.Big
	for _, text := range []string{"0", "1", "-1", "2", "-3", "4294967295", "-4294967296", "9223372036854775808", "-18446744073709551615", "340282366920938463463374607431768211455", "-100000000000000000000000000000000000000000000000000000000001"} {
		some = append(some, good(t, impl.BigRead(text)))
	}
	add := func(a, b impl.Big) impl.Big { return good(t, impl.BigAdd(a, b)) }
	sub := func(a, b impl.Big) impl.Big { return good(t, impl.BigSub(a, b)) }
	mul := func(a, b impl.Big) impl.Big { return good(t, impl.BigMul(a, b)) }
	zero, one := impl.BigOf(0), impl.BigOf(1)
	for _, a := range some {
		if !sameBig(add(a, zero), a) || !sameBig(mul(a, one), a) || !sameBig(mul(a, zero), zero) || !sameBig(sub(a, a), zero) || !sameBig(add(a, sub(zero, a)), zero) {
			t.Errorf("0 and 1 at %v", a)
		}
		for _, b := range some {
			if !sameBig(add(a, b), add(b, a)) || !sameBig(mul(a, b), mul(b, a)) || !sameBig(sub(a, b), add(a, mul(b, impl.BigOf(-1)))) || !sameBig(add(sub(a, b), b), a) {
				t.Errorf("two sides of %v and %v", a, b)
			}
			if impl.BigCompare(a, b) != -impl.BigCompare(b, a) || impl.BigCompare(a, b) != impl.BigCompare(sub(a, b), zero) || (impl.BigCompare(a, b) == 0) != sameBig(a, b) {
				t.Errorf("the order of %v and %v", a, b)
			}
			for _, c := range some {
				if !sameBig(add(add(a, b), c), add(a, add(b, c))) || !sameBig(mul(mul(a, b), c), mul(a, mul(b, c))) || !sameBig(mul(a, add(b, c)), add(mul(a, b), mul(a, c))) {
					t.Errorf("three of %v, %v and %v", a, b, c)
				}
				if impl.BigCompare(add(a, c), add(b, c)) != impl.BigCompare(a, b) || impl.BigCompare(mul(a, c), mul(b, c)) != impl.BigCompare(a, b)*impl.BigCompare(c, zero) {
					t.Errorf("the order of %v and %v with %v", a, b, c)
				}
			}
		}
	}
}

// What division says, by the program's own functions: a is q times b and r more, and r lies between 0 and b.
func TestBigDivModLaws(t *testing.T) {
	zero := impl.BigOf(0)
	for _, v := range manyNumbers() {
		for _, w := range manyNumbers() {
			if w.Sign() == 0 {
				continue
			}
			a, b := bigFrom(v), bigFrom(w)
			p := impl.BigDivMod(a, b)
			if p.Code != 0 || impl.BigFault(p.Quot) || impl.BigFault(p.Rem) {
				t.Fatalf("%s by %s is %v", v, w, p)
			}
			side := impl.BigCompare(b, zero)
			if r := impl.BigCompare(p.Rem, zero); r != 0 && r != side || impl.BigCompare(p.Rem, b) != -side {
				t.Fatalf("%s by %s leaves %v", v, w, p.Rem)
			}
			// The whole part may be too large where a is not; then both tell it.
			if !sameResult(impl.BigSub(a, p.Rem), impl.BigMul(p.Quot, b)) {
				t.Fatalf("%s by %s is %v", v, w, p)
			}
		}
	}
}
