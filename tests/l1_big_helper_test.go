package tests

import (
	"math/big"
	"math/rand/v2"
	"slices"
	"testing"

	"loop.example/g00017/impl"
)

// spareLimb fills the room behind a list's end, so that a write there is seen.
const spareLimb = 0xabadcafe

// bigFrom makes the number in memory with room behind its end.
func bigFrom(v *big.Int) impl.Big {
	var limbs []uint32
	size := new(big.Int).Abs(v)
	mask := big.NewInt(1<<32 - 1)
	for size.Sign() != 0 {
		limbs = append(limbs, uint32(new(big.Int).And(size, mask).Uint64()))
		size.Rsh(size, 32)
	}
	return withSpare(impl.Big{Minus: v.Sign() < 0, Limbs: limbs})
}

func withSpare(b impl.Big) impl.Big {
	room := append(slices.Clone(b.Limbs), spareLimb, spareLimb, spareLimb)
	return impl.Big{Minus: b.Minus, Limbs: room[:len(b.Limbs)]}
}

func limbsOf(limbs ...uint32) impl.Big {
	return impl.Big{Limbs: limbs}
}

func minusOf(limbs ...uint32) impl.Big {
	return impl.Big{Minus: true, Limbs: limbs}
}

// valueOf does not ask for the one form of a number.
func valueOf(b impl.Big) *big.Int {
	v := new(big.Int)
	for i := len(b.Limbs) - 1; i >= 0; i-- {
		v.Lsh(v, 32)
		v.Or(v, big.NewInt(int64(b.Limbs[i])))
	}
	if b.Minus {
		v.Neg(v)
	}
	return v
}

func sameBig(a impl.Big, b impl.Big) bool {
	return a.Minus == b.Minus && slices.Equal(a.Limbs, b.Limbs)
}

func samePair(a impl.BigPair, b impl.BigPair) bool {
	return a.Code == b.Code && sameBig(a.Quot, b.Quot) && sameBig(a.Rem, b.Rem)
}

func sameResult(a impl.BigResult, b impl.BigResult) bool {
	return a.Code == b.Code && sameBig(a.Big, b.Big)
}

func number(t *testing.T, text string) *big.Int {
	t.Helper()
	v, ok := new(big.Int).SetString(text, 10)
	if !ok {
		t.Fatalf("%q is no number", text)
	}
	return v
}

// power is 2^n + more.
func power(n uint, more int64) *big.Int {
	v := new(big.Int).Lsh(big.NewInt(1), n)
	return v.Add(v, big.NewInt(more))
}

const mostBits = 32 * impl.MaxLimbs

func fits(v *big.Int) bool {
	return v.BitLen() <= mostBits
}

// manyNumbers are those with edges (of limbs, of int64, of MaxLimbs, of nine digits), others with limbs of all kinds, and all of them below 0.
func manyNumbers() []*big.Int {
	up := []*big.Int{big.NewInt(0)}
	for _, v := range []int64{1, 2, 3, 5, 7, 9, 10, 97, 999999999, 1000000000, 1000000001, 999999999999999999, 1000000000000000000} {
		up = append(up, big.NewInt(v))
	}
	for _, n := range []uint{31, 32, 33, 63, 64, 65, 96, mostBits/2 - 1, mostBits / 2, mostBits/2 + 1, mostBits - 33, mostBits - 32, mostBits - 1} {
		up = append(up, power(n, -1), power(n, 0), power(n, 1))
	}
	up = append(up, power(mostBits, -1), power(mostBits, -2))
	kinds := []uint32{0, 1, 1<<31 - 1, 1 << 31, 1<<32 - 2, 1<<32 - 1}
	random := rand.New(rand.NewPCG(1, 2))
	for count := 1; count <= impl.MaxLimbs; count++ {
		mixed, plain := make([]uint32, count), make([]uint32, count)
		for i := range count {
			mixed[i] = kinds[random.IntN(len(kinds))]
			plain[i] = random.Uint32()
		}
		up = append(up, valueOf(limbsOf(mixed...)), valueOf(limbsOf(plain...)))
	}
	all := slices.Clone(up)
	for _, v := range up[1:] {
		all = append(all, new(big.Int).Neg(v))
	}
	return all
}

// faulty are the kinds of fault, each with and without a sign where both can be.
func faulty() []impl.Big {
	tooMany := make([]uint32, impl.MaxLimbs+1)
	for i := range tooMany {
		tooMany[i] = 7
	}
	manyZeros := make([]uint32, impl.MaxLimbs+1)
	endsInZero := make([]uint32, impl.MaxLimbs)
	endsInZero[0] = 1
	far := make([]uint32, 100*impl.MaxLimbs)
	far[len(far)-1] = 1
	return []impl.Big{
		minusOf(), {Minus: true, Limbs: []uint32{}},
		limbsOf(0), minusOf(0), limbsOf(1, 0), minusOf(1, 0), limbsOf(0, 0),
		limbsOf(endsInZero...), minusOf(endsInZero...),
		limbsOf(tooMany...), minusOf(tooMany...), limbsOf(manyZeros...), limbsOf(far...), minusOf(far...),
	}
}

// faultless are beside the faulty ones: as long as a number may be, zeros below the last limb, zero in both its memories.
func faultless() []impl.Big {
	longest := make([]uint32, impl.MaxLimbs)
	longest[impl.MaxLimbs-1] = 1
	return []impl.Big{
		{}, {Limbs: []uint32{}}, limbsOf(1), minusOf(1), limbsOf(0, 1), minusOf(0, 0, 1),
		limbsOf(longest...), minusOf(longest...), limbsOf(1<<32 - 1),
	}
}
