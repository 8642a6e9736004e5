package tests

import (
	"fmt"
	"math/big"
	"slices"
	"testing"

	"loop.example/g00017/impl"
)

// roomOf shows a list with what lies behind its end.
func roomOf(b impl.Big) []uint32 {
	return b.Limbs[:cap(b.Limbs)]
}

func spoil(b impl.Big) {
	room := roomOf(b)
	for i := range room {
		room[i] = ^room[i]
	}
}

func copyOf(b impl.Big) impl.Big {
	return impl.Big{Minus: b.Minus, Limbs: slices.Clone(b.Limbs)}
}

// A bigAnswer is what a function answers: its lists, and all else as a text.
type bigAnswer struct {
	told  string
	lists []impl.Big
}

type bigCall struct {
	name string
	ask  func(a, b impl.Big) bigAnswer
}

func resultCall(name string, f func(a impl.Big, b impl.Big) impl.BigResult) bigCall {
	return bigCall{name, func(a, b impl.Big) bigAnswer {
		r := f(a, b)
		return bigAnswer{fmt.Sprint(r.Code), []impl.Big{r.Big}}
	}}
}

// codedCalls answer numbers with a code.
func codedCalls() []bigCall {
	return []bigCall{
		resultCall("BigAdd", impl.BigAdd), resultCall("BigSub", impl.BigSub), resultCall("BigMul", impl.BigMul),
		{"BigDivMod", func(a, b impl.Big) bigAnswer {
			p := impl.BigDivMod(a, b)
			return bigAnswer{fmt.Sprint(p.Code), []impl.Big{p.Quot, p.Rem}}
		}},
	}
}

// bigCalls are all functions of numbers; those of one are asked at the first.
func bigCalls() []bigCall {
	return append(codedCalls(),
		bigCall{"BigCompare", func(a, b impl.Big) bigAnswer { return bigAnswer{told: fmt.Sprint(impl.BigCompare(a, b))} }},
		bigCall{"BigFault", func(a, b impl.Big) bigAnswer { return bigAnswer{told: fmt.Sprint(impl.BigFault(a))} }},
		bigCall{"BigSmall", func(a, b impl.Big) bigAnswer { return bigAnswer{told: fmt.Sprint(impl.BigSmall(a))} }},
		bigCall{"BigText", func(a, b impl.Big) bigAnswer { return bigAnswer{told: impl.BigText(a)} }},
	)
}

func sameAnswer(a bigAnswer, b bigAnswer) bool {
	return a.told == b.told && slices.EqualFunc(a.lists, b.lists, sameBig)
}

// someArguments go through every branch: zeros, both signs, one limb and many, the longest, faults.
func someArguments() []impl.Big {
	out := append(faulty(), faultless()...)
	for _, v := range []*big.Int{big.NewInt(5), big.NewInt(-5), power(64, -1), power(96, 3), power(mostBits, -1), power(700, 12345)} {
		out = append(out, bigFrom(v), bigFrom(new(big.Int).Neg(v)))
	}
	return out
}

// eachCall asks for every function at every pair of arguments, which have memory of their own each time.
func eachCall(calls []bigCall, look func(c bigCall, a, b impl.Big)) {
	some := someArguments()
	for _, c := range calls {
		for _, x := range some {
			for _, y := range some {
				look(c, withSpare(x), withSpare(y))
			}
		}
	}
}

func TestBigArgumentsStay(t *testing.T) {
	eachCall(bigCalls(), func(c bigCall, a, b impl.Big) {
		first, second := slices.Clone(roomOf(a)), slices.Clone(roomOf(b))
		c.ask(a, b)
		if !slices.Equal(first, roomOf(a)) || !slices.Equal(second, roomOf(b)) {
			t.Fatalf("%s changes an argument: %v, %v", c.name, a, b)
		}
	})
}

func TestBigAnswersAreNewMemory(t *testing.T) {
	eachCall(codedCalls(), func(c bigCall, a, b impl.Big) {
		got := c.ask(a, b)
		var want []impl.Big
		for _, list := range got.lists {
			want = append(want, copyOf(list))
		}
		spoil(a)
		spoil(b)
		for i, list := range got.lists {
			if !sameBig(list, want[i]) {
				t.Fatalf("%s answers %v in memory of an argument, or of a list ahead", c.name, want)
			}
			spoil(list)
		}
	})
}

func TestBigOneMemoryTwice(t *testing.T) {
	for _, c := range bigCalls() {
		for _, x := range someArguments() {
			a := withSpare(x)
			got, want := c.ask(a, a), c.ask(copyOf(x), copyOf(x))
			if !sameAnswer(got, want) || !sameBig(a, x) {
				t.Fatalf("%s of %v twice is %v", c.name, x, got)
			}
		}
	}
}

func TestBigAnswersHangOnArgumentsAlone(t *testing.T) {
	eachCall(bigCalls(), func(c bigCall, a, b impl.Big) {
		first := c.ask(a, b)
		c.ask(b, a)
		if again := c.ask(copyOf(a), copyOf(b)); !sameAnswer(first, again) {
			t.Fatalf("%s of %v, %v is %v and then %v", c.name, a, b, first, again)
		}
	})
}

func TestBigOfAndReadGiveNewMemory(t *testing.T) {
	for _, v := range []int64{0, 1, -1, 1 << 40, -1 << 63} {
		first := impl.BigOf(v)
		want := copyOf(first)
		spoil(first)
		if !sameBig(impl.BigOf(v), want) {
			t.Errorf("BigOf(%d) gives the same memory again", v)
		}
	}
	for _, text := range []string{"0", "7", "-7", "123456789012345678901234567890"} {
		first := impl.BigRead(text).Big
		want := copyOf(first)
		spoil(first)
		if !sameBig(impl.BigRead(text).Big, want) {
			t.Errorf("BigRead(%q) gives the same memory again", text)
		}
	}
}

// With a code that is not 0 all else is zero; with 0 there is no fault.
func TestBigCodesStandAlone(t *testing.T) {
	eachCall(codedCalls(), func(c bigCall, a, b impl.Big) {
		got := c.ask(a, b)
		for _, list := range got.lists {
			if impl.BigFault(list) || got.told != "0" && !sameBig(list, impl.Big{}) {
				t.Fatalf("%s of %v, %v is %v", c.name, a, b, got)
			}
		}
	})
}
