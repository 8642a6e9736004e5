package tests

import (
	"math"
	"math/big"
	"slices"
	"strings"
	"testing"

	"loop.example/g00017/impl"
)

func TestBigFault(t *testing.T) {
	for _, b := range faulty() {
		if !impl.BigFault(b) {
			t.Errorf("%v has a fault that is not told", b)
		}
	}
	for _, b := range faultless() {
		if impl.BigFault(b) {
			t.Errorf("%v has no fault", b)
		}
	}
}

func TestBigOfAndSmall(t *testing.T) {
	values := []int64{0, math.MinInt64, math.MinInt64 + 1, math.MinInt64 + 2, math.MaxInt64, math.MaxInt64 - 1}
	for shift := range 63 {
		v := int64(1) << shift
		values = append(values, v-1, v, v+1, -v-1, -v, 1-v)
	}
	for _, v := range values {
		b := impl.BigOf(v)
		if impl.BigFault(b) || valueOf(b).Cmp(big.NewInt(v)) != 0 {
			t.Errorf("BigOf(%d) is %v", v, b)
		}
		if got := impl.BigSmall(b); got != (impl.SmallResult{Good: true, Value: v}) {
			t.Errorf("BigSmall of %d is %v", v, got)
		}
	}
	for _, c := range []struct {
		v    int64
		want impl.Big
	}{
		{0, impl.Big{}}, {1, limbsOf(1)}, {-1, minusOf(1)}, {1<<32 - 1, limbsOf(1<<32 - 1)}, {1 << 32, limbsOf(0, 1)},
		{math.MaxInt64, limbsOf(1<<32-1, 1<<31-1)}, {math.MinInt64, minusOf(0, 1<<31)},
	} {
		if got := impl.BigOf(c.v); !sameBig(got, c.want) {
			t.Errorf("BigOf(%d) is %v, not %v", c.v, got, c.want)
		}
	}
}

func TestBigSmallOutside(t *testing.T) {
	none := append(faulty(), limbsOf(0, 1<<31), limbsOf(1<<32-1, 1<<32-1), minusOf(1, 1<<31), minusOf(1<<32-1, 1<<32-1), limbsOf(0, 0, 1), minusOf(0, 0, 1), limbsOf(5, 0, 1))
	for _, b := range none {
		if got := impl.BigSmall(b); got != (impl.SmallResult{}) {
			t.Errorf("BigSmall(%v) is %v", b, got)
		}
	}
	for _, v := range manyNumbers() {
		want := impl.SmallResult{}
		if v.IsInt64() {
			want = impl.SmallResult{Good: true, Value: v.Int64()}
		}
		if got := impl.BigSmall(bigFrom(v)); got != want {
			t.Errorf("BigSmall of %s is %v", v, got)
		}
	}
}

func TestBigTextsAreReadBack(t *testing.T) {
	for _, v := range manyNumbers() {
		b := bigFrom(v)
		text := impl.BigText(b)
		if text != v.String() {
			t.Errorf("BigText of %s is %q", v, text)
		}
		if got := impl.BigRead(v.String()); !sameResult(got, impl.BigResult{Big: b}) {
			t.Errorf("BigRead(%q) is %v", v, got)
		}
	}
}

func TestBigTextsOfAllLengths(t *testing.T) {
	for _, start := range []string{"1", "9", "-1", "-9", "123456789", "-100000000"} {
		for length := range 387 {
			for _, more := range []string{"0", "9", "1"} {
				text := start + strings.Repeat(more, length)
				want := impl.BigResult{Code: 2}
				if v := number(t, text); fits(v) {
					want = impl.BigResult{Big: bigFrom(v)}
				}
				got := impl.BigRead(text)
				if !sameResult(got, want) {
					t.Fatalf("BigRead(%q) is %v", text, got)
				}
				if got.Code == 0 && impl.BigText(got.Big) != text {
					t.Fatalf("%q is told as %q", text, impl.BigText(got.Big))
				}
			}
		}
	}
}

func TestBigTextOfFaulty(t *testing.T) {
	for _, b := range faulty() {
		if got := impl.BigText(b); got != "" {
			t.Errorf("BigText(%v) is %q", b, got)
		}
	}
}

func TestBigReadOfOtherTexts(t *testing.T) {
	long := strings.Repeat("1234567890", 100000)
	wrong := []string{
		"", "-", "--1", "-0", "+0", "+1", "00", "01", "-01", "-00", "000000000", "0000000001", " 1", "1 ", "- 1", "1\n", "\t1", "1-", "1-1",
		"a", "1a", "a1", "0x10", "1e3", "1.0", "1_000", "1,000", "/", ":", "1/", "1:", "\x00", "1\x00", "\xff", "1\xff",
		"\u0661", "\uff11", "\u22121", "nil", strings.Repeat("0", 500), "0" + long, "-0" + long, long + "x", "x" + long, "-" + long + "-",
	}
	for _, text := range wrong {
		if got := impl.BigRead(text); !sameResult(got, impl.BigResult{Code: 1}) {
			t.Errorf("BigRead(%.20q, %d bytes) is %v", text, len(text), got)
		}
	}
	for _, text := range []string{long, "-" + long} {
		if got := impl.BigRead(text); !sameResult(got, impl.BigResult{Code: 2}) {
			t.Errorf("BigRead of %d digits is %v", len(text), got)
		}
	}
}

// Each byte in each place of a short text: what is read is told as that text.
func TestBigReadHasOneForm(t *testing.T) {
	for first := range 256 {
		for second := range 256 {
			for _, text := range []string{string([]byte{byte(first)}), string([]byte{byte(first), byte(second)}), string([]byte{byte(first), byte(second), '0'})} {
				got := impl.BigRead(text)
				if got.Code == 0 && impl.BigText(got.Big) != text {
					t.Fatalf("%q is read as %v", text, got)
				}
				v, ok := new(big.Int).SetString(text, 10)
				if (got.Code == 0) != (ok && v.String() == text) {
					t.Fatalf("%q is read with the code %d", text, got.Code)
				}
			}
		}
	}
}

func TestBigReadAtTheMost(t *testing.T) {
	for more := int64(-3); more <= 3; more++ {
		for _, sign := range []int64{1, -1} {
			v := power(mostBits, more)
			v.Mul(v, big.NewInt(sign))
			want := impl.BigResult{Code: 2}
			if more < 0 {
				want = impl.BigResult{Big: bigFrom(v)}
			}
			if got := impl.BigRead(v.String()); !sameResult(got, want) {
				t.Errorf("BigRead(%s) is %v", v, got)
			}
		}
	}
	for length := 387; length < 900; length++ {
		for _, text := range []string{strings.Repeat("9", length), "1" + strings.Repeat("0", length-1), "-" + strings.Repeat("9", length)} {
			if got := impl.BigRead(text); !sameResult(got, impl.BigResult{Code: 2}) {
				t.Errorf("BigRead of %d digits is %v", length, got)
			}
		}
	}
}

func TestBigCompare(t *testing.T) {
	all := manyNumbers()
	for _, a := range all {
		for _, b := range all {
			if got := impl.BigCompare(bigFrom(a), bigFrom(b)); got != int64(a.Cmp(b)) {
				t.Fatalf("BigCompare of %s and %s is %d", a, b, got)
			}
		}
	}
	sorted := slices.Clone(all)
	slices.SortFunc(sorted, func(a, b *big.Int) int { return int(impl.BigCompare(bigFrom(a), bigFrom(b))) })
	if !slices.IsSortedFunc(sorted, (*big.Int).Cmp) {
		t.Error("BigCompare sorts otherwise than the numbers stand")
	}
}

func TestBigCompareOfFaulty(t *testing.T) {
	for _, bad := range faulty() {
		for _, other := range append(faulty(), faultless()...) {
			if impl.BigCompare(bad, other) != -2 || impl.BigCompare(other, bad) != -2 {
				t.Errorf("BigCompare of %v and %v tells no fault", bad, other)
			}
		}
	}
}
