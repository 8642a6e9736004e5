package tests

import (
	"math"
	"testing"

	"loop.example/g00017/impl"
)

// standsSlowly has the rows of the document: for each end of the first run, what the second one may be.
func standsSlowly(a, b impl.Outcome) bool {
	same := a.Out == b.Out
	begins := same
	for i := range len(a.Out) {
		begins = begins || a.Out[:i] == b.Out
	}
	for i := range len(b.Out) {
		begins = begins || b.Out[:i] == a.Out
	}
	switch a.End {
	case 0:
		return same && b.End == 0
	case 1, 2:
		return same && (b.End == 1 || b.End == 2 || b.End == 3 || b.End == 6 || b.End == 8)
	case 4:
		return same && b.End == 4
	case 5, 7:
		return true
	}
	return begins
}

func TestStands(t *testing.T) {
	ends := []int64{impl.EndDone, impl.EndError, impl.EndLoop, impl.EndSteps, impl.EndOut, impl.EndStuck, impl.EndDeep, impl.EndBad, impl.EndHeap, 9, -1, 100, 1 << 32, 1<<32 + 1, math.MaxInt64, math.MinInt64}
	outs := []string{"", "a", "b", "ab", "abc", "ba", "aab", "\x00", "a\n", "A"}
	count := 0
	for _, x := range ends {
		for _, y := range ends {
			for _, out := range outs {
				for _, other := range outs {
					a, b := impl.Outcome{End: x, Out: out}, impl.Outcome{End: y, Out: other}
					want := standsSlowly(a, b)
					if got := impl.Stands(a, b); got != want {
						t.Errorf("%v for %v: %v", b, a, got)
					}
					// Neither errors' texts nor steps are asked for.
					a.Error, a.Steps, b.Error, b.Steps = "one", 7, "two", 9
					if got := impl.Stands(a, b); got != want {
						t.Errorf("%v for %v: %v", b, a, got)
					}
					if want {
						count++
					}
				}
			}
		}
	}
	if count < 1000 {
		t.Errorf("%d stand", count)
	}
}

func TestStandsByRows(t *testing.T) {
	run := func(end int64, out string) impl.Outcome { return impl.Outcome{End: end, Out: out} }
	for i, row := range []struct {
		a, b impl.Outcome
		want bool
	}{
		{run(impl.EndBad, ""), run(impl.EndDone, "a"), true},
		{run(impl.EndBad, ""), run(impl.EndBad, ""), true},
		{run(impl.EndStuck, "a"), run(impl.EndHeap, "b"), true},
		{run(impl.EndStuck, "a"), run(77, "b"), true},
		{run(impl.EndDone, "a"), run(impl.EndDone, "a"), true},
		{run(impl.EndDone, "a"), run(impl.EndDone, ""), false},
		{run(impl.EndDone, "a"), run(impl.EndSteps, "a"), false},
		{run(impl.EndDone, "a"), run(impl.EndHeap, "a"), false},
		{run(impl.EndDone, "a"), run(impl.EndOut, "a"), false},
		{run(impl.EndOut, "a"), run(impl.EndOut, "a"), true},
		{run(impl.EndOut, "a"), run(impl.EndOut, "ab"), false},
		{run(impl.EndOut, "a"), run(impl.EndDeep, "a"), false},
		{run(impl.EndError, "a"), run(impl.EndError, "a"), true},
		{run(impl.EndError, "a"), run(impl.EndLoop, "a"), true},
		{run(impl.EndError, "a"), run(impl.EndSteps, "a"), true},
		{run(impl.EndError, "a"), run(impl.EndDeep, "a"), true},
		{run(impl.EndError, "a"), run(impl.EndHeap, "a"), true},
		{run(impl.EndError, "a"), run(impl.EndSteps, ""), false},
		{run(impl.EndError, "a"), run(impl.EndHeap, "ab"), false},
		{run(impl.EndError, "a"), run(impl.EndDone, "a"), false},
		{run(impl.EndError, "a"), run(impl.EndStuck, "a"), false},
		{run(impl.EndError, "a"), run(impl.EndBad, "a"), false},
		{run(impl.EndLoop, "a"), run(impl.EndError, "a"), true},
		{run(impl.EndLoop, "a"), run(impl.EndHeap, "a"), true},
		{run(impl.EndLoop, "a"), run(impl.EndOut, "a"), false},
		{run(impl.EndSteps, "a"), run(impl.EndDone, "ab"), true},
		{run(impl.EndSteps, "ab"), run(impl.EndDone, "a"), true},
		{run(impl.EndSteps, "ab"), run(impl.EndDone, "b"), false},
		{run(impl.EndDeep, ""), run(impl.EndStuck, "b"), true},
		{run(impl.EndHeap, "ab"), run(impl.EndBad, ""), true},
		{run(impl.EndHeap, "ab"), run(impl.EndError, "ac"), false},
		{run(42, "a"), run(-42, "ab"), true},
		{run(42, "a"), run(impl.EndDone, "b"), false},
	} {
		if got := impl.Stands(row.a, row.b); got != row.want {
			t.Errorf("row %d: %v", i, got)
		}
	}
}
