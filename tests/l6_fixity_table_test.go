package tests

import (
	"math"
	"math/rand/v2"
	"strings"
	"testing"

	"loop.example/g00017/impl"
)

func TestFixityOf(t *testing.T) {
	long := strings.Repeat("a", 100000)
	rows := []struct {
		table []impl.Fixity
		name  string
		want  impl.Fixity
	}{
		{nil, "+", fixity("+", 1, 9)}, {[]impl.Fixity{}, "+", fixity("+", 1, 9)}, {nil, ":", fixity(":", 2, 5)}, {[]impl.Fixity{}, ":", fixity(":", 2, 5)},
		{nil, "", fixity("", 1, 9)}, {nil, "::", fixity("::", 1, 9)}, {nil, ": ", fixity(": ", 1, 9)}, {nil, ":+", fixity(":+", 1, 9)}, {nil, "f", fixity("f", 1, 9)}, {nil, "\x00\xff", fixity("\x00\xff", 1, 9)}, {nil, long, fixity(long, 1, 9)},
		{[]impl.Fixity{fixity("+", 0, 4)}, "+", fixity("+", 0, 4)}, {[]impl.Fixity{fixity("+", 2, 0)}, "+", fixity("+", 2, 0)}, {[]impl.Fixity{fixity("+", 0, 4)}, "-", fixity("-", 1, 9)}, {[]impl.Fixity{fixity("+", 0, 4)}, "++", fixity("++", 1, 9)}, {[]impl.Fixity{fixity("++", 0, 4)}, "+", fixity("+", 1, 9)},
		{[]impl.Fixity{fixity("+", 0, 4), fixity("+", 2, 6)}, "+", fixity("+", 0, 4)}, {[]impl.Fixity{fixity("-", 1, 1), fixity("+", 2, 6), fixity("-", 2, 2), fixity("+", 0, 4)}, "+", fixity("+", 2, 6)}, {[]impl.Fixity{fixity("+", 0, 0), fixity("+", 2, 6)}, "+", fixity("+", 0, 0)},
		{[]impl.Fixity{fixity("-", 1, 1), fixity("-", 2, 2), fixity("+", 2, 6)}, "+", fixity("+", 2, 6)}, {[]impl.Fixity{fixity("+", 1, 9), fixity("+", 2, 6)}, "+", fixity("+", 1, 9)},
		{[]impl.Fixity{fixity("+", 0, 4)}, ":", fixity(":", 2, 5)}, {[]impl.Fixity{fixity(":", 1, 9)}, ":", fixity(":", 1, 9)}, {[]impl.Fixity{fixity(":", 0, 0)}, ":", fixity(":", 0, 0)}, {[]impl.Fixity{fixity("+", 1, 1), fixity(":", 0, 3), fixity(":", 1, 2)}, ":", fixity(":", 0, 3)}, {[]impl.Fixity{fixity("", 0, 3)}, "", fixity("", 0, 3)},
		{[]impl.Fixity{{}}, "", impl.Fixity{}}, {[]impl.Fixity{{}}, "+", fixity("+", 1, 9)}, {[]impl.Fixity{fixity("+", -1, 10)}, "+", fixity("+", -1, 10)}, {[]impl.Fixity{fixity("+", math.MinInt64, math.MaxInt64)}, "+", fixity("+", math.MinInt64, math.MaxInt64)}, {[]impl.Fixity{fixity("+", 3, -1)}, "+", fixity("+", 3, -1)},
	}
	for _, row := range rows {
		if got := impl.FixityOf(row.table, row.name); got != row.want {
			t.Errorf("%.50q by %v is %v, not %v", row.name, row.table, got, row.want)
		}
	}
}

func TestFixityOfDrawnTables(t *testing.T) {
	r := rand.New(rand.NewPCG(6, 1))
	names := []string{"", "+", ":", "++", ":+", "f", "C"}
	for range 5000 {
		var table []impl.Fixity
		for range r.IntN(8) {
			table = append(table, fixity(names[r.IntN(len(names))], r.Int64N(5)-1, r.Int64N(12)-1))
		}
		for _, name := range names {
			if got, want := impl.FixityOf(table, name), fixitySlowly(table, name); got != want {
				t.Fatalf("%q by %v is %v, not %v", name, table, got, want)
			}
		}
	}
}

func TestFixityOfLongTable(t *testing.T) {
	table := make([]impl.Fixity, 200000)
	for i := range table {
		table[i] = fixity(strings.Repeat("+", 1+i%300), int64(i), int64(i))
	}
	for _, count := range []int{1, 300, 301} {
		want := fixity(strings.Repeat("+", count), int64(count-1), int64(count-1))
		if count > 300 {
			want.Side, want.Level = 1, 9
		}
		if got := impl.FixityOf(table, want.Name); got != want {
			t.Errorf("%v is not %v", got, want)
		}
	}
}
