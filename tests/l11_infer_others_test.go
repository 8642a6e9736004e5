package tests

import (
	"math/rand/v2"
	"testing"
)

// What was made for the layers below is typed, too, as the second reading has it.
func TestProgramsOfOtherLayersAreTyped(t *testing.T) {
	codes := map[int64]int{}
	lists := append(tableLists(t), severalPrograms(t)...)
	m := &declMaker{Rand: rand.New(rand.NewPCG(11, 9))}
	for range 150 {
		lists = append(lists, m.modules(t))
	}
	for _, list := range lists {
		codes[checkInferred(t, list).Code]++
	}
	if codes[0] < 50 || codes[1] < 50 || codes[2] < 50 {
		t.Errorf("codes %v", codes)
	}
}
