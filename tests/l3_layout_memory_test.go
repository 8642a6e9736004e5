package tests

import (
	"math/rand/v2"
	"slices"
	"strings"
	"sync"
	"testing"

	"loop.example/g00017/impl"
)

func severalLists() [][]impl.Token {
	r := rand.New(rand.NewPCG(3, 5))
	lists := [][]impl.Token{nil, {}, layoutTokens(), oddTokens(), someTokens()}
	for range 40 {
		lists = append(lists, randomList(r, 30), randomOddList(r, 30))
	}
	return lists
}

func TestLayoutChangesNothing(t *testing.T) {
	behind := token(impl.TokWord, "where")
	for _, tokens := range severalLists() {
		room := append(slices.Clone(tokens), behind, behind)
		got := impl.Layout(room[:len(tokens)])
		if !slices.Equal(room[:len(tokens)], tokens) || room[len(tokens)] != behind || room[len(tokens)+1] != behind {
			t.Errorf("%s is changed", shownAt(tokens))
		}
		if !slices.Equal(got, impl.Layout(tokens)) {
			t.Errorf("%s hangs on what stands behind it", shownAt(tokens))
		}
	}
}

func TestLayoutAnswersAreNewMemory(t *testing.T) {
	spoilt := tokenAt(99, "spoilt", -1, -1)
	for _, tokens := range severalLists() {
		own := slices.Clone(tokens)
		first := impl.Layout(own)
		want := slices.Clone(first)
		room := first[:cap(first)]
		for i := range room {
			room[i] = spoilt
		}
		if !slices.Equal(own, tokens) {
			t.Errorf("%s shares memory with its answer", shownAt(tokens))
		}
		if again := impl.Layout(own); !slices.Equal(again, want) {
			t.Errorf("%s is laid out another way behind a change of its answer", shownAt(tokens))
		}
	}
}

func TestLayoutKeepsNothingOfTheTexts(t *testing.T) {
	for _, tokens := range severalLists() {
		own := slices.Clone(tokens)
		for i := range own {
			own[i].Text = strings.Clone(own[i].Text)
		}
		at := 0
		for _, tok := range impl.Layout(own) {
			if at == len(own) || tok != own[at] {
				continue
			}
			if within(tok.Text, own[at].Text) {
				t.Errorf("%v shares its text", tok)
			}
			at++
		}
	}
}

// Calls at the same time and in any order answer alike.
func TestLayoutAnswersHangOnArgumentsAlone(t *testing.T) {
	lists := severalLists()
	var want [][]impl.Token
	for _, tokens := range lists {
		want = append(want, impl.Layout(tokens))
	}
	var all sync.WaitGroup
	for worker := range 8 {
		all.Go(func() {
			for i := range lists {
				at := (i*7 + worker) % len(lists)
				if !slices.Equal(impl.Layout(lists[at]), want[at]) {
					t.Errorf("%s is laid out another way", shownAt(lists[at]))
				}
			}
		})
	}
	all.Wait()
}
