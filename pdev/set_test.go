package pdev

import (
	"math"
	"slices"
	"testing"
)

func TestSetOfAnyOrderedType(t *testing.T) { // Ways of chapter 4
	var words set[string]
	for _, x := range []string{"lime", "kiln", "", "lime", "stone", "kiln", ""} {
		words.add(x)
	}
	if !slices.Equal(words.items, []string{"", "kiln", "lime", "stone"}) {
		t.Errorf("words: %q", words.items)
	}
	var numbers set[float64]
	for _, x := range []float64{2, math.Inf(1), -1, 2, math.Inf(-1), 0, math.Inf(1)} {
		numbers.add(x)
	}
	if !slices.Equal(numbers.items, []float64{math.Inf(-1), -1, 0, 2, math.Inf(1)}) {
		t.Errorf("numbers: %v", numbers.items)
	}
}

func TestSetRisesWhateverTheOrder(t *testing.T) { // Ways of chapter 4
	want := []int{0, 1, 2, 3, 4, 5, 6}
	for step := 1; step < 7; step++ { // 7 is a prime: each step goes over all
		var s set[int]
		for i := range 14 {
			s.add(i * step % 7)
		}
		if !slices.Equal(s.items, want) {
			t.Errorf("by steps of %d: %v", step, s.items)
		}
	}
}
