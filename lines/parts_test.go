package lines

import (
	"slices"
	"testing"
)

func TestPartsHaveNoRoomBehind(t *testing.T) { // Ways of chapter 3
	items := []int{1, 2, 3, 4, 5, 6, 7}
	want := [][]int{{1, 2}, {3, 4}, {5, 6}}
	var got [][]int
	for part := range parts(items, 2) {
		if cap(part) != len(part) {
			t.Errorf("%v has room for %d", part, cap(part))
		}
		got = append(got, part)
		part = append(part, 99)
	}
	if !slices.EqualFunc(got, want, slices.Equal[[]int]) {
		t.Errorf("parts = %v, want %v", got, want)
	}
	if !slices.Equal(items, []int{1, 2, 3, 4, 5, 6, 7}) {
		t.Errorf("what was put behind a part ran into the items: %v", items)
	}
}

func TestPartsOfAnyTypeEnd(t *testing.T) { // Ways of chapter 3
	var got []string
	for part := range parts([]string{"a", "b", "c"}, 1) {
		got = append(got, part...)
		if len(got) == 2 {
			break
		}
	}
	if !slices.Equal(got, []string{"a", "b"}) {
		t.Errorf("broken off behind two: %v", got)
	}
	for part := range parts([]string(nil), 3) {
		t.Errorf("a part of nothing: %v", part)
	}
	for part := range parts([]string{"a", "b"}, 3) {
		t.Errorf("a part that is not whole: %v", part)
	}
}
