package list_test

import (
	"slices"
	"strconv"
	"testing"

	"flyover/list"
)

// Each element is transformed, in its order, into new memory.
func TestMapped(t *testing.T) {
	l := []int{3, 1, 2}
	same := list.Mapped(l, func(n int) int { return n })
	same[0] = 9
	if !slices.Equal(l, []int{3, 1, 2}) {
		t.Errorf("the list has changed: %v", l)
	}
	if got := list.Mapped(l, strconv.Itoa); !slices.Equal(got, []string{"3", "1", "2"}) {
		t.Errorf("Mapped: got %v", got)
	}
	if got := list.Mapped(nil, strconv.Itoa); len(got) != 0 {
		t.Errorf("Mapped of nothing: got %v", got)
	}
}

// Those elements are left for which the function holds, in their order, in new memory.
func TestFiltered(t *testing.T) {
	l := []int{3, 1, 4, 1, 5}
	all := list.Filtered(l, func(int) bool { return true })
	all[0] = 9
	if !slices.Equal(l, []int{3, 1, 4, 1, 5}) || !slices.Equal(all, []int{9, 1, 4, 1, 5}) {
		t.Errorf("the lists are %v and %v", l, all)
	}
	odd := func(n int) bool { return n%2 != 0 }
	if got := list.Filtered(l, odd); !slices.Equal(got, []int{3, 1, 1, 5}) {
		t.Errorf("Filtered: got %v", got)
	}
	if got := list.Filtered(nil, odd); len(got) != 0 {
		t.Errorf("Filtered of nothing: got %v", got)
	}
}
