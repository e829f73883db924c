package list_test

import (
	"slices"
	"strconv"
	"testing"

	"flyover/list"
)

// Each element is transformed, in its order, into new memory.
func TestMapped(t *testing.T) {
	l := []int{3, 1, 2}
	same := list.Mapped(l, func(n int) int { return n })
	same[0] = 9
	if !slices.Equal(l, []int{3, 1, 2}) {
		t.Errorf("the list has changed: %v", l)
	}
	if got := list.Mapped(l, strconv.Itoa); !slices.Equal(got, []string{"3", "1", "2"}) {
		t.Errorf("Mapped: got %v", got)
	}
	if got := list.Mapped(nil, strconv.Itoa); len(got) != 0 {
		t.Errorf("Mapped of nothing: got %v", got)
	}
}
