package lists

import (
	"slices"
	"strconv"
	"testing"
)

// Each has as many elements, in order, in a list of its own; a list that is nil stays so.
func TestEach(t *testing.T) {
	list := []int{3, 1, 2}
	var order []int
	texts := Each(list, func(n int) string {
		order = append(order, n)
		return strconv.Itoa(n)
	})
	if !slices.Equal(texts, []string{"3", "1", "2"}) || !slices.Equal(order, list) {
		t.Errorf("%v of %v", texts, order)
	}
	same := Each(list, func(n int) int { return n })
	same[0] = 7
	if list[0] != 3 {
		t.Error("a list that is shared")
	}
	none := func(int) string {
		t.Error("an element that is not there")
		return ""
	}
	if Each(nil, none) != nil {
		t.Error("a list of nothing")
	}
	if empty := Each([]int{}, none); empty == nil || len(empty) != 0 {
		t.Error("an empty list")
	}
}
