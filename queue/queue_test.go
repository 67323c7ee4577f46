package queue_test

import (
	"cmp"
	"slices"
	"testing"

	"ostracon/queue"
)

func drain(q *queue.Queue[int]) []int {
	var all []int
	for x, ok := q.Take(); ok; x, ok = q.Take() {
		all = append(all, x)
	}
	return all
}

// A queue gives back the first ones of what was put into it, in order.
func TestFirstOnes(t *testing.T) {
	numbers := []int{5, 3, 9, 1, 7, 0, 8, 2, 6, 4}
	for most := range len(numbers) + 2 {
		q := queue.New(most, cmp.Compare[int])
		for i, x := range numbers {
			first := slices.Sorted(slices.Values(numbers[:i+1]))
			first = first[:min(len(first), most)]
			if kept := q.Put(x); kept != slices.Contains(first, x) {
				t.Errorf("Put of %d with at most %d = %t", x, most, kept)
			}
		}
		want := slices.Sorted(slices.Values(numbers))[:min(len(numbers), most)]
		if got := drain(q); !slices.Equal(got, want) {
			t.Errorf("with at most %d there are %v, want %v", most, got, want)
		}
	}
}

// What was taken makes room for others; an empty queue has nothing.
func TestTakeAndPut(t *testing.T) {
	q := queue.New(2, cmp.Compare[int])
	if x, ok := q.Take(); ok || x != 0 {
		t.Errorf("Take of an empty queue = %d, %t", x, ok)
	}
	for _, x := range []int{4, 2, 6} {
		q.Put(x)
	}
	if x, ok := q.Take(); !ok || x != 2 {
		t.Errorf("Take = %d, %t, want 2", x, ok)
	}
	if !q.Put(5) || !q.Put(3) || q.Put(5) {
		t.Errorf("Put of 5, 3 and 5 again do not find the room that there is")
	}
	if got := drain(q); !slices.Equal(got, []int{3, 4}) {
		t.Errorf("there are %v, want 3 and 4", got)
	}
}
