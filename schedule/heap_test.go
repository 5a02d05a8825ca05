package schedule_test

import (
	"cmp"
	"math"
	"slices"
	"strconv"
	"testing"

	"reclaim/schedule"
)

// entry is what came out of a heap, or what a plain one holds.
type entry[K cmp.Ordered] struct {
	key   K
	value int
}

// like tells whether two entries are the same, NaN being the same as NaN.
func like[K cmp.Ordered](a, b entry[K]) bool {
	return cmp.Compare(a.key, b.key) == 0 && a.value == b.value
}

// drained takes all out of a heap, and asks for its length on the way.
func drained[K cmp.Ordered](t *testing.T, h *schedule.Heap[K, int]) []entry[K] {
	t.Helper()
	var out []entry[K]
	for left := h.Len(); left > 0; left-- {
		k, v, ok := h.Next()
		if !ok || h.Len() != left-1 {
			t.Fatalf("Next() = %v, %v, %v; %d left of %d", k, v, ok, h.Len(), left)
		}
		out = append(out, entry[K]{k, v})
	}
	wantEmpty(t, h)
	return out
}

func wantEmpty[K cmp.Ordered](t *testing.T, h *schedule.Heap[K, int]) {
	t.Helper()
	var none K
	for range 2 {
		if k, v, ok := h.Next(); k != none || v != 0 || ok || h.Len() != 0 {
			t.Errorf("of an empty heap: %v, %d, %v, %d", k, v, ok, h.Len())
		}
	}
}

// wantSorted puts keys in, their places as values, and asks for them by rising keys, like ones as they came in.
func wantSorted[K cmp.Ordered](t *testing.T, keys ...K) {
	t.Helper()
	var h schedule.Heap[K, int]
	var want []entry[K]
	for i, k := range keys {
		h.Put(k, i)
		want = append(want, entry[K]{k, i})
		if h.Len() != i+1 {
			t.Errorf("%d behind %d puts", h.Len(), i+1)
		}
	}
	slices.SortStableFunc(want, func(a, b entry[K]) int { return cmp.Compare(a.key, b.key) })
	if got := drained(t, &h); !slices.EqualFunc(got, want, like) {
		t.Errorf("of %v: %v, not %v", keys, got, want)
	}
}

// P14.1: keys of many kinds.
func TestHeapKeys(t *testing.T) {
	wantSorted[int](t)
	wantSorted(t, 7)
	wantSorted(t, 3, 1, 2)
	wantSorted(t, 5, 5, 5, 5, 5, 5, 5, 5, 5, 5)
	wantSorted(t, 2, 1, 2, 1, 2, 1, 2, 1, 2)
	wantSorted(t, greatest, least, 0, -1, 1, least, greatest)
	wantSorted[uint8](t, 200, 0, 255, 127, 128, 0, 255)
	wantSorted[uint64](t, 1<<63, 1<<63-1, 0, 1<<64-1)
	wantSorted(t, "b", "a", "", "c", "a", "ab", "b", "", "\xff", "é", "B")
	nan, none := math.NaN(), math.Copysign(0, -1)
	wantSorted(t, 1.5, nan, -1, nan, math.Inf(-1), 0, none, math.Inf(1), nan, none, 0, math.MaxFloat64, 5e-324)
	wantSorted(t, nan, nan, nan)
	wantSorted(t, none, 0, none, 0)
	wantSorted(t, math.Inf(-1), nan, math.Inf(-1))
	wantSorted[float32](t, 3, float32(math.NaN()), 1, 2, float32(math.NaN()), 1)
}

// P14.1: NaN is below all other floats, and like to itself.
func TestHeapNaN(t *testing.T) {
	var h schedule.Heap[float64, string]
	for _, x := range []entry[float64]{{1, 0}, {math.NaN(), 1}, {math.Inf(-1), 2}, {math.NaN(), 3}} {
		h.Put(x.key, strconv.Itoa(x.value))
	}
	for _, want := range []string{"1", "3", "2", "0"} {
		if k, v, ok := h.Next(); v != want || !ok || (k != k) != (v == "1" || v == "3") {
			t.Errorf("%v, %q, %v, not %q", k, v, ok, want)
		}
	}
}

// P14.1, P9: the zero value and a nil one are empty; into a nil one nothing is put.
func TestHeapEmpty(t *testing.T) {
	wantEmpty(t, new(schedule.Heap[int, int]))
	wantEmpty(t, &schedule.Heap[string, int]{})
	wantEmpty(t, new(schedule.Heap[float64, int]))
	var none *schedule.Heap[int, int]
	wantEmpty(t, none)
	none.Put(1, 2)
	none.Put(0, 3)
	wantEmpty(t, none)
	var text *schedule.Heap[string, int]
	text.Put("a", 2)
	wantEmpty(t, text)
}

// P14.1: values of any kind are answered as they were put in; those of like keys too, among them those that hold
// nothing.
func TestHeapValues(t *testing.T) {
	var lists schedule.Heap[int, []int]
	one := []int{1, 2}
	lists.Put(3, nil)
	lists.Put(1, one)
	if k, v, ok := lists.Next(); k != 1 || &v[0] != &one[0] || len(v) != 2 || !ok {
		t.Errorf("%d, %v, %v", k, v, ok)
	}
	if k, v, ok := lists.Next(); k != 3 || v != nil || !ok {
		t.Errorf("%d, %v, %v", k, v, ok)
	}
	var calls schedule.Heap[string, func() int]
	calls.Put("b", func() int { return 2 })
	calls.Put("a", func() int { return 1 })
	if _, v, _ := calls.Next(); v() != 1 {
		t.Errorf("%d", v())
	}
	var bare schedule.Heap[int, struct{}]
	for range 5 {
		bare.Put(1, struct{}{})
	}
	if bare.Len() != 5 {
		t.Errorf("%d", bare.Len())
	}
}

// wantMixed lets keys go in and out by chance, against a list that is searched for its first least one.
func wantMixed[K cmp.Ordered](t *testing.T, d *dice, keys []K, turns int) {
	t.Helper()
	var h schedule.Heap[K, int]
	var plain []entry[K]
	puts := 3 + d.below(5)
	for i := range turns {
		if d.below(10) < puts {
			k := keys[d.below(len(keys))]
			h.Put(k, i)
			plain = append(plain, entry[K]{k, i})
			continue
		}
		k, v, ok := h.Next()
		if ok != (len(plain) > 0) {
			t.Fatalf("%v, with %d in it", ok, len(plain))
		}
		if !ok {
			wantEmpty(t, &h)
			continue
		}
		first := slices.MinFunc(plain, func(a, b entry[K]) int { return cmp.Compare(a.key, b.key) })
		if !like(first, entry[K]{k, v}) {
			t.Fatalf("%v, %d, not %v", k, v, first)
		}
		plain = slices.DeleteFunc(plain, func(e entry[K]) bool { return e.value == v })
		if h.Len() != len(plain) {
			t.Fatalf("%d, not %d", h.Len(), len(plain))
		}
	}
	slices.SortStableFunc(plain, func(a, b entry[K]) int { return cmp.Compare(a.key, b.key) })
	if got := drained(t, &h); !slices.EqualFunc(got, plain, like) {
		t.Fatalf("%v, not %v", got, plain)
	}
}

// P14.1, P14.11: whatever goes in and out, in whatever order.
func TestHeapSorts(t *testing.T) {
	d := dice(21)
	numbers := make([]int, 200)
	for i := range numbers {
		numbers[i] = d.below(1 << 30)
	}
	nan := math.NaN()
	for range 300 {
		wantMixed(t, &d, []int{1, 2, 3}, d.below(120))
		wantMixed(t, &d, []int{4}, d.below(60))
		wantMixed(t, &d, numbers, d.below(400))
		wantMixed(t, &d, []string{"", "a", "b", "ab", "ba"}, d.below(120))
		wantMixed(t, &d, []float64{nan, 0, math.Copysign(0, -1), math.Inf(1), math.Inf(-1), 1, nan}, d.below(120))
	}
}

// P14.11: many pairs.
func TestHeapOfMany(t *testing.T) {
	d := dice(22)
	keys := make([]int, 200000)
	for i := range keys {
		keys[i] = d.below(50000)
	}
	wantSorted(t, keys...)
	slices.Sort(keys)
	wantSorted(t, keys...)
	slices.Reverse(keys)
	wantSorted(t, keys...)
}

// P6: two heaps share nothing, and what one hands out hangs on what was put into it alone.
func TestHeapsAreApart(t *testing.T) {
	var a, b schedule.Heap[int, int]
	for i := range 50 {
		a.Put(i%3, i)
		b.Put(-(i % 5), -i)
	}
	first := drained(t, &a)
	for i := range 50 {
		a.Put(i%3, i)
	}
	if b.Len() != 50 || !slices.Equal(drained(t, &a), first) || b.Len() != 50 {
		t.Errorf("two heaps share")
	}
	wantEmpty(t, &a)
}
