package schedule

import "cmp"

// Heap hands out the least key first; of like keys the one that was put in first. Its zero value and a nil one are
// empty.
type Heap[K cmp.Ordered, V any] struct {
	pairs []pair[K, V] // none goes out ahead of the one at (i - 1) / 2
	puts  uint64       // how many were ever put in
}

// pair is a key with its value; number tells like keys apart, by when they were put in.
type pair[K cmp.Ordered, V any] struct {
	key    K
	value  V
	number uint64
}

// Put puts a value in.
func (h *Heap[K, V]) Put(k K, v V) {
	if h == nil {
		return
	}
	h.pairs = append(h.pairs, pair[K, V]{key: k, value: v, number: h.puts})
	h.puts++
	h.rise(len(h.pairs) - 1)
}

// Next takes the first one out; false: it is empty.
func (h *Heap[K, V]) Next() (K, V, bool) {
	if h.Len() == 0 {
		var none pair[K, V]
		return none.key, none.value, false
	}
	first, last := h.pairs[0], len(h.pairs)-1
	h.pairs[0] = h.pairs[last]
	h.pairs[last] = pair[K, V]{} // what has gone out must not be kept in the spare room
	h.pairs = h.pairs[:last]
	h.sink(0)
	return first.key, first.value, true
}

// Len tells how many there are.
func (h *Heap[K, V]) Len() int {
	if h == nil {
		return 0
	}
	return len(h.pairs)
}

// rise sifts a pair up to its place.
func (h *Heap[K, V]) rise(i int) {
	for i > 0 {
		above := (i - 1) / 2
		if !h.ahead(i, above) {
			return
		}
		h.exchange(i, above)
		i = above
	}
}

// sink sifts a pair down to its place.
func (h *Heap[K, V]) sink(i int) {
	for {
		first := i
		for below := 2*i + 1; below <= 2*i+2 && below < len(h.pairs); below++ {
			if h.ahead(below, first) {
				first = below
			}
		}
		if first == i {
			return
		}
		h.exchange(i, first)
		i = first
	}
}

// ahead tells whether a pair goes out ahead of another one. Keys are held against each other by cmp.Compare, not by
// <, so that NaN has its place.
func (h *Heap[K, V]) ahead(i, j int) bool {
	a, b := &h.pairs[i], &h.pairs[j]
	if order := cmp.Compare(a.key, b.key); order != 0 {
		return order < 0
	}
	return a.number < b.number
}

func (h *Heap[K, V]) exchange(i, j int) {
	h.pairs[i], h.pairs[j] = h.pairs[j], h.pairs[i]
}
