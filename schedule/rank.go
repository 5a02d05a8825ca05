package schedule

import "slices"

// byRank picks the first thread that has something to do, again and again; at a pick whose number is among the
// falls the rank of the first one is put behind all others ahead of it.
func (d *driver) byRank(order []int, falls []int, steps int) {
	var line Heap[int, int] // threads by their ranks, of which no two are alike
	for rank, thread := range order {
		line.Put(rank, thread)
	}
	last := len(order)
	falls = slices.Sorted(slices.Values(falls))
	for number := range steps {
		rank, thread, ok := d.first(&line)
		if !ok {
			return
		}
		if _, fall := slices.BinarySearch(falls, number); fall {
			line.Put(last, thread)
			last++
			rank, thread, _ = d.first(&line)
		}
		d.pick(thread)
		line.Put(rank, thread)
	}
}

// first takes out the first thread that has something to do. Those ahead of it stay out: who has nothing to do
// never has again.
func (d *driver) first(line *Heap[int, int]) (int, int, bool) {
	for {
		rank, thread, ok := line.Next()
		if !ok || d.active(thread) {
			return rank, thread, ok
		}
	}
}

// isOrder tells whether a list has each thread just once, and nothing beside.
func isOrder(order []int, threads int) bool {
	if len(order) != threads {
		return false
	}
	for thread := range threads {
		if !slices.Contains(order, thread) {
			return false
		}
	}
	return true
}
