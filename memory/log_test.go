package memory_test

import (
	"math"
	"slices"
	"testing"

	"reclaim/api"
	"reclaim/memory"
)

// loaded is a memory of one word with a log of loads, each by the thread of its own number.
func loaded(t *testing.T, count int) *memory.Memory {
	m := made(t, 3)
	for i := range count {
		m.Load(i, 0)
	}
	return m
}

func loads(from, till int) []entry {
	var list []entry
	for i := from; i < till; i++ {
		list = append(list, entry{i, api.Access{Thread: i, Kind: api.AccessLoad, Saw: 3}})
	}
	return list
}

// P2.8.
func TestLogFrom(t *testing.T) {
	for _, count := range []int{0, 1, 5} {
		m := loaded(t, count)
		for _, from := range []int{math.MinInt, -2, -1, 0, 1, 2, 4, 5, 6, 100, math.MaxInt} {
			if log := logOf(m, from); !slices.Equal(log, loads(max(from, 0), count)) {
				t.Errorf("Log(%d) of %d accesses gives %v", from, count, log)
			}
		}
	}
}

// P2.8: it ends early where the loop does.
func TestLogLeftEarly(t *testing.T) {
	m := loaded(t, 6)
	for stop := 1; stop < 5; stop++ {
		var seen []int
		m.Log(1)(func(n int, _ api.Access) bool {
			seen = append(seen, n)
			return len(seen) < stop
		})
		if !slices.Equal(seen, []int{1, 2, 3, 4, 5}[:stop]) {
			t.Errorf("left behind %d accesses it gave %v", stop, seen)
		}
	}
}

// P2.8: each ranging begins anew, with the log as it is then.
func TestLogRangedTwice(t *testing.T) {
	m := loaded(t, 3)
	log := m.Log(1)
	for range log {
		break
	}
	for _, till := range []int{3, 5, 6} {
		for n := m.Count(); n < till; n++ {
			m.Load(n, 0)
		}
		var seen []entry
		for n, a := range log {
			seen = append(seen, entry{n, a})
		}
		if !slices.Equal(seen, loads(1, till)) {
			t.Errorf("ranged over with %d accesses it gave %v", till, seen)
		}
	}
	m.Back(2)
	var seen []entry
	for n, a := range log {
		seen = append(seen, entry{n, a})
	}
	if !slices.Equal(seen, loads(1, 2)) {
		t.Errorf("ranged over behind Back(2) it gave %v", seen)
	}
}

// P2.8: one ranging inside another gives the same.
func TestLogRangedWithin(t *testing.T) {
	m := loaded(t, 3)
	log := m.Log(0)
	var seen []int
	for i := range log {
		for j := range log {
			seen = append(seen, 10*i+j)
		}
	}
	if !slices.Equal(seen, []int{0, 1, 2, 10, 11, 12, 20, 21, 22}) {
		t.Errorf("one within the other they gave %v", seen)
	}
}

// P2.8: what is done to the memory while it is ranged over changes nothing of that.
func TestLogWhileMemoryChanges(t *testing.T) {
	for _, x := range []struct {
		what string
		do   func(m *memory.Memory, n int)
		left int
	}{
		{"accesses", func(m *memory.Memory, n int) { m.Store(90, 0, 8); m.Swap(91, 0, 8, 3); m.Load(92, 0) }, 20},
		{"Back", func(m *memory.Memory, n int) { m.Back(m.Count() - 1) }, 0},
		{"Back to nothing and an access", func(m *memory.Memory, n int) { m.Back(0); m.Store(90, 0, 8) }, 1},
		{"Back by one and two accesses", func(m *memory.Memory, n int) { m.Back(m.Count() - 1); m.Load(90, 0); m.Load(91, 0) }, 10},
		{"Back behind the access and others", func(m *memory.Memory, n int) { m.Back(n + 1); m.Load(90, 0); m.Load(91, 0) }, 7},
		{"Back ahead of the access and others", func(m *memory.Memory, n int) { m.Back(n); m.Store(90, 0, 8); m.Load(91, 0) }, 6},
		{"Back to where it is", func(m *memory.Memory, n int) { m.Back(m.Count()); m.Load(90, 0) }, 10},
		{"Now", func(m *memory.Memory, n int) { m.Now(77) }, 5},
	} {
		m := loaded(t, 5)
		var seen []entry
		for n, a := range m.Log(0) {
			seen = append(seen, entry{n, a})
			x.do(m, n)
		}
		if !slices.Equal(seen, loads(0, 5)) {
			t.Errorf("%s while ranging: it gave %v", x.what, seen)
		}
		if m.Count() != x.left {
			t.Errorf("%s while ranging: Count() = %d, not %d", x.what, m.Count(), x.left)
		}
	}
}

// P2.8: the same of a ranging that is begun behind a Back, over a log that has spare room.
func TestLogBehindBack(t *testing.T) {
	m := loaded(t, 9)
	m.Back(4)
	var seen []entry
	for n, a := range m.Log(0) {
		seen = append(seen, entry{n, a})
		m.Store(90, 0, 8)
		m.Back(2)
		m.Store(91, 0, 9)
	}
	if !slices.Equal(seen, loads(0, 4)) {
		t.Errorf("it gave %v", seen)
	}
	if w := m.Words(); !slices.Equal(w, []uint64{9}) || m.Count() != 3 {
		t.Errorf("Words() = %v, Count() = %d", w, m.Count())
	}
}

// P2.10.
func TestWriter(t *testing.T) {
	m := made(t, 5, 5, 5, 5)
	m.Store(7, 0, 6)
	m.Swap(-8, 1, 5, 6)
	m.Swap(9, 2, 5, 5)
	m.Load(10, 0)
	m.Swap(11, 0, 5, 8)
	m.Swap(12, 3, 6, 7)
	m.Load(13, 3)
	for addr, want := range []entry{writer(7, 0), writer(-8, 1), writer(9, 2), writer(-1, -1)} {
		if thread, n, e := m.Writer(addr); thread != want.a.Thread || n != want.n || e != api.OK {
			t.Errorf("Writer(%d) = %d, %d, %d", addr, thread, n, e)
		}
	}
	m.Store(14, 1, 6)
	if thread, n, e := m.Writer(1); thread != 14 || n != 7 || e != api.OK {
		t.Errorf("Writer(1) behind a store = %d, %d, %d", thread, n, e)
	}
	if m.Count() != 8 {
		t.Errorf("Count() = %d", m.Count())
	}
}

// P2.10 and P2.11: a write that was taken back wrote nothing.
func TestWriterBehindBack(t *testing.T) {
	m := made(t, 5, 6)
	m.Store(1, 0, 7)
	m.Swap(2, 0, 7, 8)
	m.Store(3, 1, 9)
	for _, x := range []struct {
		back      int
		zero, one entry
	}{
		{3, writer(2, 1), writer(3, 2)},
		{2, writer(2, 1), writer(-1, -1)},
		{1, writer(1, 0), writer(-1, -1)},
		{0, writer(-1, -1), writer(-1, -1)},
	} {
		m.Back(x.back)
		if v := viewOf(t, m); v.writers[0] != x.zero || v.writers[1] != x.one {
			t.Errorf("behind Back(%d): %v", x.back, v.writers)
		}
	}
}
