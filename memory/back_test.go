package memory_test

import (
	"math"
	"slices"
	"testing"

	"reclaim/api"
	"reclaim/memory"
)

// written is a memory with accesses of each kind in its log, and what it was when the log had
// none, one, two .. of them.
func written(t *testing.T) (*memory.Memory, []view) {
	m := made(t, 1, 2)
	views := []view{viewOf(t, m)}
	for i, do := range []func(){
		func() { m.Store(0, 0, 10) },
		func() { m.Load(1, 0) },
		func() { m.Swap(2, 0, 10, 11) },
		func() { m.Swap(3, 0, 10, 12) },
		func() { m.Swap(4, 1, 2, 2) },
		func() { m.Store(5, 1, 2) },
		func() { m.Store(6, 1, 13) },
		func() { m.Store(7, 0, 14) },
		func() { m.Load(8, 1) },
	} {
		m.Now(i)
		do()
		views = append(views, viewOf(t, m))
	}
	return m, views
}

// P2.9 and P2.11.
func TestBack(t *testing.T) {
	for from := range 10 {
		for count := range from + 1 {
			m, views := written(t)
			for _, n := range []int{from, count} {
				if e := m.Back(n); e != api.OK {
					t.Errorf("Back(%d) = %d", n, e)
				}
				if v := viewOf(t, m); !v.is(views[n]) {
					t.Errorf("Back(%d) left %v, not %v", n, v, views[n])
				}
			}
		}
	}
}

// P2.9: nothing to go back to.
func TestBackRefused(t *testing.T) {
	m, views := written(t)
	for _, count := range []int{-1, -2, math.MinInt, 10, 11, math.MaxInt} {
		if e := m.Back(count); e != api.ErrBack {
			t.Errorf("Back(%d) = %d", count, e)
		}
		if v := viewOf(t, m); !v.is(views[9]) {
			t.Errorf("Back(%d) left %v", count, v)
		}
	}
	m.Back(4)
	for _, count := range []int{-1, 5, 9} {
		if e := m.Back(count); e != api.ErrBack {
			t.Errorf("Back(%d) behind Back(4) = %d", count, e)
		}
		if v := viewOf(t, m); !v.is(views[4]) {
			t.Errorf("Back(%d) behind Back(4) left %v", count, v)
		}
	}
}

// P2.9: accesses that are made behind a Back are taken back as those ahead of it are.
func TestBackAndOn(t *testing.T) {
	for count := range 10 {
		m, views := written(t)
		m.Back(count)
		m.Store(20, 1, 30)
		m.Swap(21, 0, 99, 31)
		m.Store(22, 0, 32)
		if log := logOf(m, 0); !slices.Equal(log[:count], views[9].log[:count]) || len(log) != count+3 {
			t.Errorf("behind Back(%d) and three accesses the log has %v", count, log)
		}
		if w := m.Words(); !slices.Equal(w, []uint64{32, 30}) {
			t.Errorf("behind Back(%d) and three accesses: %v", count, w)
		}
		m.Back(count + 1)
		if w := m.Words(); !slices.Equal(w, []uint64{views[count].words[0], 30}) {
			t.Errorf("behind Back(%d), three accesses and Back(%d): %v", count, count+1, w)
		}
		for n := count; n >= 0; n-- {
			m.Back(n)
			if v := viewOf(t, m); !v.is(views[n]) {
				t.Errorf("behind Back(%d), three accesses and Back(%d): %v, not %v", count, n, v, views[n])
			}
		}
	}
}
