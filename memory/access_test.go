package memory_test

import (
	"math"
	"slices"
	"testing"

	"reclaim/api"
	"reclaim/memory"
)

func threads() []int {
	return []int{0, 1, 15, 16, -1, math.MaxInt, math.MinInt}
}

// P2.4.
func TestLoad(t *testing.T) {
	for _, thread := range threads() {
		m := made(t, 7, math.MaxUint64, 0)
		for addr, want := range m.Words() {
			if w, e := m.Load(thread, addr); w != want || e != api.OK {
				t.Errorf("Load(%d, %d) = %d, %d", thread, addr, w, e)
			}
			a := api.Access{Thread: thread, Kind: api.AccessLoad, Addr: addr, Saw: want}
			if log := logOf(m, addr); !slices.Equal(log, []entry{{addr, a}}) {
				t.Errorf("Load(%d, %d): the log has %v", thread, addr, log)
			}
		}
		if w := m.Words(); !slices.Equal(w, []uint64{7, math.MaxUint64, 0}) {
			t.Errorf("Load left %v", w)
		}
	}
}

// P2.5.
func TestStore(t *testing.T) {
	for _, thread := range threads() {
		for addr := range 3 {
			for _, w := range []uint64{0, 1, 7, 1 << 63, math.MaxUint64} {
				m := made(t, 7, 7, 7)
				if e := m.Store(thread, addr, w); e != api.OK {
					t.Errorf("Store(%d, %d, %d) = %d", thread, addr, w, e)
				}
				want := []uint64{7, 7, 7}
				want[addr] = w
				if got := m.Words(); !slices.Equal(got, want) {
					t.Errorf("Store(%d, %d, %d) left %v", thread, addr, w, got)
				}
				a := api.Access{Thread: thread, Kind: api.AccessStore, Addr: addr, New: w}
				if log := logOf(m, 0); !slices.Equal(log, []entry{{0, a}}) {
					t.Errorf("Store(%d, %d, %d): the log has %v", thread, addr, w, log)
				}
			}
		}
	}
}

// P2.6: one that succeeds, one that fails, one of the word that stands there already, and one
// that fails though it would write what stands there.
func TestSwap(t *testing.T) {
	for _, thread := range threads() {
		for addr := range 3 {
			for _, x := range []struct {
				old, w uint64
				ok     bool
			}{{7, 9, true}, {7, 0, true}, {7, 7, true}, {8, 9, false}, {8, 7, false}, {0, 0, false}, {7 | 1<<63, 9, false}, {math.MaxUint64, 1, false}} {
				m := made(t, 7, 7, 7)
				if saw, ok, e := m.Swap(thread, addr, x.old, x.w); saw != 7 || ok != x.ok || e != api.OK {
					t.Errorf("Swap(%d, %d, %d, %d) = %d, %v, %d", thread, addr, x.old, x.w, saw, ok, e)
				}
				want := []uint64{7, 7, 7}
				if x.ok {
					want[addr] = x.w
				}
				if got := m.Words(); !slices.Equal(got, want) {
					t.Errorf("Swap(%d, %d, %d, %d) left %v", thread, addr, x.old, x.w, got)
				}
				a := api.Access{Thread: thread, Kind: api.AccessSwap, Addr: addr, Old: x.old, New: x.w, Saw: 7}
				if log := logOf(m, 0); !slices.Equal(log, []entry{{0, a}}) {
					t.Errorf("Swap(%d, %d, %d, %d): the log has %v", thread, addr, x.old, x.w, log)
				}
			}
		}
	}
}

// P2.4 to P2.7 and P2.10: what is refused changes nothing.
func TestNoSuchAddress(t *testing.T) {
	m := made(t, 1, 2, 0)
	m.Now(4)
	m.Store(1, 0, 5)
	m.Swap(2, 1, 2, 6)
	before := viewOf(t, m)
	for _, addr := range []int{-1, -2, math.MinInt, 3, 4, 1 << 32, math.MaxInt} {
		if w, e := m.Load(0, addr); w != 0 || e != api.ErrAddr {
			t.Errorf("Load(0, %d) = %d, %d", addr, w, e)
		}
		if e := m.Store(0, addr, 9); e != api.ErrAddr {
			t.Errorf("Store(0, %d, 9) = %d", addr, e)
		}
		for _, old := range []uint64{0, 5, 6} {
			if w, ok, e := m.Swap(0, addr, old, 9); w != 0 || ok || e != api.ErrAddr {
				t.Errorf("Swap(0, %d, %d, 9) = %d, %v, %d", addr, old, w, ok, e)
			}
		}
		if thread, n, e := m.Writer(addr); thread != 0 || n != 0 || e != api.ErrAddr {
			t.Errorf("Writer(%d) = %d, %d, %d", addr, thread, n, e)
		}
		if after := viewOf(t, m); !after.is(before) {
			t.Errorf("address %d was refused, but left %v, not %v", addr, after, before)
		}
	}
	if e := m.Back(1); e != api.OK || !slices.Equal(m.Words(), []uint64{5, 2, 0}) {
		t.Errorf("Back(1) behind what was refused: %d, %v", e, m.Words())
	}
}

// The address just below Size() is one, in the greatest memory too.
func TestLastAddress(t *testing.T) {
	for _, size := range []int{1, 2, api.MaxWords} {
		m, _ := memory.New(make([]uint64, size))
		if e := m.Store(0, size-1, 3); e != api.OK {
			t.Errorf("Store(0, %d, 3) of %d words = %d", size-1, size, e)
		}
		if w, ok, e := m.Swap(0, size-1, 3, 4); w != 3 || !ok || e != api.OK {
			t.Errorf("Swap(0, %d, 3, 4) of %d words = %d, %v, %d", size-1, size, w, ok, e)
		}
		if w, e := m.Load(0, size-1); w != 4 || e != api.OK {
			t.Errorf("Load(0, %d) of %d words = %d, %d", size-1, size, w, e)
		}
		if thread, n, e := m.Writer(size - 1); thread != 0 || n != 1 || e != api.OK {
			t.Errorf("Writer(%d) of %d words = %d, %d, %d", size-1, size, thread, n, e)
		}
		if _, e := m.Load(0, size); e != api.ErrAddr || m.Count() != 3 {
			t.Errorf("Load(0, %d) of %d words: %d", size, size, e)
		}
	}
}
