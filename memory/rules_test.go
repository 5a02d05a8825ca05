package memory_test

import (
	"math"
	"slices"
	"testing"

	"reclaim/api"
	"reclaim/memory"
)

// absent are the memories that New did not make.
func absent() map[string]*memory.Memory {
	return map[string]*memory.Memory{"a nil memory": nil, "the zero memory": {}}
}

// P5 and P9: they have no words and an empty log, whatever is done with them.
func TestAbsentMemories(t *testing.T) {
	for what, m := range absent() {
		for range 2 {
			m.Now(3)
			for _, addr := range []int{0, -1, 1, math.MinInt, math.MaxInt} {
				if w, e := m.Load(0, addr); w != 0 || e != api.ErrAddr {
					t.Errorf("%s: Load(0, %d) = %d, %d", what, addr, w, e)
				}
				if e := m.Store(0, addr, 1); e != api.ErrAddr {
					t.Errorf("%s: Store(0, %d, 1) = %d", what, addr, e)
				}
				if w, ok, e := m.Swap(0, addr, 0, 1); w != 0 || ok || e != api.ErrAddr {
					t.Errorf("%s: Swap(0, %d, 0, 1) = %d, %v, %d", what, addr, w, ok, e)
				}
				if thread, n, e := m.Writer(addr); thread != 0 || n != 0 || e != api.ErrAddr {
					t.Errorf("%s: Writer(%d) = %d, %d, %d", what, addr, thread, n, e)
				}
				if log := m.Log(addr); log == nil || logOf(m, addr) != nil {
					t.Errorf("%s: Log(%d) is nil or gives something", what, addr)
				}
			}
			if m.Size() != 0 || m.Count() != 0 || len(m.Words()) != 0 {
				t.Errorf("%s: Size() = %d, Count() = %d, Words() = %v", what, m.Size(), m.Count(), m.Words())
			}
			if e := m.Back(0); e != api.OK {
				t.Errorf("%s: Back(0) = %d", what, e)
			}
			for _, count := range []int{-1, 1, math.MinInt, math.MaxInt} {
				if e := m.Back(count); e != api.ErrBack {
					t.Errorf("%s: Back(%d) = %d", what, count, e)
				}
			}
		}
	}
}

// plain is what a memory should be, told in the simplest way: the first words and the log, with
// the words made anew from them each time.
type plain struct {
	first []uint64
	log   []entry
}

func (p *plain) view() view {
	v := view{words: slices.Clone(p.first), log: slices.Clone(p.log)}
	for range p.first {
		v.writers = append(v.writers, writer(-1, -1))
	}
	for _, x := range p.log {
		a := x.a
		if a.Kind == api.AccessStore || a.Kind == api.AccessSwap && a.Old == a.Saw {
			v.words[a.Addr] = a.New
			v.writers[a.Addr] = writer(a.Thread, x.n)
		}
	}
	return v
}

func (p *plain) access(a api.Access) {
	if a.Kind != api.AccessStore {
		a.Saw = p.view().words[a.Addr]
	}
	p.log = append(p.log, entry{len(p.log), a})
}

// dice are numbers that look like thrown ones, the same each time.
type dice uint64

func (d *dice) throw(sides int) int {
	*d = *d*6364136223846793005 + 1442695040888963407
	return int(*d>>33) % sides
}

// chance does one thing that the dice choose, to the memory and to the plain one.
func chance(t *testing.T, d *dice, move int, m *memory.Memory, p *plain) {
	a := api.Access{Move: move, Thread: d.throw(5) - 1, Addr: d.throw(4) - 1, Old: uint64(d.throw(3)), New: uint64(d.throw(3))}
	ok := a.Addr >= 0 && a.Addr < len(p.first)
	m.Now(move)
	switch d.throw(8) {
	case 0, 1:
		m.Load(a.Thread, a.Addr)
		a.Kind, a.Old, a.New = api.AccessLoad, 0, 0
	case 2, 3:
		m.Store(a.Thread, a.Addr, a.New)
		a.Kind, a.Old = api.AccessStore, 0
	case 7:
		back(t, d.throw(len(p.log)+3)-1, m, p)
		return
	default:
		m.Swap(a.Thread, a.Addr, a.Old, a.New)
		a.Kind = api.AccessSwap
	}
	if ok {
		p.access(a)
	}
}

func back(t *testing.T, count int, m *memory.Memory, p *plain) {
	t.Helper()
	want := api.ErrBack
	if 0 <= count && count <= len(p.log) {
		p.log = slices.Clone(p.log[:count])
		want = api.OK
	}
	if e := m.Back(count); e != want {
		t.Errorf("Back(%d) = %d, not %d", count, e, want)
	}
}

// P2.11: at any time the words are the first ones with the log's writes made in their order,
// and behind a Back the memory is what it was. P6: two memories hang on what was done with each
// of them alone.
func TestWordsFollowLog(t *testing.T) {
	d := dice(1)
	for range 60 {
		one, two := []uint64{0, 1, 2}, []uint64{2, 2}
		m, n := made(t, one...), made(t, two...)
		p, q := &plain{first: one}, &plain{first: two}
		for move := range 60 {
			chance(t, &d, move, m, p)
			chance(t, &d, -move, n, q)
			if v, w := viewOf(t, m), p.view(); !v.is(w) {
				t.Fatalf("move %d: the memory is %v, not %v", move, v, w)
			}
			if v, w := viewOf(t, n), q.view(); !v.is(w) {
				t.Fatalf("move %d: the other memory is %v, not %v", move, v, w)
			}
		}
	}
}

// A log has no limit of its own, and a long one goes back as a short one does.
func TestLongLog(t *testing.T) {
	const count = 3 * api.MaxMoves
	m := made(t, 0, 0)
	for i := range count {
		m.Store(i, i%2, uint64(i)+1)
	}
	if w := m.Words(); m.Count() != count || !slices.Equal(w, []uint64{count - 1, count}) {
		t.Errorf("Count() = %d, Words() = %v", m.Count(), w)
	}
	m.Back(10)
	if w := m.Words(); m.Count() != 10 || !slices.Equal(w, []uint64{9, 10}) {
		t.Errorf("behind Back(10): Count() = %d, Words() = %v", m.Count(), w)
	}
}
