package memory_test

import (
	"math"
	"slices"
	"testing"

	"reclaim/api"
	"reclaim/memory"
)

func made(t *testing.T, words ...uint64) *memory.Memory {
	t.Helper()
	m, e := memory.New(words)
	if m == nil || e != api.OK {
		t.Fatalf("New(%v) = %v, %d", words, m, e)
	}
	return m
}

// entry is what Log gives for an access.
type entry struct {
	n int
	a api.Access
}

func logOf(m *memory.Memory, from int) []entry {
	var list []entry
	for n, a := range m.Log(from) {
		list = append(list, entry{n, a})
	}
	return list
}

// view is all that a memory tells of itself.
type view struct {
	words   []uint64
	log     []entry
	writers []entry // of each word: the access's number, and its thread
}

func viewOf(t *testing.T, m *memory.Memory) view {
	t.Helper()
	v := view{words: m.Words(), log: logOf(m, 0)}
	for addr := range v.words {
		thread, n, e := m.Writer(addr)
		if e != api.OK {
			t.Errorf("Writer(%d): %d", addr, e)
		}
		v.writers = append(v.writers, entry{n, api.Access{Thread: thread}})
	}
	if m.Size() != len(v.words) || m.Count() != len(v.log) {
		t.Errorf("Size() = %d, Count() = %d of %d words and %d accesses", m.Size(), m.Count(), len(v.words), len(v.log))
	}
	return v
}

func (v view) is(w view) bool {
	return slices.Equal(v.words, w.words) && slices.Equal(v.log, w.log) && slices.Equal(v.writers, w.writers)
}

// P2.1.
func TestNew(t *testing.T) {
	for _, n := range []int{0, 1, 2, api.MaxWords - 1, api.MaxWords} {
		words := make([]uint64, n)
		for i := range words {
			words[i] = uint64(i) * 3
		}
		m := made(t, words...)
		if m.Size() != n || m.Count() != 0 || !slices.Equal(m.Words(), words) {
			t.Errorf("New of %d words: Size() = %d, Count() = %d, Words() = %v", n, m.Size(), m.Count(), m.Words())
		}
		if log := logOf(m, 0); log != nil {
			t.Errorf("New of %d words: the log has %v", n, log)
		}
	}
	for _, n := range []int{api.MaxWords + 1, api.MaxWords + 2, 10 * api.MaxWords} {
		if m, e := memory.New(make([]uint64, n)); m != nil || e != api.ErrLong {
			t.Errorf("New of %d words = %v, %d", n, m, e)
		}
	}
}

// P2.1 and P7: no words are a memory too, nil or empty.
func TestNewOfNoWords(t *testing.T) {
	for _, words := range [][]uint64{nil, {}} {
		m, e := memory.New(words)
		if m == nil || e != api.OK || m.Size() != 0 || len(m.Words()) != 0 {
			t.Errorf("New of no words = %v, %d", m, e)
		}
		m.Now(3)
		if _, e := m.Load(0, 0); e != api.ErrAddr {
			t.Errorf("Load of no words: %d", e)
		}
		if m.Back(0) != api.OK || m.Back(1) != api.ErrBack || m.Count() != 0 {
			t.Errorf("Back of no words: Count() = %d", m.Count())
		}
	}
}

// P6: the words that are handed in stay the caller's, their spare room too.
func TestNewCopies(t *testing.T) {
	whole := []uint64{1, 2, 3, 4}
	m := made(t, whole[:2]...)
	m.Store(0, 0, 9)
	m.Store(0, 1, 9)
	if !slices.Equal(whole, []uint64{1, 2, 3, 4}) {
		t.Errorf("New changed its words: %v", whole)
	}
	whole[0], whole[1] = 5, 6
	if w := m.Words(); !slices.Equal(w, []uint64{9, 9}) {
		t.Errorf("New kept its words: %v", w)
	}
	m.Back(0)
	if w := m.Words(); !slices.Equal(w, []uint64{1, 2}) {
		t.Errorf("New kept its words: %v", w)
	}
}

// P2.2 and P6: each list of words is new, its spare room too.
func TestWordsAreNew(t *testing.T) {
	m := made(t, 1, 2, 3)
	one, two := m.Words(), m.Words()
	for i := range one[:cap(one)] {
		one[:cap(one)][i] = 7
	}
	if !slices.Equal(two, []uint64{1, 2, 3}) || !slices.Equal(m.Words(), two) {
		t.Errorf("Words() share memory: %v, %v", two, m.Words())
	}
	m.Store(0, 0, 8)
	if !slices.Equal(two, []uint64{1, 2, 3}) || !slices.Equal(m.Words(), []uint64{8, 2, 3}) {
		t.Errorf("Words() share memory: %v, %v", two, m.Words())
	}
}

// P2.3.
func TestNow(t *testing.T) {
	m := made(t, 0)
	m.Load(0, 0)
	moves := []int{5, 5, -1, math.MaxInt, math.MinInt, 0}
	for _, move := range moves {
		m.Now(move)
		m.Load(1, 0)
		m.Store(2, 0, 0)
		m.Swap(3, 0, 0, 0)
		m.Swap(4, 0, 1, 0)
	}
	log := logOf(m, 0)
	if log[0].a.Move != 0 {
		t.Errorf("the first access has Move %d", log[0].a.Move)
	}
	for i, x := range log[1:] {
		if x.a.Move != moves[i/4] || x.a.Thread != i%4+1 {
			t.Errorf("access %d: %+v, not of move %d", i+1, x.a, moves[i/4])
		}
	}
	m.Now(1)
	m.Now(2)
	if again := logOf(m, 0); !slices.Equal(again, log) {
		t.Errorf("Now changed the log: %v", again)
	}
}

// P2.3 and P2.9: the number stays where accesses are taken back or refused.
func TestNowStays(t *testing.T) {
	m := made(t, 0)
	m.Now(7)
	m.Store(0, 0, 1)
	m.Now(8)
	m.Back(0)
	m.Back(5)
	m.Load(0, 9)
	m.Load(0, 0)
	if log := logOf(m, 0); len(log) != 1 || log[0].a.Move != 8 {
		t.Errorf("the log has %v", log)
	}
}

// The chapter's examples.
func TestExamples(t *testing.T) {
	m := made(t, 7, 8)
	if w, e := m.Load(3, 1); w != 8 || e != api.OK {
		t.Errorf("Load(3, 1) = %d, %d", w, e)
	}
	if e := m.Store(0, 0, 9); e != api.OK {
		t.Errorf("Store(0, 0, 9) = %d", e)
	}
	if w, ok, e := m.Swap(1, 0, 9, 10); w != 9 || !ok || e != api.OK {
		t.Errorf("Swap(1, 0, 9, 10) = %d, %v, %d", w, ok, e)
	}
	if w, ok, e := m.Swap(2, 0, 9, 11); w != 10 || ok || e != api.OK {
		t.Errorf("Swap(2, 0, 9, 11) = %d, %v, %d", w, ok, e)
	}
	if w, e := m.Load(0, 2); w != 0 || e != api.ErrAddr || m.Count() != 4 {
		t.Errorf("Load(0, 2) = %d, %d", w, e)
	}
	last := []entry{{2, api.Access{Thread: 1, Kind: api.AccessSwap, Old: 9, New: 10, Saw: 9}}, {3, api.Access{Thread: 2, Kind: api.AccessSwap, Old: 9, New: 11, Saw: 10}}}
	if log := logOf(m, 2); !slices.Equal(log, last) {
		t.Errorf("Log(2) gives %v", log)
	}
	if v := viewOf(t, m); !slices.Equal(v.words, []uint64{10, 8}) || v.writers[0] != writer(1, 2) || v.writers[1] != writer(-1, -1) {
		t.Errorf("behind four accesses: %v", v)
	}
	if e := m.Back(2); e != api.OK {
		t.Errorf("Back(2) = %d", e)
	}
	if v := viewOf(t, m); !slices.Equal(v.words, []uint64{9, 8}) || v.writers[0] != writer(0, 1) {
		t.Errorf("behind Back(2): %v", v)
	}
	if e := m.Back(3); e != api.ErrBack {
		t.Errorf("Back(3) = %d", e)
	}
	m.Now(5)
	m.Store(4, 1, 0)
	if log := logOf(m, 2); !slices.Equal(log, []entry{{2, api.Access{Move: 5, Thread: 4, Kind: api.AccessStore, Addr: 1}}}) {
		t.Errorf("Log(2) gives %v", log)
	}
}

func writer(thread, n int) entry {
	return entry{n, api.Access{Thread: thread}}
}
