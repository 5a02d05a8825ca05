package machine_test

import (
	"math"
	"slices"
	"testing"

	"reclaim/api"
	"reclaim/machine"
)

// duel is the chapter's first example: two bumps of one word.
func duel() []api.Move {
	return []api.Move{bumpAt(0, 0), bumpAt(1, 0), step(0), step(1), step(0), step(1), step(1), step(1)}
}

// P3.6 and P3.8, the chapter's first example: a bump that is overtaken begins anew.
func TestExampleDuel(t *testing.T) {
	load := func(move, thread int, saw uint64) api.Access {
		return api.Access{Move: move, Thread: thread, Kind: api.AccessLoad, Saw: saw}
	}
	swap := func(move, thread int, old, saw uint64) api.Access {
		return api.Access{Move: move, Thread: thread, Kind: api.AccessSwap, Old: old, New: old + 1, Saw: saw}
	}
	wantRun(t, playOf(t, 2, []uint64{5, 0}, duel()), api.Run{
		Calls: []api.Call{
			{Thread: 0, Op: api.OpBump, Begin: 0, End: 4, Point: 4, Answer: value(5)},
			{Thread: 1, Op: api.OpBump, Begin: 1, End: 7, Point: 7, Answer: value(6)},
		},
		Trace: []api.Access{load(2, 0, 5), load(3, 1, 5), swap(4, 0, 5, 5), swap(5, 1, 5, 6), load(6, 1, 6), swap(7, 1, 6, 6)},
		Words: []uint64{7, 0},
	})
}

// P3.2 and P3.6, the chapter's second example.
func TestExampleNothing(t *testing.T) {
	moves := []api.Move{step(0), lookAt(0, 2), lookAt(0, 1), bumpAt(0, 0), lookAt(2, 0), step(0)}
	wantRun(t, playOf(t, 2, []uint64{5, 0}, moves), api.Run{
		Calls: []api.Call{{Op: api.OpLook, Arg: 1, Begin: 2, End: 5, Point: 5, Answer: value(0)}},
		Trace: []api.Access{{Move: 5, Kind: api.AccessLoad, Addr: 1}},
		Words: []uint64{5, 0},
	})
}

// P3.6, the chapter's third example and its neighbours: words as numbers, and modulo 2^64.
func TestExampleWrap(t *testing.T) {
	for _, c := range []struct {
		word  uint64
		value int
		left  uint64
	}{
		{1<<64 - 1, -1, 0},
		{1<<64 - 2, -2, 1<<64 - 1},
		{1<<63 - 1, math.MaxInt, 1 << 63},
		{1 << 63, math.MinInt, 1<<63 + 1},
		{0, 0, 1},
	} {
		r := playOf(t, 1, []uint64{c.word}, []api.Move{lookAt(0, 0), step(0), bumpAt(0, 0), step(0), step(0)})
		look := api.Call{Op: api.OpLook, Begin: 0, End: 1, Point: 1, Answer: value(c.value)}
		bump := api.Call{Op: api.OpBump, Begin: 2, End: 4, Point: 4, Answer: value(c.value)}
		if !slices.Equal(r.Calls, []api.Call{look, bump}) || !slices.Equal(r.Words, []uint64{c.left}) {
			t.Errorf("%d: %+v", c.word, r)
		}
	}
}

// P3.6: a bump is overtaken just by another word: one that came back doesn't hinder it.
func TestBumpSeesWords(t *testing.T) {
	kit := machine.Join(machine.Own(1), machine.Kit{opTest: func(_ int, mv api.Move) machine.Task {
		return &plan{step: func(d *machine.Desk) bool { d.Store(0, uint64(mv.Arg)); return true }}
	}})
	put := func(w int) api.Move { return api.Move{Thread: 1, Op: opTest, Arg: w} }
	m := machineOf(t, 2, []uint64{5}, kit)
	makeMoves(t, m, bumpAt(0, 0), step(0), put(8), step(1), step(0))
	if !m.Busy(0) {
		t.Fatal("an overtaken bump has ended")
	}
	makeMoves(t, m, step(0), put(9), step(1), put(8), step(1), step(0))
	if c, _ := m.Call(0); c.End != 10 || c.Point != 10 || c.Answer != value(8) {
		t.Errorf("%+v", c)
	}
	if w := m.Run().Words; !slices.Equal(w, []uint64{9}) {
		t.Errorf("words %v", w)
	}
}

// P3.6: a call whose Arg is no address is refused, whatever the memory has.
func TestOwnAddresses(t *testing.T) {
	for _, size := range []int{-1, 0, 1, 2, 3, math.MinInt} {
		m := machineOf(t, 1, make([]uint64, 3), machine.Own(size))
		for _, addr := range []int{-1, 0, 1, 2, 3, math.MinInt, math.MaxInt} {
			for _, begin := range []api.Move{lookAt(0, addr), bumpAt(0, addr)} {
				if did := m.Move(begin); did != (0 <= addr && addr < size) {
					t.Errorf("size %d: %+v: %v", size, begin, did)
				}
				for m.Busy(0) {
					m.Move(step(0))
				}
			}
		}
	}
	m := machineOf(t, 1, make([]uint64, api.MaxWords), machine.Own(api.MaxWords))
	makeMoves(t, m, bumpAt(0, api.MaxWords-1), step(0), step(0))
	if m.Move(bumpAt(0, api.MaxWords)) || m.Run().Words[api.MaxWords-1] != 1 {
		t.Error("the last word is not the last one")
	}
}

// P3.6: the machine has no other call of its own.
func TestOwnOps(t *testing.T) {
	for _, size := range []int{0, 1, 9} {
		kit := machine.Own(size)
		if len(kit) != 2 || kit[api.OpLook] == nil || kit[api.OpBump] == nil {
			t.Errorf("Own(%d) = %v", size, kit)
		}
	}
}

// named makes a maker that tells which one it is.
func named(name int) machine.Maker {
	return func(int, api.Move) machine.Task {
		return &plan{step: func(d *machine.Desk) bool { d.Answer(value(name)); return true }}
	}
}

// P3.7: the calls of all kits; of an op that stands in several the last one's.
func TestJoin(t *testing.T) {
	a := machine.Kit{1: named(11), 2: named(12)}
	b := machine.Kit{2: named(22), 3: named(23)}
	c := machine.Kit{3: named(33)}
	for _, j := range []struct {
		kits []machine.Kit
		want map[api.Op]int
	}{
		{nil, nil},
		{[]machine.Kit{nil, {}}, nil},
		{[]machine.Kit{a}, map[api.Op]int{1: 11, 2: 12}},
		{[]machine.Kit{a, b}, map[api.Op]int{1: 11, 2: 22, 3: 23}},
		{[]machine.Kit{b, a}, map[api.Op]int{1: 11, 2: 12, 3: 23}},
		{[]machine.Kit{a, nil, b, c}, map[api.Op]int{1: 11, 2: 22, 3: 33}},
		{[]machine.Kit{c, b, a}, map[api.Op]int{1: 11, 2: 12, 3: 23}},
	} {
		kit := machine.Join(j.kits...)
		if kit == nil || len(kit) != len(j.want) {
			t.Errorf("%d kits: %v", len(j.kits), kit)
		}
		for op, name := range j.want {
			m := machineOf(t, 1, nil, kit)
			makeMoves(t, m, api.Move{Op: op}, step(0))
			if call, _ := m.Call(0); call.Answer != value(name) {
				t.Errorf("%d kits: op %d is %d, not %d", len(j.kits), op, call.Answer.Value, name)
			}
		}
	}
	if len(a) != 2 || len(b) != 2 || len(c) != 1 {
		t.Error("Join changed what was handed in")
	}
}

// P3.7 and P6: the kit is a new one.
func TestJoinIsNew(t *testing.T) {
	own := machine.Own(1)
	kit := machine.Join(own)
	kit[opTest] = named(1)
	delete(kit, api.OpLook)
	if len(own) != 2 || own[api.OpLook] == nil {
		t.Error("Join handed out what was handed in")
	}
	kits := []machine.Kit{own, nil}
	machine.Join(kits...)
	if len(kits[0]) != 2 || kits[1] != nil {
		t.Error("Join changed its list")
	}
}

// P3.8: each of the reasons for which Play refuses, ErrConfig ahead of ErrLong.
func TestPlayRefused(t *testing.T) {
	words, moves := make([]uint64, api.MaxWords+1), make([]api.Move, api.MaxMoves+1)
	for _, c := range []struct {
		threads int
		words   []uint64
		moves   []api.Move
		want    api.Errno
	}{
		{0, nil, nil, api.ErrConfig},
		{-1, nil, nil, api.ErrConfig},
		{api.MaxThreads + 1, nil, nil, api.ErrConfig},
		{math.MinInt, words, moves, api.ErrConfig},
		{math.MaxInt, words, nil, api.ErrConfig},
		{0, nil, moves, api.ErrConfig},
		{1, words, nil, api.ErrLong},
		{1, nil, moves, api.ErrLong},
		{api.MaxThreads, words, moves, api.ErrLong},
	} {
		r, e := machine.Play(c.threads, c.words, c.moves)
		if e != c.want || r.Calls != nil || r.Trace != nil || r.Shifts != nil || r.Words != nil {
			t.Errorf("Play(%d, %d words, %d moves) = %+v, %d", c.threads, len(c.words), len(c.moves), r, e)
		}
	}
}

// P3.8: the limits themselves are played.
func TestPlayAtItsLimits(t *testing.T) {
	moves := make([]api.Move, 0, api.MaxMoves)
	for len(moves) < api.MaxMoves-2 {
		moves = append(moves, step(15))
	}
	moves = append(moves, lookAt(15, api.MaxWords-1), step(15))
	words := make([]uint64, api.MaxWords)
	words[api.MaxWords-1] = 6
	r := playOf(t, api.MaxThreads, words, moves)
	want := api.Call{Thread: 15, Op: api.OpLook, Arg: api.MaxWords - 1, Begin: api.MaxMoves - 2,
		End: api.MaxMoves - 1, Point: api.MaxMoves - 1, Answer: value(6)}
	if !slices.Equal(r.Calls, []api.Call{want}) || !slices.Equal(r.Words, words) {
		t.Errorf("%+v", r.Calls)
	}
	wantRun(t, playOf(t, 1, nil, nil), api.Run{})
	wantRun(t, playOf(t, 1, []uint64{7}, nil), api.Run{Words: []uint64{7}})
}
