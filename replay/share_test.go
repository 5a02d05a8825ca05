package replay_test

import (
	"slices"
	"testing"

	"reclaim/api"
	"reclaim/replay"
)

// handed is what the calls are given, each list within a greater one.
type handed struct {
	c       api.Config
	moves   []api.Move
	outer   [][]api.Move // around the scripts' list
	inside  [][]api.Move // around each script
	workers int
	a       api.Answer
}

func (d *dice) handed() handed {
	c := d.config(4)
	edge := flush(66)
	h := handed{c: c, moves: within(d.script(c, d.below(150)), edge), workers: 1 + d.below(16), a: []api.Answer{none, done, empty, value(1)}[d.below(4)]}
	var scripts [][]api.Move
	for _, moves := range d.scripts(c, d.below(5), 100) {
		around := within(moves, edge)
		h.inside = append(h.inside, around)
		scripts = append(scripts, inner(around))
	}
	h.outer = within(scripts, []api.Move{edge})
	return h
}

// copied is the same, in lists of its own.
func (h handed) copied() handed {
	out := h
	out.moves, out.outer, out.inside = slices.Clone(h.moves), slices.Clone(h.outer), slices.Clone(h.inside)
	for i := range out.inside {
		out.inside[i] = slices.Clone(h.inside[i])
		out.outer[i+1] = inner(out.inside[i])
	}
	return out
}

func (h handed) same(o handed) bool {
	return slices.Equal(h.moves, o.moves) && slices.EqualFunc(h.outer, o.outer, slices.Equal) && slices.EqualFunc(h.inside, o.inside, slices.Equal)
}

func (h handed) spoil() {
	fill(h.moves, pop(55))
	for _, moves := range h.inside {
		fill(moves, pop(55))
	}
	fill(h.outer, idles(3))
}

// told is all that is answered.
type told struct {
	run   api.Run
	runs  []api.Run
	part  api.Run
	count int
}

func (h handed) tell() told {
	var x told
	x.run, _ = replay.Play(h.c, inner(h.moves))
	x.runs, _ = replay.Batch(h.c, inner(h.outer), h.workers)
	x.part, x.count, _ = replay.Until(h.c, inner(h.moves), h.a)
	return x
}

func (x told) same(y told) bool {
	return sameRun(x.run, y.run) && sameRuns(x.runs, y.runs) && sameRun(x.part, y.part) && x.count == y.count
}

func (x told) spoil() {
	fillRun(x.run)
	fillRun(x.part)
	for _, run := range x.runs {
		fillRun(run)
	}
	fill(x.runs, api.Run{Words: []uint64{44}})
}

// P6: what is handed in stays as it was, its spare room too, and is not kept; what is written into an answer, its
// spare room too, is seen neither there nor in another answer.
func TestSharesNothing(t *testing.T) {
	d := dice(71)
	for range 150 {
		h := d.handed()
		was := h.copied()
		first, second := h.tell(), h.tell()
		if !h.same(was) {
			t.Fatalf("%+v has become %+v", was, h)
		}
		if !first.same(second) {
			t.Fatalf("of %+v: %+v, then %+v", h, first, second)
		}
		first.spoil()
		if !h.same(was) {
			t.Fatalf("an answer is part of what was handed in: %+v", h)
		}
		third := h.tell()
		h.spoil()
		if !second.same(third) || !third.same(was.tell()) {
			t.Fatalf("two answers share, or what was handed in is kept: %+v, %+v", second, third)
		}
	}
}

// P6: no two lists of one answer share, of scripts that are one list neither: what is written into one of them, its
// spare room too, is seen in no other one.
func TestListsOfOneAnswer(t *testing.T) {
	c, moves := threads(2), meeting()
	scripts := [][]api.Move{moves, moves, moves[:20], moves, nil, nil}
	want := plains(t, c, scripts)
	for _, workers := range []int{1, 2, 16} {
		for spoiled := range scripts {
			runs, e := replay.Batch(c, scripts, workers)
			if e != api.OK || len(runs) != len(want) {
				t.Fatalf("%d runs, %d", len(runs), e)
			}
			fillRun(runs[spoiled])
			runs[spoiled] = want[spoiled]
			if !sameRuns(runs, want) {
				t.Errorf("run %d shares with another", spoiled)
			}
		}
	}
}

// P6: the same is answered whatever was asked between, and however the lists lie.
func TestSameAgain(t *testing.T) {
	d := dice(72)
	for range 100 {
		h, other := d.handed(), d.handed()
		first := h.tell()
		other.tell()
		if again := h.copied().tell(); !first.same(again) {
			t.Fatalf("%+v, then %+v", first, again)
		}
	}
}

// P7: nil and empty lists are the same.
func TestNilAndEmpty(t *testing.T) {
	c := threads(3)
	start := plain(t, c, nil)
	for _, moves := range [][]api.Move{nil, {}, meeting()[:0]} {
		wantPlay(t, "no moves", c, moves, start)
		wantUntil(t, "no moves", c, moves, none, 0)
		wantBatch(t, "no moves", c, [][]api.Move{moves, moves}, 2, []api.Run{start, start})
	}
	wantBatch(t, "no scripts", c, nil, 2, nil)
	wantBatch(t, "no scripts", c, [][]api.Move{}, 2, nil)
}

// numbers are those that calls are likely to go wrong at.
var numbers = []int{
	least, least + 1, -1 << 32, -65537, -2, -1, 0, 1, 2, 3, 4, 8, 9, 15, 16, 17, 4095, 4096, 4097, 65535, 65536, 65537, 1 << 32, greatest - 1, greatest,
}

// any is one of all numbers, or mostly one of the small ones.
func (d *dice) any() int {
	if d.often(8) {
		return numbers[6+d.below(4)]
	}
	return numbers[d.below(len(numbers))]
}

func (d *dice) anyMoves(most int) []api.Move {
	moves := make([]api.Move, d.below(most+1))
	for i := range moves {
		moves[i] = api.Move{Thread: d.any(), Op: api.Op(d.any() * (d.below(21))), Arg: d.any(), Data: d.any()}
	}
	return moves
}

func mayBe(c api.Config) bool {
	in := func(n, least, most int) bool { return n >= least && n <= most }
	return in(c.Threads, 1, 16) && in(c.Records, 1, 16) && in(c.Hazards, 3, 8) && in(c.Retire, 1, 1024) &&
		in(c.Cache, 0, 64) && in(c.Slots, 1, 1024) && in(c.Buckets, 1, 64)
}

// P5, P8: any numbers are answered, with the error that the chapter's words tell, or as the pool does.
func TestAnyNumbers(t *testing.T) {
	d := dice(73)
	met := map[api.Errno]int{}
	for range 3000 {
		c := threads(3)
		if d.often(2) {
			c = configOf(d.any(), d.any(), 3+d.any(), d.any(), d.any(), d.any(), d.any())
		}
		scripts := make([][]api.Move, d.below(4))
		for i := range scripts {
			scripts[i] = d.anyMoves(40)
		}
		moves, workers, a := d.anyMoves(60), d.any(), api.Answer{Kind: api.AnswerKind(d.any()), Value: d.any()}
		switch {
		case !mayBe(c):
			met[api.ErrConfig]++
			g := given{c: c, scripts: append(scripts, moves), workers: workers, a: a}
			g.wantNoRun(t, "any numbers", api.ErrConfig)
			g.wantNoRuns(t, "any numbers", api.ErrConfig)
		case workers < 1 || workers > 16:
			met[api.ErrRange]++
			given{c: c, scripts: scripts, workers: workers}.wantNoRuns(t, "any numbers", api.ErrRange)
		default:
			met[api.OK]++
			wantPlay(t, "any numbers", c, moves, plain(t, c, moves))
			wantUntil(t, "any numbers", c, moves, a, firstEnd(t, c, moves, a))
			wantBatch(t, "any numbers", c, scripts, workers, plains(t, c, scripts))
		}
		if t.Failed() {
			t.Fatalf("%+v, %v, %v, %d, %+v", c, moves, scripts, workers, a)
		}
	}
	for _, e := range []api.Errno{api.OK, api.ErrConfig, api.ErrRange} {
		if met[e] < 300 {
			t.Errorf("only %d of the error %d", met[e], e)
		}
	}
}
