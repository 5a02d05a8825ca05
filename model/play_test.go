package model_test

import (
	"slices"
	"testing"

	"reclaim/api"
	"reclaim/model"
)

func called(op api.Op, arg, data int, a api.Answer) api.Call {
	return api.Call{Op: op, Arg: arg, Data: data, Answer: a}
}

// story is calls of all objects that may answer so, each over what the one ahead has left.
func story() []api.Call {
	return []api.Call{
		called(api.OpPush, 1, 0, done), called(api.OpPush, 2, 0, done), called(api.OpPop, 0, 0, value(2)),
		called(api.OpEnqueue, 3, 0, done), called(api.OpPost, 4, 0, done), called(api.OpRead, 1, 0, value(4)),
		called(api.OpInsert, 5, 0, yes), called(api.OpInsert, 5, 0, no), called(api.OpInsert, 6, 0, full), called(api.OpContains, 6, 0, no),
		called(api.OpAdd, 7, 70, yes), called(api.OpAdd, 7, 71, full), called(api.OpAdd, 7, 71, no), called(api.OpGet, 7, 0, value(70)),
		called(api.OpRemove, 7, 0, none), called(api.OpGet, 7, 0, no), called(api.OpDequeue, 0, 0, value(3)), called(api.OpDequeue, 0, 0, empty),
		called(api.OpEnqueue, 8, 0, none), called(api.OpPost, 9, 0, full), called(api.OpDelete, 5, 0, yes), called(api.OpInsert, -5, 0, none),
	}
}

func storyEnd() api.Contents {
	return api.Contents{Cell: list(4), Stack: list(1), Queue: list(8), Set: list(-5)}
}

// P11.5: no call, one behind the other, and contents that are there at the beginning.
func TestPlay(t *testing.T) {
	wantPlay(t, api.Contents{}, nil, -1, api.Contents{})
	wantPlay(t, filled(), []api.Call{}, -1, filled())
	wantPlay(t, api.Contents{}, story(), -1, storyEnd())
	wantPlay(t, filled(), []api.Call{
		called(api.OpPop, 0, 0, value(7)), called(api.OpPop, 0, 0, value(-1)), called(api.OpPush, 4, 0, done),
		called(api.OpDequeue, 0, 0, value(3)), called(api.OpDelete, 2, 0, yes), called(api.OpRemove, 1, 0, value(-10)), called(api.OpPost, 0, 0, done),
	}, -1, api.Contents{Cell: list(0), Stack: list(4, 7), Queue: list(0, -3), Set: list(-5, 9), Table: pairs(-6, 60, 8, 80)})
}

// P11.5: it stops at the first call, at each in the middle and at the last that may not answer so, with what was
// left ahead of it; what stands behind isn't looked at, but for its op.
func TestPlayStops(t *testing.T) {
	wrong := []api.Call{called(api.OpPop, 0, 0, value(77)), called(api.OpInsert, 100, 0, no), called(api.OpRead, 0, 0, full), called(api.OpAdd, 100, 1, done)}
	for at := range len(story()) + 1 {
		left, stop, e := model.Play(api.Contents{}, story()[:at])
		if e != api.OK || stop != -1 {
			t.Fatalf("the first %d calls: %d, %d", at, stop, e)
		}
		for _, c := range wrong {
			wantPlay(t, api.Contents{}, slices.Insert(story(), at, c), at, left)
			wantPlay(t, api.Contents{}, slices.Insert(story(), at, c, c), at, left)
		}
	}
	wantPlay(t, filled(), wrong, 0, filled())
}

// P11.5: an op of no object is refused wherever it stands, also behind a call that may not answer so.
func TestPlayRefuses(t *testing.T) {
	stray := called(api.OpScan, 0, 0, none)
	wrong := called(api.OpPop, 0, 0, value(2))
	for at := range len(story()) + 1 {
		calls := slices.Insert(story(), at, stray)
		for _, calls := range [][]api.Call{calls, slices.Concat([]api.Call{wrong}, calls), slices.Concat(calls, []api.Call{wrong})} {
			if left, stop, e := model.Play(api.Contents{}, calls); e != api.ErrIllegal || stop != 0 || !alike(left, api.Contents{}) {
				t.Errorf("op of no object at %d: %+v, %d, %d", at, left, stop, e)
			}
			if left, stop, e := model.Play(setOf(2, 2), calls); e != api.ErrState || stop != 0 || !alike(left, api.Contents{}) {
				t.Errorf("and a state that may not be: %+v, %d, %d", left, stop, e)
			}
		}
	}
	for _, s := range odd() {
		if left, stop, e := model.Play(s, nil); e != api.ErrState || stop != 0 || !alike(left, api.Contents{}) {
			t.Errorf("no call over %+v: %+v, %d, %d", s, left, stop, e)
		}
	}
}

// Many calls are played in a time that isn't that of copying all for each.
func TestPlayMany(t *testing.T) {
	const count = 200000
	calls := make([]api.Call, 0, 4*count)
	for i := range count {
		calls = append(calls, called(api.OpPush, i, 0, done), called(api.OpEnqueue, i, 0, done))
	}
	for i := range count {
		calls = append(calls, called(api.OpPop, 0, 0, value(count-1-i)), called(api.OpDequeue, 0, 0, value(i)))
	}
	wantPlay(t, filled(), calls, 2*count+1, api.Contents{
		Cell: filled().Cell, Stack: append(descending(count-1), filled().Stack...), Queue: append(filled().Queue, ascending(count)...),
		Set: filled().Set, Table: filled().Table,
	})
	wantPlay(t, api.Contents{}, calls, -1, api.Contents{})
}

// ascending is 0 up to below n.
func ascending(n int) []int {
	out := make([]int, n)
	for i := range out {
		out[i] = i
	}
	return out
}

// descending is n-1 down to 0.
func descending(n int) []int {
	out := ascending(n)
	slices.Reverse(out)
	return out
}
