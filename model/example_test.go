package model_test

import (
	"testing"

	"reclaim/api"
	"reclaim/model"
)

// The chapter's examples.

func TestExample1(t *testing.T) {
	wantDo(t, api.Contents{}, api.OpPop, 0, 0, empty, api.Contents{})
	s, a := do(t, api.Contents{}, api.OpPush, 5, 0)
	if a != done {
		t.Errorf("%+v", a)
	}
	wantDo(t, s, api.OpPush, 6, 0, done, api.Contents{Stack: list(6, 5)})
	wantDo(t, api.Contents{Stack: list(6, 5)}, api.OpPop, 0, 0, value(6), api.Contents{Stack: list(5)})
}

func TestExample2(t *testing.T) {
	s := tableOf(1, 10, 3, 30)
	wantDo(t, s, api.OpAdd, 2, 20, yes, tableOf(1, 10, 2, 20, 3, 30))
	wantDo(t, s, api.OpAdd, 3, 99, no, s)
	wantDo(t, s, api.OpRemove, 1, 0, value(10), tableOf(3, 30))
	wantDo(t, s, api.OpGet, 2, 0, no, s)
}

func TestExample3(t *testing.T) {
	s := setOf(5)
	wantAllows(t, s, api.Call{Op: api.OpInsert, Arg: 7, Answer: full}, s)
	wantNot(t, s, api.Call{Op: api.OpDelete, Arg: 5, Answer: full})
	wantAllows(t, s, api.Call{Op: api.OpDelete, Arg: 5}, setOf())
	wantNot(t, s, api.Call{Op: api.OpInsert, Arg: 5, Answer: yes})
}

func TestExample4(t *testing.T) {
	calls := []api.Call{{Op: api.OpPush, Arg: 1, Answer: done}, {Op: api.OpPop, Answer: value(2)}}
	wantPlay(t, api.Contents{}, calls, 1, api.Contents{Stack: list(1)})
	if model.May(setOf(2, 2)) {
		t.Error("set 2, 2 may be")
	}
	wantRefused(t, setOf(2, 2), api.OpContains, api.ErrState)
	wantRefused(t, api.Contents{}, api.OpRegister, api.ErrIllegal)
}
