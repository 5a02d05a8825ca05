package model_test

import (
	"testing"

	"reclaim/api"
)

// call is a row's call with that answer. What isn't looked at is odd.
func (r row) call(a api.Answer) api.Call {
	return api.Call{Thread: -3, Op: r.op, Arg: r.arg, Data: r.data, Begin: 9, End: -4, Point: 1 << 40, Answer: a}
}

// P11.4: a call that hasn't ended, and one that has the right answer.
func TestAllowsRight(t *testing.T) {
	eachRow(func(r row) {
		wantAllows(t, r.s, r.call(none), r.left)
		wantAllows(t, r.s, r.call(r.want), r.left)
		wantAllows(t, r.s, api.Call{Op: r.op, Arg: r.arg, Data: r.data, Answer: r.want}, r.left)
	})
}

// P11.4: Full, of the ops that put something in alone; it changes nothing, also where there is nothing to put in.
func TestAllowsFull(t *testing.T) {
	puts := map[api.Op]int{api.OpPost: 0, api.OpPush: 0, api.OpEnqueue: 0, api.OpInsert: 0, api.OpAdd: 0}
	refused := 0
	eachRow(func(r row) {
		if _, may := puts[r.op]; !may {
			wantNot(t, r.s, r.call(full))
			return
		}
		if r.want == no {
			refused++
		}
		puts[r.op]++
		wantAllows(t, r.s, r.call(full), r.s)
	})
	for op, count := range puts {
		if count == 0 {
			t.Errorf("no call of op %d", op)
		}
	}
	if refused == 0 {
		t.Error("no call that has nothing to put in")
	}
}

// P11.4: the right kind with another value, and every other kind.
func TestAllowsWrong(t *testing.T) {
	eachRow(func(r row) {
		for _, v := range []int{-1, 1, least, greatest, r.arg, r.data} {
			if a := (api.Answer{Kind: r.want.Kind, Value: v}); a != r.want {
				wantNot(t, r.s, r.call(a))
			}
		}
		for kind := api.AnswerKind(-2); kind < 9; kind++ {
			if kind == api.AnswerNone || kind == api.AnswerFull || kind == r.want.Kind {
				continue
			}
			for _, v := range []int{0, r.want.Value, 1} {
				wantNot(t, r.s, r.call(api.Answer{Kind: kind, Value: v}))
			}
		}
	})
}

// P11.4: None and Full are told by their kinds.
func TestAllowsKinds(t *testing.T) {
	s := setOf(5)
	wantAllows(t, s, api.Call{Op: api.OpDelete, Arg: 5, Answer: api.Answer{Kind: api.AnswerNone, Value: 3}}, setOf())
	wantAllows(t, s, api.Call{Op: api.OpInsert, Arg: 6, Answer: api.Answer{Kind: api.AnswerFull, Value: 3}}, s)
	wantNot(t, s, api.Call{Op: api.OpDelete, Arg: 5, Answer: api.Answer{Kind: api.AnswerFull, Value: 3}})
}
