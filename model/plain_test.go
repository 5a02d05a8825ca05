package model_test

import (
	"slices"
	"testing"

	"reclaim/api"
	"reclaim/model"
)

// errorOf is the error of calls over contents, by the chapter's words.
func errorOf(s api.Contents, ops ...api.Op) api.Errno {
	if !mayBe(s) {
		return api.ErrState
	}
	for _, op := range ops {
		if !slices.ContainsFunc(objects, func(of []api.Op) bool { return slices.Contains(of, op) }) {
			return api.ErrIllegal
		}
	}
	return api.OK
}

// plainDo, plainAllows and plainPlay are the chapter's words once more, over a world.

func plainDo(s api.Contents, op api.Op, arg, data int) (api.Contents, api.Answer, api.Errno) {
	if e := errorOf(s, op); e != api.OK {
		return api.Contents{}, none, e
	}
	w := worldOf(s)
	a := w.do(op, arg, data)
	return w.contents(), a, api.OK
}

func plainAllows(s api.Contents, c api.Call) (api.Contents, bool, api.Errno) {
	if e := errorOf(s, c.Op); e != api.OK {
		return api.Contents{}, false, e
	}
	w := worldOf(s)
	if !w.allows(c) {
		return api.Contents{}, false, api.OK
	}
	return w.contents(), true, api.OK
}

func plainPlay(s api.Contents, calls []api.Call) (api.Contents, int, api.Errno) {
	var ops []api.Op
	for _, c := range calls {
		ops = append(ops, c.Op)
	}
	if e := errorOf(s, ops...); e != api.OK {
		return api.Contents{}, 0, e
	}
	w := worldOf(s)
	for i, c := range calls {
		if !w.allows(c) {
			return w.contents(), i, api.OK
		}
	}
	return w.contents(), -1, api.OK
}

// wantPlainDo asks Do for what the chapter's words say, and tells the error.
func wantPlainDo(t *testing.T, s api.Contents, op api.Op, arg, data int) api.Errno {
	t.Helper()
	left, a, e := model.Do(s, op, arg, data)
	wantLeft, want, wantE := plainDo(s, op, arg, data)
	if e != wantE || a != want || !alike(left, wantLeft) {
		t.Fatalf("Do(%+v, %d, %d, %d) = %+v, %+v, %d, not %+v, %+v, %d", s, op, arg, data, left, a, e, wantLeft, want, wantE)
	}
	return e
}

// wantPlainAllows asks Allows likewise.
func wantPlainAllows(t *testing.T, s api.Contents, c api.Call) (bool, api.Errno) {
	t.Helper()
	left, so, e := model.Allows(s, c)
	wantLeft, want, wantE := plainAllows(s, c)
	if e != wantE || so != want || !alike(left, wantLeft) {
		t.Fatalf("Allows(%+v, %+v) = %+v, %v, %d, not %+v, %v, %d", s, c, left, so, e, wantLeft, want, wantE)
	}
	return so, e
}

// Over chance contents and calls all answer what the chapter's words say.
func TestPlainDo(t *testing.T) {
	d := dice(11)
	errors := map[api.Errno]int{}
	for range 30000 {
		s, op, arg, data := d.spoilt(), d.op(), d.key(), d.key()
		errors[wantPlainDo(t, s, op, arg, data)]++
		if model.May(s) != mayBe(s) {
			t.Fatalf("May(%+v) = %v", s, model.May(s))
		}
	}
	wantErrors(t, errors)
}

func TestPlainAllows(t *testing.T) {
	d := dice(12)
	errors, allowed := map[api.Errno]int{}, 0
	for range 60000 {
		s, c := d.spoilt(), api.Call{Thread: d.key(), Op: d.op(), Arg: d.key(), Data: d.key(), Begin: d.key(), End: d.key(), Point: d.key(), Answer: d.answer()}
		so, e := wantPlainAllows(t, s, c)
		errors[e]++
		if so {
			allowed++
		}
	}
	wantErrors(t, errors)
	if allowed < 10000 {
		t.Errorf("only %d may be", allowed)
	}
}

func TestPlainPlay(t *testing.T) {
	d := dice(13)
	errors, ends := map[api.Errno]int{}, 0
	for range 6000 {
		s := d.spoilt()
		calls := d.calls(s, d.below(25))
		left, at, e := model.Play(s, calls)
		wantLeft, want, wantE := plainPlay(s, calls)
		if e != wantE || at != want || !alike(left, wantLeft) {
			t.Fatalf("Play(%+v, %+v) = %+v, %d, %d, not %+v, %d, %d", s, calls, left, at, e, wantLeft, want, wantE)
		}
		errors[e]++
		if at == -1 {
			ends++
		}
	}
	wantErrors(t, errors)
	if ends < 1000 {
		t.Errorf("only %d come to the end", ends)
	}
}

// calls are some that mostly answer what they may.
func (d *dice) calls(s api.Contents, count int) []api.Call {
	w := worldOf(s)
	foreign := d.below(8) == 0
	var out []api.Call
	for len(out) < count {
		c := api.Call{Op: d.op(), Arg: d.key(), Data: d.key()}
		if errorOf(api.Contents{}, c.Op) != api.OK && !foreign {
			continue
		}
		switch roll := d.below(100); {
		case roll == 0:
			c.Answer = d.answer()
		case roll < 10:
			c.Answer = none
			w.do(c.Op, c.Arg, c.Data)
		case roll < 20 && (c.Op == api.OpPush || c.Op == api.OpInsert || c.Op == api.OpAdd):
			c.Answer = full
		default:
			c.Answer = w.do(c.Op, c.Arg, c.Data)
		}
		out = append(out, c)
	}
	return out
}

// wantErrors asks that each error was met, and that most of what was asked was answered.
func wantErrors(t *testing.T, met map[api.Errno]int) {
	t.Helper()
	if met[api.ErrState] < 100 || met[api.ErrIllegal] < 100 || met[api.OK] < 1000 || len(met) != 3 {
		t.Errorf("met %v", met)
	}
}
