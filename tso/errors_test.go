package tso_test

import (
	"testing"

	"reclaim/api"
	"reclaim/tso"
)

// badPrograms may not be, each for another reason.
func badPrograms() []api.Litmus {
	return []api.Litmus{
		{}, {Words: []int{0}}, {Threads: make(codes, 1)}, litmus(make([]int, 7), nil), litmus([]int{0}, nil, nil, nil, nil, nil),
		litmus([]int{0}, times(11, fence())), litmus([]int{0}, nil, []api.Instr{{}}), litmus([]int{0}, []api.Instr{{Kind: 8}}),
		litmus([]int{0}, []api.Instr{load(0, 1)}), litmus([]int{0}, []api.Instr{store(-1, 0)}), litmus([]int{0}, []api.Instr{storeReg(0, 4)}),
		litmus([]int{0}, []api.Instr{storeReg(0, -2)}), litmus([]int{0}, []api.Instr{swap(4, 0, 0, 0)}), litmus([]int{0}, []api.Instr{set(-1, 0)}),
		litmus([]int{0}, []api.Instr{add(4, 0)}), litmus([]int{0}, []api.Instr{skip(11, 0, 0)}), litmus([]int{0}, []api.Instr{skip(-1, 0, 0)}),
	}
}

func wantErrors(t *testing.T, l api.Litmus, o api.Order, s api.LitmusState, list []api.Turn, next, run api.Errno) {
	t.Helper()
	if got, happened, e := tso.Next(l, o, s, do(0)); e != next || e != api.OK && (happened || !isNoState(got)) {
		t.Errorf("Next of order %d, %s: %+v, %v, %v, not %v", o, code(l), got, happened, e, next)
	}
	if got, n, e := tso.Run(l, o, list); e != run || e != api.OK && (n != 0 || !isNoState(got)) {
		t.Errorf("Run of order %d, %s: %+v, %d, %v, not %v", o, code(l), got, n, e, run)
	}
}

func wantSearchErrors(t *testing.T, l api.Litmus, o api.Order, f api.Final, ends, way api.Errno) {
	t.Helper()
	if got, e := tso.Finals(l, o); e != ends || e != api.OK && got != nil {
		t.Errorf("Finals of order %d, %s: %+v, %v, not %v", o, code(l), got, e, ends)
	}
	if got, e := tso.Reach(l, o, f); e != way || e != api.OK && got != nil {
		t.Errorf("Reach of order %d, %s: %+v, %v, not %v", o, code(l), got, e, way)
	}
}

// P19.4 to P19.7: each error by itself.
func TestErrors(t *testing.T) {
	l := classic(t, "SB")
	first := begin(t, l)
	for _, bad := range badPrograms() {
		if e := tso.Check(bad); e != api.ErrLitmus {
			t.Errorf("%s: %v", code(bad), e)
		}
		wantErrors(t, bad, api.OrderTSO, first, nil, api.ErrLitmus, api.ErrLitmus)
		wantSearchErrors(t, bad, api.OrderTSO, one(0, 0), api.ErrLitmus, api.ErrLitmus)
		if got, e := tso.Fenced(bad); e != api.ErrLitmus || !isNoLitmus(got) {
			t.Errorf("%s: %+v, %v", code(bad), got, e)
		}
	}
	for _, o := range noOrders() {
		wantErrors(t, l, o, first, nil, api.ErrOrders, api.ErrOrders)
		wantSearchErrors(t, l, o, one(0, 0), api.ErrOrders, api.ErrOrders)
	}
	for _, o := range orders() {
		wantErrors(t, l, o, first, make(turns, 4096), api.OK, api.OK)
		wantErrors(t, l, o, api.LitmusState{}, make(turns, 4097), api.ErrRange, api.ErrLong)
		wantSearchErrors(t, l, o, one(1, 1), api.OK, api.OK)
		wantSearchErrors(t, l, o, one(2, 2), api.OK, api.ErrFinal)
	}
	wantErrors(t, l, api.OrderTSO, first, nil, api.OK, api.OK)
}

// P8, P19.4 to P19.8: of several errors the first one in the chapter's order.
func TestErrorsInOrder(t *testing.T) {
	l := classic(t, "SB")
	long := make(turns, 4097)
	for _, bad := range badPrograms() {
		for _, o := range append(noOrders(), orders()...) {
			wantErrors(t, bad, o, api.LitmusState{}, long, api.ErrLitmus, api.ErrLitmus)
			wantSearchErrors(t, bad, o, api.Final{}, api.ErrLitmus, api.ErrLitmus)
		}
	}
	for _, o := range noOrders() {
		wantErrors(t, l, o, api.LitmusState{}, long, api.ErrOrders, api.ErrLong)
		wantSearchErrors(t, l, o, api.Final{}, api.ErrOrders, api.ErrOrders)
		wantSearchErrors(t, oneMore(), o, api.Final{}, api.ErrOrders, api.ErrOrders)
	}
	wantSearchErrors(t, oneMore(), api.OrderTSO, api.Final{}, api.ErrStates, api.ErrStates)
	if _, e := tso.Fenced(litmus([]int{0}, times(6, store(0, 0)), []api.Instr{{}})); e != api.ErrLitmus {
		t.Errorf("Fenced: %v", e)
	}
	if _, e := tso.Fenced(litmus([]int{0}, times(6, store(0, 0)), nil)); e != api.ErrLong {
		t.Errorf("Fenced: %v", e)
	}
}
