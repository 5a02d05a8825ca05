package tso_test

import (
	"slices"
	"testing"

	"reclaim/api"
	"reclaim/tso"
)

// eachProgram hands out the classics, and then programs by chance, with their ends under each order. What is refused
// is not handed out.
func eachProgram(t *testing.T, seed uint64, count int, yield func(l api.Litmus, ends [3][]api.Final)) {
	t.Helper()
	var all []api.Litmus
	for _, name := range tso.Names() {
		all = append(all, classic(t, name))
	}
	d := newDice(seed)
	for range count {
		all = append(all, d.small())
	}
	for _, l := range all {
		var ends [3][]api.Final
		refused := false
		for i, o := range orders() {
			f, e := tso.Finals(l, o)
			ends[i] = f
			refused = refused || e != api.OK
		}
		if !refused {
			yield(l, ends)
		}
	}
}

func among(some, all []api.Final) bool {
	for _, f := range some {
		if !slices.ContainsFunc(all, func(x api.Final) bool { return sameFinal(x, f) }) {
			return false
		}
	}
	return true
}

// P19.10: the ends of a stronger order are among those of a weaker one, which may have more.
func TestMoreOrderFewerEnds(t *testing.T) {
	more := [2]int{}
	eachProgram(t, 41, 300, func(l api.Litmus, ends [3][]api.Final) {
		for i := range 2 {
			if !among(ends[i], ends[i+1]) {
				t.Errorf("order %d, %s: %+v, then %+v", i+1, code(l), ends[i], ends[i+1])
			}
			if len(ends[i]) < len(ends[i+1]) {
				more[i]++
			}
		}
	})
	if more[0] < 20 || more[1] < 20 {
		t.Errorf("only %v programs have more", more)
	}
}

// P19.11: with fences behind all stores there are the ends of OrderSC alone.
func TestFencesMakeItSequential(t *testing.T) {
	held, gain := 0, 0
	eachProgram(t, 42, 200, func(l api.Litmus, ends [3][]api.Final) {
		f, e := tso.Fenced(l)
		if e != api.OK {
			return
		}
		for _, o := range orders() {
			got, e := tso.Finals(f, o)
			if e != api.OK {
				continue
			}
			held++
			if !sameFinals(got, ends[0]) {
				t.Errorf("order %d, %s: %+v, not %+v", o, code(f), got, ends[0])
			}
			if len(ends[2]) > len(ends[0]) {
				gain++
			}
		}
	})
	if held < 400 || gain < 40 {
		t.Errorf("only %d held, %d of them with other ends but for the fences", held, gain)
	}
}

// P19.12: a program of one thread has one end, the same under all orders.
func TestOneThreadOneEnd(t *testing.T) {
	d := newDice(43)
	held := 0
	for range 1500 {
		l := d.litmus(1, 6, 10)
		want, e := tso.Finals(l, api.OrderSC)
		if e != api.OK || len(want) != 1 {
			t.Fatalf("%s: %+v, %v", code(l), want, e)
		}
		for _, o := range weak() {
			got, e := tso.Finals(l, o)
			if e == api.OK && !sameFinals(got, want) {
				t.Errorf("order %d, %s: %+v, not %+v", o, code(l), got, want)
			}
			if e == api.OK {
				held++
			}
		}
	}
	if held < 2500 {
		t.Errorf("only %d held", held)
	}
}

// withoutStores turns each store into a swap.
func (d *dice) withoutStores(l api.Litmus) api.Litmus {
	for _, c := range l.Threads {
		for i := range c {
			if c[i].Kind == api.InstrStore {
				c[i] = swap(d.below(4), c[i].Addr, d.below(2), d.value())
			}
		}
	}
	return l
}

// P19.12: a program without stores has the same ends under all orders.
func TestNoStoresNoMatter(t *testing.T) {
	d := newDice(44)
	several := 0
	for range 1500 {
		l := d.withoutStores(d.litmus(4, 3, 4))
		want := finals(t, l, api.OrderSC)
		for _, o := range weak() {
			wantFinals(t, l, o, want...)
		}
		if len(want) > 1 {
			several++
		}
	}
	if several < 100 {
		t.Errorf("only %d have several ends", several)
	}
}

// P19.14: Run of the turns that Reach tells leaves that end, and something happens in each.
func TestEachEndHasItsWay(t *testing.T) {
	held := 0
	d := newDice(46)
	eachProgram(t, 45, 120, func(l api.Litmus, ends [3][]api.Final) {
		for i, o := range orders() {
			for _, f := range d.some(ends[i], 5) {
				way := reach(t, l, o, f)
				s, n, e := tso.Run(l, o, way)
				if e != api.OK || n != len(way) || !sameFinal(api.Final{Words: s.Words, Regs: s.Regs}, f) || !(plain{l, o}).isFinal(s) {
					t.Errorf("order %d, %s by %+v: %+v, %d, %v, not %+v", o, code(l), way, s, n, e, f)
				}
				held++
			}
		}
	})
	if held < 500 {
		t.Errorf("only %d ways", held)
	}
}
