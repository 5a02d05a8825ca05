package witness_test

import (
	"slices"
	"testing"

	"reclaim/api"
	"reclaim/model"
	"reclaim/witness"
)

// The chapter's words once more, as they stand there: each pair of calls is held against each other, each list of
// numbers is made and asked.

func plainMay(l []api.Call) bool {
	for i, c := range l {
		if !plainAlone(c) || i > 0 && c.Begin <= l[i-1].Begin {
			return false
		}
		for _, other := range l[i+1:] {
			if plainShared(c, other) || c.Thread == other.Thread && (c.End == -1 || c.End >= other.Begin) {
				return false
			}
		}
	}
	return true
}

func plainAlone(c api.Call) bool {
	threads := c.Thread >= 0 && c.Thread <= 15
	begins := c.Begin >= 0
	ends := c.End == -1 || c.End > c.Begin
	point := c.Point == -1 || c.Point > c.Begin && (c.End == -1 || c.Point <= c.End)
	kind := c.Answer.Kind >= 0 && c.Answer.Kind <= 6 && (c.Answer.Kind == 0) == (c.End == -1)
	value := c.Answer.Kind == 2 || c.Answer.Value == 0
	return threads && begins && ends && point && kind && value
}

func plainShared(c, other api.Call) bool {
	for _, a := range []int{c.Begin, c.End, c.Point} {
		for _, b := range []int{other.Begin, other.End, other.Point} {
			if a == b && a != -1 {
				return true
			}
		}
	}
	return false
}

func plainBefore(l []api.Call, i, j int) bool { return l[i].End != -1 && l[i].End < l[j].Begin }

func plainCounts(c api.Call) bool {
	for _, of := range ops {
		if slices.Contains(of, c.Op) {
			return true
		}
	}
	return false
}

// plainWidth counts at each move at which a call begins.
func plainWidth(l []api.Call) int {
	widest := 0
	for _, now := range l {
		width := 0
		for _, c := range l {
			if c.Begin <= now.Begin && (c.End == -1 || now.Begin < c.End) {
				width++
			}
		}
		widest = max(widest, width)
	}
	return widest
}

// plainPoints goes through the moves one by one.
func plainPoints(l []api.Call) []int {
	last := 0
	for _, c := range l {
		last = max(last, c.Point)
	}
	var out []int
	for move := 0; move <= last; move++ {
		for i, c := range l {
			if c.Point == move && plainCounts(c) {
				out = append(out, i)
			}
		}
	}
	return out
}

func plainLeft(l []api.Call, order []int) (api.Contents, api.Errno) {
	if !plainMay(l) {
		return api.Contents{}, api.ErrCalls
	}
	for place, n := range order {
		if n < 0 || n >= len(l) || !plainCounts(l[n]) || slices.Contains(order[:place], n) {
			return api.Contents{}, api.ErrOrder
		}
	}
	for n, c := range l {
		if plainCounts(c) && c.End != -1 && !slices.Contains(order, n) {
			return api.Contents{}, api.ErrOrder
		}
	}
	for place, n := range order {
		for _, in := range order[:place] {
			if plainBefore(l, n, in) {
				return api.Contents{}, api.ErrEarly
			}
		}
	}
	var left api.Contents
	for _, n := range order {
		next, may, _ := model.Allows(left, l[n])
		if !may {
			return api.Contents{}, api.ErrAnswer
		}
		left = next
	}
	return left, api.OK
}

// plainOrders is all orders that explain, the least first: of all lists of numbers of calls that count, none twice.
func plainOrders(l []api.Call) [][]int {
	var out [][]int
	var grow func(order []int)
	grow = func(order []int) {
		if _, e := plainLeft(l, order); e == api.OK {
			out = append(out, slices.Clone(order))
		}
		for n, c := range l {
			if plainCounts(c) && !slices.Contains(order, n) {
				grow(append(order, n))
			}
		}
	}
	grow(nil)
	slices.SortFunc(out, slices.Compare)
	return out
}

// wantPlainFound asks Find and Count for what all orders that there are tell, and tells how many those are.
func wantPlainFound(t *testing.T, l []api.Call) int {
	t.Helper()
	orders := plainOrders(l)
	if len(orders) == 0 {
		wantNone(t, l)
	} else {
		wantFound(t, l, len(orders), orders[0]...)
	}
	return len(orders)
}

// P12.1: May over chance calls of which some are spoilt.
func TestPlainMay(t *testing.T) {
	d := dice(31)
	may := map[bool]int{}
	for range 20000 {
		l := d.spoilt(d.history(6))
		want := plainMay(l)
		may[want]++
		if got := witness.May(l); got != want {
			t.Fatalf("May(%+v) = %v", l, got)
		}
	}
	if may[true] < 3000 || may[false] < 3000 {
		t.Errorf("only %d that may be, %d that may not", may[true], may[false])
	}
}

// P12.2 to P12.4: Before, Width and Points over chance calls.
func TestPlainTimes(t *testing.T) {
	d := dice(32)
	widths := map[int]int{}
	for range 3000 {
		l := d.hidden(d.history(9))
		for i := range l {
			for j := range l {
				wantBefore(t, l, i, j, plainBefore(l, i, j))
			}
		}
		width := plainWidth(l)
		widths[width]++
		wantWidth(t, l, width)
		wantPoints(t, l, plainPoints(l)...)
		if t.Failed() {
			t.FailNow()
		}
	}
	for width := 1; width <= 4; width++ {
		if widths[width] < 100 {
			t.Errorf("only %d of width %d", widths[width], width)
		}
	}
}

// P12.5, P12.6: Check and Left over chance orders of chance calls.
func TestPlainCheck(t *testing.T) {
	d := dice(33)
	met := map[api.Errno]int{}
	for range 20000 {
		l := d.turned(12)
		if d.often(1) {
			l = d.spoilt(l)
		}
		order := d.order(l)
		left, want := plainLeft(l, order)
		met[want]++
		wantCheck(t, l, order, want)
		if want == api.OK {
			wantLeft(t, l, order, left)
		}
		if t.Failed() {
			t.FailNow()
		}
	}
	for _, e := range []api.Errno{api.OK, api.ErrCalls, api.ErrOrder, api.ErrEarly, api.ErrAnswer} {
		if met[e] < 200 {
			t.Errorf("error %d: only %d times", e, met[e])
		}
	}
}

// P12.7, P12.8: Find and Count over chance calls, against all orders that there are.
func TestPlainFind(t *testing.T) {
	d := dice(34)
	var unexplained, single, several, opens int
	for range 2500 {
		l := d.hidden(d.turned(5))
		switch wantPlainFound(t, l) {
		case 0:
			unexplained++
		case 1:
			single++
		default:
			several++
		}
		if slices.ContainsFunc(l, func(c api.Call) bool { return c.End == -1 }) {
			opens++
		}
		if t.Failed() {
			t.FailNow()
		}
	}
	if unexplained < 200 || single < 200 || several < 200 || opens < 200 {
		t.Errorf("only %d unexplained, %d with one order, %d with several; %d with calls that have not ended", unexplained, single, several, opens)
	}
}

// P12.7, P12.8: likewise of eight calls.
func TestPlainFindEight(t *testing.T) {
	d := dice(35)
	for tried := 0; tried < 12; {
		l := d.turned(8)
		if counted(l) < 8 {
			continue
		}
		tried++
		wantPlainFound(t, l)
	}
}

func counted(l []api.Call) int {
	count := 0
	for _, c := range l {
		if plainCounts(c) {
			count++
		}
	}
	return count
}
