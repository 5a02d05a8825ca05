package witness_test

import (
	"slices"
	"testing"

	"reclaim/api"
	"reclaim/witness"
)

// askAll asks each call of the face.
func askAll(l []api.Call, order []int, i, j int) {
	witness.May(l)
	witness.Before(l, i, j)
	witness.Width(l)
	witness.Points(l)
	witness.Check(l, order)
	witness.Left(l, order)
	witness.Find(l)
	witness.Count(l)
}

// within is a list in the midst of a greater one, with edges around it.
func within[T any](values []T, edge T) []T {
	return append(append([]T{edge}, values...), edge, edge, edge, edge)
}

// inner is the list within, with all behind it as its spare room.
func inner[T any](around []T) []T { return around[1 : len(around)-4] }

// fill writes one thing into all of a list, its spare room too.
func fill[T any](values []T, with T) {
	for i := range values[:cap(values)] {
		values[:cap(values)][i] = with
	}
}

// handed is calls and an order of them, of all kinds.
func handed() (all [][]api.Call, orders [][]int) {
	odd := late()
	odd[1].Begin = 0
	return [][]api.Call{late(), three(), meeting(), together(6, api.OpPush, done), never(5, api.OpInsert), row(12, api.OpAdd, yes), odd, nil},
		[][]int{list(1, 0, 2), list(2, 0, 1), upTo(8), list(5, 4, 3, 2, 1, 0), list(3, 1), upTo(12), list(2, 1), list(0)}
}

// P6: what is handed in stays as it was, its spare room too.
func TestKeepsWhatIsHandedIn(t *testing.T) {
	all, orders := handed()
	for k, l := range all {
		edge := call(7, api.OpPop, 77, 777, 7777, empty)
		around, list := within(l, edge), within(orders[k], -77)
		want, wantList := slices.Clone(around), slices.Clone(list)
		askAll(inner(around), inner(list), 0, 1)
		if !slices.Equal(around, want) || !slices.Equal(list, wantList) {
			t.Fatalf("%+v and %v have become %+v and %v", want, wantList, around, list)
		}
	}
}

// told is all that is answered of calls and an order.
type told struct {
	points, found []int
	left          api.Contents
}

func tell(l []api.Call, order []int) told {
	var x told
	x.points, _ = witness.Points(l)
	x.found, _ = witness.Find(l)
	x.left, _ = witness.Left(l, order)
	return x
}

func (x told) same(other told) bool {
	return slices.Equal(x.points, other.points) && slices.Equal(x.found, other.found) && alike(x.left, other.left)
}

// lists are all lists of what was answered.
func (x told) lists() [][]int {
	return [][]int{x.points, x.found, x.left.Cell, x.left.Stack, x.left.Queue, x.left.Set}
}

// P6: what is written into an answer, its spare room too, is seen neither in what was handed in, nor in another
// answer, nor in another list of that one; and what was handed in is not kept.
func TestAnswersAreNew(t *testing.T) {
	all, orders := handed()
	for k := range all {
		around, list := within(all[k], api.Call{}), within(orders[k], -77)
		wantAround, wantList := slices.Clone(around), slices.Clone(list)
		l, order := inner(around), inner(list)
		first, second := tell(l, order), tell(l, order)
		for i, written := range first.lists() {
			fill(written, i+100)
		}
		for i, written := range first.lists() {
			for _, v := range written[:cap(written)] {
				if v != i+100 {
					t.Fatalf("two lists of the answers to %+v share: list %d has %d", l, i, v)
				}
			}
		}
		fill(first.left.Table, api.Pair{Key: 55, Value: 55})
		if !slices.Equal(around, wantAround) || !slices.Equal(list, wantList) {
			t.Fatalf("an answer is part of what was handed in: %+v, %v", around, list)
		}
		if third := tell(l, order); !second.same(third) {
			t.Fatalf("two answers share: %+v, not %+v", second, third)
		}
		fill(around, api.Call{Thread: 5})
		fill(list, 5)
		allOnce, ordersOnce := handed()
		if third := tell(allOnce[k], ordersOnce[k]); !second.same(third) {
			t.Fatalf("what was handed in is kept: %+v, not %+v", second, third)
		}
	}
}

// P6: the same calls are answered the same, whatever was asked between.
func TestSameAgain(t *testing.T) {
	d := dice(51)
	for range 300 {
		l := d.hidden(d.turned(6))
		order := d.order(l)
		first := tell(l, order)
		askAll(d.spoilt(l), d.order(l), 0, 0)
		if again := tell(slices.Clone(l), slices.Clone(order)); !first.same(again) {
			t.Fatalf("of %+v, %v: %+v, then %+v", l, order, first, again)
		}
	}
}

// P5: calls of any numbers are answered, and just those that may be are not refused.
func TestAnyNumbers(t *testing.T) {
	d := dice(52)
	numbers := []int{least, least + 1, -1 << 32, -2, -1, 0, 1, 2, 7, 15, 16, 1 << 32, greatest - 1, greatest}
	any := func() int { return numbers[d.below(len(numbers))] }
	may := 0
	for range 120000 {
		var l []api.Call
		for range d.below(4) {
			l = append(l, api.Call{Thread: d.below(17), Op: api.Op(any()), Arg: any(), Data: any(), Begin: any(), End: any(), Point: any(), Answer: api.Answer{Kind: api.AnswerKind(d.below(8)), Value: any()}})
			if c := &l[len(l)-1]; d.often(7) {
				of := ops[1+d.below(5)]
				c.Op, c.Answer.Value = of[d.below(len(of))], 0
			}
		}
		order := list(any(), any(), any())[:d.below(4)]
		askAll(l, order, any(), any())
		want := plainMay(l)
		wantMay(t, "any numbers", l, want)
		_, e := plainLeft(l, order)
		wantCheck(t, l, order, e)
		if want && len(l) > 0 {
			may++
			wantWidth(t, l, plainWidth(l))
		}
		if t.Failed() {
			t.FailNow()
		}
	}
	if may < 500 {
		t.Errorf("only %d that may be", may)
	}
}

// P5: keys and values at the edges of int.
func TestAnyValues(t *testing.T) {
	l := calls(
		data(least, call(0, api.OpAdd, greatest, 0, 9, yes)),
		data(greatest, call(1, api.OpAdd, least, 1, 10, yes)),
		call(2, api.OpGet, greatest, 2, 11, value(least)),
		call(3, api.OpInsert, least, 3, 12, yes),
		call(4, api.OpPush, greatest, 4, 13, done),
		call(5, api.OpPop, 0, 5, 14, value(greatest)),
		open(6, api.OpPost, least, 6),
		call(7, api.OpRead, 0, 7, greatest, value(least)),
	)
	wantLeft(t, l, upTo(8), api.Contents{Cell: list(least), Set: list(least), Table: []api.Pair{{Key: least, Value: greatest}, {Key: greatest, Value: least}}})
	wantFound(t, l, 8*7*6*5*4*3*2/2/2/2, upTo(8)...)
}
