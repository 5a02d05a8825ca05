package witness_test

import (
	"testing"

	"reclaim/api"
)

// together is calls of one op, each by a thread of its own, that all meet and have all ended.
func together(n int, op api.Op, a api.Answer) []api.Call {
	var out []api.Call
	for i := range n {
		out = append(out, call(i, op, i+1, i, 100+i, a))
	}
	return out
}

// never is together's calls, of which none has ended.
func never(n int, op api.Op) []api.Call {
	out := together(n, op, none)
	for i := range out {
		out[i].End = -1
	}
	return out
}

// row is calls of one op one behind the other.
func row(n int, op api.Op, a api.Answer) []api.Call {
	var out []api.Call
	for i := range n {
		out = append(out, call(0, op, i+1, 2*i, 2*i+1, a))
	}
	return out
}

// idle puts calls that don't count around others: some that end ahead of all, and one that never does.
func idle(l []api.Call) []api.Call {
	var out []api.Call
	for i := range 10 {
		out = append(out, call(14, api.OpScan, 0, 2*i, 2*i+1, done))
	}
	for _, c := range l {
		c.Begin += 30
		if c.End >= 0 {
			c.End += 30
		}
		out = append(out, c)
	}
	return append(out, open(14, api.OpTake, 0, 1000))
}

// P12.7, P12.8: of nothing, and of calls that don't count alone.
func TestFindNothing(t *testing.T) {
	wantFound(t, nil, 1)
	wantFound(t, []api.Call{}, 1)
	wantFound(t, idle(nil), 1)
	for _, op := range foreign {
		wantFound(t, calls(call(0, op, 0, 0, 1, done), open(0, op, 0, 2)), 1)
	}
}

// P12.7, P12.8: of up to eight calls; each more that meets the others has as many times more orders.
func TestFindEight(t *testing.T) {
	orders, begun := 1, 1 // of those that have ended; of those that have not: the empty one, or one of them first
	for n := 1; n <= 8; n++ {
		orders *= n
		begun = begun*n + 1
		wantFound(t, together(n, api.OpPush, done), orders, upTo(n)...)
		wantFound(t, together(n, api.OpInsert, yes), orders, upTo(n)...)
		wantFound(t, row(n, api.OpEnqueue, done), 1, upTo(n)...)
		wantFound(t, never(n, api.OpEnqueue), begun)
		wantFound(t, never(n, api.OpDelete), begun)
	}
}

// P12.7, P12.8: nine calls that count are too many, whatever they are; eight are not, among others that don't.
func TestFindNine(t *testing.T) {
	for n := 9; n <= 12; n++ {
		wantLong(t, together(n, api.OpPush, done))
		wantLong(t, together(n, api.OpPop, value(5)))
		wantLong(t, row(n, api.OpAdd, yes))
		wantLong(t, never(n, api.OpRead))
		wantLong(t, idle(row(n, api.OpPost, done)))
	}
	for _, of := range ops {
		for _, op := range of {
			wantLong(t, append(row(8, api.OpPush, done), open(5, op, 1, 50)))
		}
	}
	for _, op := range foreign {
		wantFound(t, append(row(8, api.OpPush, done), open(5, op, 1, 50)), 1, upTo(8)...)
	}
	wantFound(t, idle(row(8, api.OpPush, done)), 1, 10, 11, 12, 13, 14, 15, 16, 17)
	wantFound(t, idle(together(3, api.OpPush, done)), 6, 10, 11, 12)
	wantNone(t, idle(row(8, api.OpPop, value(1))))
}

// P12.7, P12.8: where none explains: the time, the values, or both.
func TestFindNone(t *testing.T) {
	wantNone(t, calls(call(0, api.OpPop, 0, 0, 1, value(1)), call(0, api.OpPush, 1, 2, 3, done)))
	wantNone(t, calls(call(0, api.OpPush, 1, 0, 1, done), call(0, api.OpPop, 0, 2, 3, empty)))
	wantNone(t, calls(call(0, api.OpPush, 1, 0, 9, full), call(1, api.OpPop, 0, 2, 3, value(1))))
	wantNone(t, calls(call(0, api.OpPop, 1, 0, 9, full)))
	wantNone(t, calls(call(0, api.OpPush, 1, 0, 9, yes)))
	wantNone(t, calls(call(0, api.OpInsert, 1, 0, 9, yes), call(1, api.OpInsert, 1, 1, 10, yes)))
	wantNone(t, append(together(7, api.OpPush, done), call(9, api.OpPop, 0, 50, 99, value(8))))
	wantNone(t, append(together(6, api.OpInsert, yes), call(8, api.OpContains, 7, 50, 99, yes), call(9, api.OpDelete, 1, 300, 301, no)))
	// Two readers that see two pushes the other way round.
	turned := calls(
		call(0, api.OpEnqueue, 1, 0, 1, done), call(0, api.OpEnqueue, 2, 2, 3, done),
		call(1, api.OpDequeue, 0, 4, 5, value(2)), call(1, api.OpDequeue, 0, 6, 7, value(1)),
	)
	wantNone(t, turned)
	turned[0].End, turned[1] = 9, call(2, api.OpEnqueue, 2, 2, 8, done)
	wantFound(t, turned, 2, 1, 0, 2, 3)
}

// P12.7, P12.8: calls that have not ended stand in an order, or don't.
func TestFindOpen(t *testing.T) {
	pop := call(1, api.OpPop, 0, 1, 3, value(1))
	wantFound(t, calls(open(0, api.OpPush, 1, 0), pop), 1, 0, 1)
	wantNone(t, calls(open(0, api.OpPush, 2, 0), pop))
	wantNone(t, calls(pop, open(0, api.OpPush, 1, 4)))
	wantFound(t, calls(open(0, api.OpPush, 2, 0), call(1, api.OpPush, 1, 1, 3, done)), 3, 0, 1)
	wantFound(t, calls(call(1, api.OpPush, 1, 1, 3, done), open(0, api.OpPush, 2, 4)), 2, 0)
	// The one that hasn't ended may have been the one that took it, or not.
	l := calls(call(0, api.OpPush, 1, 0, 1, done), open(1, api.OpPop, 0, 2), call(2, api.OpPop, 0, 3, 5, empty), call(2, api.OpPop, 0, 6, 8, empty))
	wantFound(t, l, 1, 0, 1, 2, 3)
	l[2].Answer = value(1)
	wantFound(t, l, 3, 0, 2, 1, 3)
}

// P12.7, P12.8: one that answered Full stands in the order, in time, and does nothing.
func TestFindFull(t *testing.T) {
	for _, op := range []api.Op{api.OpPost, api.OpPush, api.OpEnqueue, api.OpInsert, api.OpAdd} {
		wantFound(t, calls(call(0, op, 1, 0, 1, full)), 1, 0)
		wantLeft(t, calls(call(0, op, 1, 0, 1, full)), list(0), api.Contents{})
		wantCheck(t, calls(call(0, op, 1, 0, 1, full)), nil, api.ErrOrder)
	}
	for _, op := range []api.Op{api.OpRead, api.OpPop, api.OpDequeue, api.OpDelete, api.OpContains, api.OpRemove, api.OpGet} {
		wantNone(t, calls(call(0, op, 1, 0, 1, full)))
	}
	l := calls(call(0, api.OpPush, 1, 0, 9, full), call(1, api.OpPop, 0, 1, 3, empty), call(1, api.OpPush, 1, 4, 6, done), call(1, api.OpPop, 0, 7, 8, value(1)))
	wantFound(t, l, 4, 0, 1, 2, 3)
	l[0].End = 2
	wantFound(t, l, 2, 0, 1, 2, 3)
}

// P12.7: the least order: by the first number at which it differs, not by how long it is.
func TestLeast(t *testing.T) {
	// 1 has not ended and need not stand, but the order that has it in front of 2 is the lesser one.
	wantFound(t, calls(call(0, api.OpPush, 1, 0, 10, done), open(1, api.OpPush, 2, 1), call(2, api.OpPush, 3, 2, 11, done)), 8, 0, 1, 2)
	// Behind the last that has ended none stands that has not.
	wantFound(t, calls(call(0, api.OpPush, 1, 0, 10, done), call(2, api.OpPush, 3, 2, 11, done), open(1, api.OpPush, 2, 12)), 4, 0, 1)
	// What the adds and gets answer tells that 4 stood first, and 2 in front of all others.
	l := calls(
		data(10, call(0, api.OpAdd, 5, 0, 20, no)),
		data(11, call(1, api.OpAdd, 5, 1, 21, no)),
		data(12, call(2, api.OpAdd, 5, 2, 22, yes)),
		call(3, api.OpGet, 5, 3, 23, value(12)),
		call(4, api.OpGet, 5, 4, 24, no),
	)
	wantFound(t, l, 6, 4, 2, 0, 1, 3)
}

// P12.7, P12.8: orders of the same calls that leave unlike contents go on in unlike ways: by the value of a key, by
// which keys there are, and behind many other keys.
func TestUnlikeLeft(t *testing.T) {
	add := func(thread, key, v, begin int) api.Call { return data(v, open(thread, api.OpAdd, key, begin)) }
	values := calls(add(0, 5, 10, 0), add(1, 5, 11, 1), call(2, api.OpGet, 5, 2, 3, value(11)))
	wantFound(t, values, 3, 1, 0, 2)
	keys := calls(
		add(0, 1, 9, 0), add(1, 2, 9, 1), open(2, api.OpRemove, 2, 2), open(3, api.OpRemove, 1, 3),
		call(4, api.OpGet, 2, 4, 6, value(9)), call(4, api.OpGet, 1, 7, 9, no),
	)
	wantPlainFound(t, keys)
	keys[4].Arg, keys[5].Arg = 1, 2
	wantPlainFound(t, keys)
	var many []api.Call
	for i := range 5 {
		many = append(many, data(i, call(0, api.OpAdd, i, 2*i, 2*i+1, yes)))
	}
	many = append(many, add(1, 9, 10, 20), add(2, 9, 11, 21), call(0, api.OpGet, 9, 22, 23, value(11)))
	wantFound(t, many, 3, 0, 1, 2, 3, 4, 6, 5, 7)
}
